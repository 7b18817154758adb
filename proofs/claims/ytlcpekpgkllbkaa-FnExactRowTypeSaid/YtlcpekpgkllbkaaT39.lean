/-
  Merged by program: CopIT.
-/
import Derived.Test.YtlcpekpgkllbkaaT35
import Derived.Test.YtlcpekpgkllbkaaT36
import Derived.Test.YtlcpekpgkllbkaaT38

/-
  The program's copyValue: what its inner loop keeps.
-/
namespace Go.Proofs.Ytlcpekpgkllbkaa
open Go.RowKit Go.Shelf

attribute [local go_sem] Oper.semAt_some

/-- the cells of a list of values, one behind the other -/
theorem rkids_cells {w : World} {A : Option Addr} {ks : List Ty} (h : RKids w A ks) : ∃ news : List Value, news.length = ks.length * 3 ∧ Sl w A news ∧ (∀ u ∈ news, u.oneCell' = true) ∧ ∀ j t, ks[j]? = some t → RTy w t (part3 news j) := by
  obtain ⟨ps, hp⟩ := h
  have go : ∀ k, k ≤ ks.length → ∃ news : List Value, news.length = k * 3 ∧ Sl w A news ∧ (∀ u ∈ news, u.oneCell' = true) ∧ ∀ j t, j < k → ks[j]? = some t → RTy w t (part3 news j) := by
    intro k
    induction k with
    | zero => intro _; exact ⟨[], rfl, fun j u hj => by simp at hj, fun u hu => by simp at hu, fun j t hj => by omega⟩
    | succ k ih =>
      intro hk
      obtain ⟨news, h1, h2, h3, h4⟩ := ih (by omega)
      obtain ⟨hr, ad, hA, hc⟩ := hp k _ (List.getElem?_eq_getElem (show k < ks.length by omega))
      obtain ⟨L, c, A', d, he, _⟩ := RTy.openT hr
      rw [he] at hc hr
      refine ⟨news ++ [.int .i64 ks[k].top.kind, .slice L ks[k].top.labels.length c, .slice A' ks[k].kids.length d], by simp [h1]; omega, fun j u hj => ?_, fun u hu => ?_, fun j t hj ht => ?_⟩
      · rcases Nat.lt_or_ge j news.length with hlt | hge
        · rw [List.getElem?_append_left hlt] at hj
          exact h2 j u hj
        · rw [List.getElem?_append_right hge] at hj
          refine ⟨ad, hA, ?_⟩
          have e : j = k * 3 + (j - news.length) := by omega
          rw [e]
          exact hc _ u hj
      · rcases List.mem_append.1 hu with hu | hu
        · exact h3 u hu
        · simp only [List.mem_cons, List.not_mem_nil, or_false] at hu
          rcases hu with rfl | rfl | rfl <;> rfl
      · rcases Nat.lt_or_ge j k with hlt | hge
        · have e : part3 (news ++ [.int .i64 ks[k].top.kind, .slice L ks[k].top.labels.length c, .slice A' ks[k].kids.length d]) j = part3 news j := part3_ext fun i hi => by rw [List.getElem?_append_left (by omega)]
          rw [e]
          exact h4 j t hlt ht
        · have ej : j = k := by omega
          subst ej
          rw [List.getElem?_eq_getElem (by omega)] at ht
          injection ht with ht
          subst ht
          have e : part3 (news ++ [.int .i64 ks[j].top.kind, .slice L ks[j].top.labels.length c, .slice A' ks[j].kids.length d]) j = [.int .i64 ks[j].top.kind, .slice L ks[j].top.labels.length c, .slice A' ks[j].kids.length d] := by
            unfold part3
            rw [List.drop_append_of_le_length (by omega), List.drop_eq_nil_of_le (by omega)]
            rfl
          rw [e]
          exact hr
  obtain ⟨news, h1, h2, h3, h4⟩ := go ks.length (Nat.le_refl _)
  exact ⟨news, h1, h2, h3, fun j t hj => h4 j t (List.getElem?_eq_some_iff.1 hj).1 hj⟩
theorem wv_labelsT (t : Ty) : t.top.labels.length ≤ wt t := by
  cases t with
  | node a ks => rw [wt_node]; show a.labels.length ≤ _; unfold wtA; omega
theorem wv_kidT {t k : Ty} (h : k ∈ t.kids) : wt k ≤ wt t := by
  cases t with
  | node a ks =>
    rw [wt_node]
    have : wt k ≤ (ks.map wt).sum := by
      have h' : k ∈ ks := h
      clear h
      induction ks with
      | nil => cases h'
      | cons x xs ih =>
        rcases List.mem_cons.1 h' with rfl | h'
        · simp
        · have := ih h'; simp; omega
    unfold wtK
    omega
theorem wv_kidsT (t : Ty) : t.kids.length ≤ wt t := by
  cases t with
  | node a ks => rw [wt_node]; show ks.length ≤ _; unfold wtK; omega
/-- two cells of the j-th struct replaced -/
def put3bT {β : Type} (xs : List β) (j : Nat) (c d : β) : List β := (xs.set (j * 3 + 1) c).set (j * 3 + 2) d
theorem put3b_otherT {β : Type} (xs : List β) (j k : Nat) (c d : β) (h : k ≠ j) : part3 (put3bT xs j c d) k = part3 xs k := by
  refine part3_ext fun i hi => ?_
  unfold put3bT
  rw [List.getElem?_set_ne (by omega), List.getElem?_set_ne (by omega)]
theorem put3b_atT {xs : List Value} {j : Nat} {a c0 d0 : Value} (c d : Value) (h : j * 3 + 3 ≤ xs.length) (hp : part3 xs j = [a, c0, d0]) : part3 (put3bT xs j c d) j = [a, c, d] := by
  have g : ∀ i, i < 3 → xs[j * 3 + i]? = [a, c0, d0][i]? := fun i hi => by rw [← part3_get _ _ _ hi, hp]
  apply List.ext_getElem?
  intro i
  by_cases hi : i < 3
  · rw [part3_get _ _ _ hi]
    unfold put3bT
    have h2 : j * 3 + 1 < xs.length := by omega
    have h3 : j * 3 + 2 < xs.length := by omega
    match i, hi with
    | 0, _ => rw [List.getElem?_set_ne (by omega), List.getElem?_set_ne (by omega), g 0 (by omega)]; rfl
    | 1, _ => rw [List.getElem?_set_ne (by omega)]; simp [h2]
    | 2, _ => simp [h3]
  · rw [List.getElem?_eq_none (by rw [part3_len _ _ (by unfold put3bT; simp; omega)]; omega), List.getElem?_eq_none (by simp; omega)]

/-- node j is whole but for what its parts still share -/
def CopDT (w wr : World) (ys : List Value) (Ls : Nat → Option Addr) (cs : Nat → Nat) (As : Nat → Value) (j : Nat) (t : Ty) : Prop :=
  part3 ys j = [.int .i64 t.top.kind, .slice (Ls j) t.top.labels.length (cs j), As j] ∧ t.top.ok ∧ wr.ownsRow 0 9 1 (.slice (Ls j) t.top.labels.length (cs j)) t.top.labels.length (t.top.labels.map Value.string) ∧ ListCT w wr (t.kids, As j) ∧ (t.kids.length = 0 → As j = .slice none 0 0)
/-- between two rounds of the inner loop -/
def CopRelT (w W : World) (ts : List Ty) (g cap : Nat) (xs : List Value) (k : Nat) (wr : World) : Prop :=
  ∃ ys Ls cs As, wr.ownsRow 0 36 3 (.slice (some ⟨g, 0, none⟩) ts.length cap) ts.length ys ∧ (∀ j t, j < k → ts[j]? = some t → CopDT w wr ys Ls cs As j t) ∧ (∀ j, k ≤ j → part3 ys j = part3 xs j) ∧
    ((List.range k).flatMap fun j => blk (Ls j) ++ rowBkT (As j)).Nodup ∧ (∀ b ∈ (List.range k).flatMap fun j => blk (Ls j) ++ rowBkT (As j), W.heap.size ≤ b ∧ b < wr.heap.size) ∧ Held (fun i => i ≠ g) W wr
theorem CopDT.held {w wr w' : World} {ys ys' : List Value} {Ls : Nat → Option Addr} {cs : Nat → Nat} {As : Nat → Value} {j : Nat} {t : Ty} {K : Nat → Prop} (h : CopDT w wr ys Ls cs As j t) (hH : Held K wr w') (hp : part3 ys' j = part3 ys j) (hK : ∀ b ∈ blk (Ls j) ++ rowBkT (As j), K b) : CopDT w w' ys' Ls cs As j t := by
  obtain ⟨h1, h2, h3, h4, h5⟩ := h
  exact ⟨hp.trans h1, h2, own_heldt h3 hH fun b hb => hK b (List.mem_append.2 (.inl hb)), h4.held hH fun b hb => hK b (List.mem_append.2 (.inr hb)), h5⟩
theorem cop_moreT {w W wr w' : World} {ts : List Ty} {g cap k : Nat} {xs ys : List Value} {Ls : Nat → Option Addr} {cs : Nat → Nat} {As : Nat → Value} (hgW : g < W.heap.size) (hk : k < ts.length)
    (h1 : wr.ownsRow 0 36 3 (.slice (some ⟨g, 0, none⟩) ts.length cap) ts.length ys) (h2 : ∀ j t, j < k → ts[j]? = some t → CopDT w wr ys Ls cs As j t) (h3 : ∀ j, k ≤ j → part3 ys j = part3 xs j)
    (h4 : ((List.range k).flatMap fun j => blk (Ls j) ++ rowBkT (As j)).Nodup) (h5 : ∀ b ∈ (List.range k).flatMap fun j => blk (Ls j) ++ rowBkT (As j), W.heap.size ≤ b ∧ b < wr.heap.size) (h6 : Held (fun i => i ≠ g) W wr)
    {v1 v2 c0 d0 : Value} {news : List Value} (hp : part3 xs k = [.int .i64 ts[k].top.kind, c0, d0]) (hok : ts[k].top.ok)
    (q1 : w'.ownsRow 0 36 3 (.slice (some ⟨g, 0, none⟩) ts.length cap) ts.length (put3bT ys k v1 v2)) (q2 : w'.ownsRow 0 9 1 v1 ts[k].top.labels.length (ts[k].top.labels.map Value.string)) (q3 : w'.ownsRow 0 36 3 v2 ts[k].kids.length news)
    (q4 : ts[k].kids.length = 0 → v2 = .slice none 0 0) (q5 : ∀ j t, ts[k].kids[j]? = some t → RTy w t (part3 news j) ∧ wt t ≤ 1048576) (q6 : ts[k].kids.length ≤ 1048577) (q7 : Held (fun i => i ≠ g) wr w') (q8 : ∀ b, v1.ownBlock = some b → wr.heap.size ≤ b) (q9 : ∀ b, v2.ownBlock = some b → wr.heap.size ≤ b) (q10 : ∀ b, v1.ownBlock = some b → v2.ownBlock = some b → False) :
    CopRelT w W ts g cap xs (k + 1) w' := by
  obtain ⟨L1, c1, rfl⟩ := own_is q2
  obtain ⟨A2, c2, rfl⟩ := own_is q3
  have hsz := q7.size
  have hWr := h6.size
  have hyl : ys.length = ts.length * 3 := h1.1
  have hb1 : ∀ b ∈ blk L1, wr.heap.size ≤ b ∧ b < w'.heap.size := fun b hb => ⟨q8 b ((blk_own _ _ _ _).2 hb), (q2.lt b ((blk_own _ _ _ _).2 hb)).2⟩
  have hb2 : ∀ b ∈ blk A2, wr.heap.size ≤ b ∧ b < w'.heap.size := fun b hb => ⟨q9 b ((blk_own _ _ _ _).2 hb), (q3.lt b ((blk_own _ _ _ _).2 hb)).2⟩
  have hfl : ((List.range (k + 1)).flatMap fun j => blk ((fun j => if j = k then L1 else Ls j) j) ++ rowBkT ((fun j => if j = k then .slice A2 ts[k].kids.length c2 else As j) j)) = ((List.range k).flatMap fun j => blk (Ls j) ++ rowBkT (As j)) ++ (blk L1 ++ blk A2) := by
    rw [List.range_succ, List.flatMap_append]
    congr 1
    · refine flatMap_sameT fun j hj => ?_
      simp only
      rw [if_neg (by omega), if_neg (by omega)]
    · simp [rowBkT]
  refine ⟨_, fun j => if j = k then L1 else Ls j, fun j => if j = k then c1 else cs j, fun j => if j = k then .slice A2 ts[k].kids.length c2 else As j, q1, fun j t hj ht => ?_, fun j hj => ?_, ?_, ?_, h6.trans q7⟩
  · by_cases e : j = k
    · subst e
      rw [List.getElem?_eq_getElem hk] at ht
      injection ht with ht
      subst ht
      unfold CopDT
      simp only [if_true]
      exact ⟨put3b_atT _ _ (by omega) ((h3 j (Nat.le_refl _)).trans hp), hok, q2, ⟨A2, c2, news, rfl, q6, q3, q5⟩, q4⟩
    · have hd := (h2 j t (by omega) ht).held q7 (ys' := put3bT ys k (.slice L1 ts[k].top.labels.length c1) (.slice A2 ts[k].kids.length c2)) (put3b_otherT _ _ _ _ _ e) (fun b hb e => by
        have := h5 b (in_flatT.2 ⟨j, by omega, hb⟩); omega)
      unfold CopDT at hd ⊢
      simp only [if_neg e]
      exact hd
  · rw [put3b_otherT _ _ _ _ _ (by omega)]
    exact h3 j (by omega)
  · rw [hfl]
    refine List.nodup_append.2 ⟨h4, List.nodup_append.2 ⟨by cases L1 <;> simp [blk], by cases A2 <;> simp [blk], fun x hx y hy e => ?_⟩, fun x hx y hy e => ?_⟩
    · subst e; exact q10 x ((blk_own _ _ _ _).2 hx) ((blk_own _ _ _ _).2 hy)
    · have := h5 x hx
      rcases List.mem_append.1 hy with h | h
      · have := (hb1 y h).1; omega
      · have := (hb2 y h).1; omega
  · rw [hfl]
    intro b hb
    rcases List.mem_append.1 hb with h | h
    · have := h5 b h; exact ⟨this.1, by omega⟩
    · rcases List.mem_append.1 h with h | h
      · have := hb1 b h; omega
      · have := hb2 b h; omega
end Go.Proofs.Ytlcpekpgkllbkaa
