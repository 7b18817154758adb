/-
  Merged by program: CopI, ValRd.
-/
import Derived.Test.YtlcpekpgkllbkaaR31
import Derived.Test.YtlcpekpgkllbkaaR32
import Derived.Test.YtlcpekpgkllbkaaR34

/-
  The program's copyValue: what its inner loop keeps.
-/
namespace Go.Proofs.Ytlcpekpgkllbkaa
open Go.RowKit Go.Shelf

attribute [local go_sem] Oper.semAt_some

/-- the cells of a list of values, one behind the other -/
theorem rvas_cells {w : World} {A : Option Addr} {ks : List Va} (h : RVas w A ks) : ∃ news : List Value, news.length = ks.length * 4 ∧ Sl w A news ∧ (∀ u ∈ news, u.oneCell' = true) ∧ ∀ j t, ks[j]? = some t → RVa w t (part4 news j) := by
  obtain ⟨ps, hp⟩ := h
  have go : ∀ k, k ≤ ks.length → ∃ news : List Value, news.length = k * 4 ∧ Sl w A news ∧ (∀ u ∈ news, u.oneCell' = true) ∧ ∀ j t, j < k → ks[j]? = some t → RVa w t (part4 news j) := by
    intro k
    induction k with
    | zero => intro _; exact ⟨[], rfl, fun j u hj => by simp at hj, fun u hu => by simp at hu, fun j t hj => by omega⟩
    | succ k ih =>
      intro hk
      obtain ⟨news, h1, h2, h3, h4⟩ := ih (by omega)
      obtain ⟨hr, ad, hA, hc⟩ := hp k _ (List.getElem?_eq_getElem (show k < ks.length by omega))
      obtain ⟨L, c, A', d, he, _⟩ := hr.open
      rw [he] at hc hr
      refine ⟨news ++ [.int .i64 ks[k].top.kind, .int .i64 ks[k].top.num, .slice L ks[k].top.labels.length c, .slice A' ks[k].kids.length d], by simp [h1]; omega, fun j u hj => ?_, fun u hu => ?_, fun j t hj ht => ?_⟩
      · rcases Nat.lt_or_ge j news.length with hlt | hge
        · rw [List.getElem?_append_left hlt] at hj
          exact h2 j u hj
        · rw [List.getElem?_append_right hge] at hj
          refine ⟨ad, hA, ?_⟩
          have e : j = k * 4 + (j - news.length) := by omega
          rw [e]
          exact hc _ u hj
      · rcases List.mem_append.1 hu with hu | hu
        · exact h3 u hu
        · simp only [List.mem_cons, List.not_mem_nil, or_false] at hu
          rcases hu with rfl | rfl | rfl | rfl <;> rfl
      · rcases Nat.lt_or_ge j k with hlt | hge
        · have e : part4 (news ++ [.int .i64 ks[k].top.kind, .int .i64 ks[k].top.num, .slice L ks[k].top.labels.length c, .slice A' ks[k].kids.length d]) j = part4 news j := part4_ext fun i hi => by rw [List.getElem?_append_left (by omega)]
          rw [e]
          exact h4 j t hlt ht
        · have ej : j = k := by omega
          subst ej
          rw [List.getElem?_eq_getElem (by omega)] at ht
          injection ht with ht
          subst ht
          have e : part4 (news ++ [.int .i64 ks[j].top.kind, .int .i64 ks[j].top.num, .slice L ks[j].top.labels.length c, .slice A' ks[j].kids.length d]) j = [.int .i64 ks[j].top.kind, .int .i64 ks[j].top.num, .slice L ks[j].top.labels.length c, .slice A' ks[j].kids.length d] := by
            unfold part4
            rw [List.drop_append_of_le_length (by omega), List.drop_eq_nil_of_le (by omega)]
            rfl
          rw [e]
          exact hr
  obtain ⟨news, h1, h2, h3, h4⟩ := go ks.length (Nat.le_refl _)
  exact ⟨news, h1, h2, h3, fun j t hj => h4 j t (List.getElem?_eq_some_iff.1 hj).1 hj⟩
theorem wv_labels (t : Va) : t.top.labels.length ≤ wv t := by
  cases t with
  | node a ks => rw [wv_node]; show a.labels.length ≤ _; unfold wvA; omega
theorem wv_kid {t k : Va} (h : k ∈ t.kids) : wv k ≤ wv t := by
  cases t with
  | node a ks =>
    rw [wv_node]
    have : wv k ≤ (ks.map wv).sum := by
      have h' : k ∈ ks := h
      clear h
      induction ks with
      | nil => cases h'
      | cons x xs ih =>
        rcases List.mem_cons.1 h' with rfl | h'
        · simp
        · have := ih h'; simp; omega
    unfold wvK
    omega
theorem wv_kids (t : Va) : t.kids.length ≤ wv t := by
  cases t with
  | node a ks => rw [wv_node]; show ks.length ≤ _; unfold wvK; omega
/-- two cells of the j-th struct replaced -/
def put4b {β : Type} (xs : List β) (j : Nat) (c d : β) : List β := (xs.set (j * 4 + 2) c).set (j * 4 + 3) d
theorem put4b_other {β : Type} (xs : List β) (j k : Nat) (c d : β) (h : k ≠ j) : part4 (put4b xs j c d) k = part4 xs k := by
  refine part4_ext fun i hi => ?_
  unfold put4b
  rw [List.getElem?_set_ne (by omega), List.getElem?_set_ne (by omega)]
theorem put4b_at {xs : List Value} {j : Nat} {a b c0 d0 : Value} (c d : Value) (h : j * 4 + 4 ≤ xs.length) (hp : part4 xs j = [a, b, c0, d0]) : part4 (put4b xs j c d) j = [a, b, c, d] := by
  have g : ∀ i, i < 4 → xs[j * 4 + i]? = [a, b, c0, d0][i]? := fun i hi => by rw [← part4_get _ _ _ hi, hp]
  apply List.ext_getElem?
  intro i
  by_cases hi : i < 4
  · rw [part4_get _ _ _ hi]
    unfold put4b
    have h2 : j * 4 + 2 < xs.length := by omega
    have h3 : j * 4 + 3 < xs.length := by omega
    match i, hi with
    | 0, _ => rw [List.getElem?_set_ne (by omega), List.getElem?_set_ne (by omega), g 0 (by omega)]; rfl
    | 1, _ => rw [List.getElem?_set_ne (by omega), List.getElem?_set_ne (by omega), g 1 (by omega)]; rfl
    | 2, _ => rw [List.getElem?_set_ne (by omega)]; simp [h2]
    | 3, _ => simp [h3]
  · rw [List.getElem?_eq_none (by rw [part4_len _ _ (by unfold put4b; simp; omega)]; omega), List.getElem?_eq_none (by simp; omega)]

/-- node j is whole but for what its parts still share -/
def CopD (w wr : World) (ys : List Value) (Ls : Nat → Option Addr) (cs : Nat → Nat) (As : Nat → Value) (j : Nat) (t : Va) : Prop :=
  part4 ys j = [.int .i64 t.top.kind, .int .i64 t.top.num, .slice (Ls j) t.top.labels.length (cs j), As j] ∧ t.top.ok ∧ wr.ownsRow 0 9 1 (.slice (Ls j) t.top.labels.length (cs j)) t.top.labels.length (t.top.labels.map Value.string) ∧ ListC w wr (t.kids, As j) ∧ (t.kids.length = 0 → As j = .slice none 0 0)
/-- between two rounds of the inner loop -/
def CopRel (w W : World) (ts : List Va) (g cap : Nat) (xs : List Value) (k : Nat) (wr : World) : Prop :=
  ∃ ys Ls cs As, wr.ownsRow 0 92 4 (.slice (some ⟨g, 0, none⟩) ts.length cap) ts.length ys ∧ (∀ j t, j < k → ts[j]? = some t → CopD w wr ys Ls cs As j t) ∧ (∀ j, k ≤ j → part4 ys j = part4 xs j) ∧
    ((List.range k).flatMap fun j => blk (Ls j) ++ rowBk (As j)).Nodup ∧ (∀ b ∈ (List.range k).flatMap fun j => blk (Ls j) ++ rowBk (As j), W.heap.size ≤ b ∧ b < wr.heap.size) ∧ Held (fun i => i ≠ g) W wr
theorem CopD.held {w wr w' : World} {ys ys' : List Value} {Ls : Nat → Option Addr} {cs : Nat → Nat} {As : Nat → Value} {j : Nat} {t : Va} {K : Nat → Prop} (h : CopD w wr ys Ls cs As j t) (hH : Held K wr w') (hp : part4 ys' j = part4 ys j) (hK : ∀ b ∈ blk (Ls j) ++ rowBk (As j), K b) : CopD w w' ys' Ls cs As j t := by
  obtain ⟨h1, h2, h3, h4, h5⟩ := h
  exact ⟨hp.trans h1, h2, own_heldv h3 hH fun b hb => hK b (List.mem_append.2 (.inl hb)), h4.held hH fun b hb => hK b (List.mem_append.2 (.inr hb)), h5⟩
theorem cop_more {w W wr w' : World} {ts : List Va} {g cap k : Nat} {xs ys : List Value} {Ls : Nat → Option Addr} {cs : Nat → Nat} {As : Nat → Value} (hgW : g < W.heap.size) (hk : k < ts.length)
    (h1 : wr.ownsRow 0 92 4 (.slice (some ⟨g, 0, none⟩) ts.length cap) ts.length ys) (h2 : ∀ j t, j < k → ts[j]? = some t → CopD w wr ys Ls cs As j t) (h3 : ∀ j, k ≤ j → part4 ys j = part4 xs j)
    (h4 : ((List.range k).flatMap fun j => blk (Ls j) ++ rowBk (As j)).Nodup) (h5 : ∀ b ∈ (List.range k).flatMap fun j => blk (Ls j) ++ rowBk (As j), W.heap.size ≤ b ∧ b < wr.heap.size) (h6 : Held (fun i => i ≠ g) W wr)
    {v1 v2 c0 d0 : Value} {news : List Value} (hp : part4 xs k = [.int .i64 ts[k].top.kind, .int .i64 ts[k].top.num, c0, d0]) (hok : ts[k].top.ok)
    (q1 : w'.ownsRow 0 92 4 (.slice (some ⟨g, 0, none⟩) ts.length cap) ts.length (put4b ys k v1 v2)) (q2 : w'.ownsRow 0 9 1 v1 ts[k].top.labels.length (ts[k].top.labels.map Value.string)) (q3 : w'.ownsRow 0 92 4 v2 ts[k].kids.length news)
    (q4 : ts[k].kids.length = 0 → v2 = .slice none 0 0) (q5 : ∀ j t, ts[k].kids[j]? = some t → RVa w t (part4 news j) ∧ wv t ≤ 1048576) (q6 : ts[k].kids.length ≤ 1048577) (q7 : Held (fun i => i ≠ g) wr w') (q8 : ∀ b, v1.ownBlock = some b → wr.heap.size ≤ b) (q9 : ∀ b, v2.ownBlock = some b → wr.heap.size ≤ b) (q10 : ∀ b, v1.ownBlock = some b → v2.ownBlock = some b → False) :
    CopRel w W ts g cap xs (k + 1) w' := by
  obtain ⟨L1, c1, rfl⟩ := own_is q2
  obtain ⟨A2, c2, rfl⟩ := own_is q3
  have hsz := q7.size
  have hWr := h6.size
  have hyl : ys.length = ts.length * 4 := h1.1
  have hb1 : ∀ b ∈ blk L1, wr.heap.size ≤ b ∧ b < w'.heap.size := fun b hb => ⟨q8 b ((blk_own _ _ _ _).2 hb), (q2.lt b ((blk_own _ _ _ _).2 hb)).2⟩
  have hb2 : ∀ b ∈ blk A2, wr.heap.size ≤ b ∧ b < w'.heap.size := fun b hb => ⟨q9 b ((blk_own _ _ _ _).2 hb), (q3.lt b ((blk_own _ _ _ _).2 hb)).2⟩
  have hfl : ((List.range (k + 1)).flatMap fun j => blk ((fun j => if j = k then L1 else Ls j) j) ++ rowBk ((fun j => if j = k then .slice A2 ts[k].kids.length c2 else As j) j)) = ((List.range k).flatMap fun j => blk (Ls j) ++ rowBk (As j)) ++ (blk L1 ++ blk A2) := by
    rw [List.range_succ, List.flatMap_append]
    congr 1
    · refine flatMap_same fun j hj => ?_
      simp only
      rw [if_neg (by omega), if_neg (by omega)]
    · simp [rowBk]
  refine ⟨_, fun j => if j = k then L1 else Ls j, fun j => if j = k then c1 else cs j, fun j => if j = k then .slice A2 ts[k].kids.length c2 else As j, q1, fun j t hj ht => ?_, fun j hj => ?_, ?_, ?_, h6.trans q7⟩
  · by_cases e : j = k
    · subst e
      rw [List.getElem?_eq_getElem hk] at ht
      injection ht with ht
      subst ht
      unfold CopD
      simp only [if_true]
      exact ⟨put4b_at _ _ (by omega) ((h3 j (Nat.le_refl _)).trans hp), hok, q2, ⟨A2, c2, news, rfl, q6, q3, q5⟩, q4⟩
    · have hd := (h2 j t (by omega) ht).held q7 (ys' := put4b ys k (.slice L1 ts[k].top.labels.length c1) (.slice A2 ts[k].kids.length c2)) (put4b_other _ _ _ _ _ e) (fun b hb e => by
        have := h5 b (in_flat.2 ⟨j, by omega, hb⟩); omega)
      unfold CopD at hd ⊢
      simp only [if_neg e]
      exact hd
  · rw [put4b_other _ _ _ _ _ (by omega)]
    exact h3 j (by omega)
  · rw [hfl]
    refine List.nodup_append.2 ⟨h4, List.nodup_append.2 ⟨by cases L1 <;> simp [blk], by cases A2 <;> simp [blk], fun x hx y hy e => ?_⟩, fun x hx y hy e => ?_⟩
    · subst e; exact q10 x ((blk_own _ _ _ _).2 hx) ((blk_own _ _ _ _).2 hy)
    · have := h5 x hx
      rcases List.mem_append.1 hy with h | h
      · have := (hb1 y h).1; omega
      · have := (hb2 y h).1; omega
  · rw [hfl]
    intro b hb
    rcases List.mem_append.1 hb with h | h
    · have := h5 b h; exact ⟨this.1, by omega⟩
    · rcases List.mem_append.1 h with h | h
      · have := hb1 b h; omega
      · have := hb2 b h; omega
end Go.Proofs.Ytlcpekpgkllbkaa

/-
  The iterator over a value's lists, where nothing is written: what the stack reads.
-/
namespace Go.Proofs.Ytlcpekpgkllbkaa
open Go.RowKit

/-- the cells lie behind A in W; what they say is read in w -/
def RowLV (w W : World) (A : Option Addr) (ts : List Va) : Prop := ∃ ps : Nat → List Value, ∀ j t, ts[j]? = some t → RVa w t (ps j) ∧ ∃ ad, A = some ad ∧ ∀ i u, (ps j)[i]? = some u → W.cell? (ad.add (j * 4 + i)) = some u
theorem RVas.rowLV {w W : World} {A : Option Addr} {ts : List Va} (h : RVas w A ts) (hb : Below w.heap.size w W) : RowLV w W A ts := by
  obtain ⟨ps, hp⟩ := h
  refine ⟨ps, fun j t hj => ?_⟩
  obtain ⟨h1, ad, h2, h3⟩ := hp j t hj
  exact ⟨h1, ad, h2, fun i u hi => (hb.cell (World.block_lt_of_cell? w _ (h3 i u hi))).trans (h3 i u hi)⟩
theorem RowLV.held {w W W' : World} {A : Option Addr} {ts : List Va} {K : Nat → Prop} (h : RowLV w W A ts) (hH : Held K W W') (hK : ∀ b ∈ blk A, K b) : RowLV w W' A ts := by
  obtain ⟨ps, hp⟩ := h
  refine ⟨ps, fun j t hj => ?_⟩
  obtain ⟨h1, ad, rfl, h3⟩ := hp j t hj
  exact ⟨h1, ad, rfl, fun i u hi => hH.cell (by rw [addr_blk]; exact hK _ (by simp [blk])) (h3 i u hi)⟩
/-- every list of the stack is read; it lies in old memory or in the block G -/
def StkR (w : World) (G : Nat) (S : Stk) (W : World) : Prop := ∀ p ∈ S, ∃ A c, p.2 = .slice A p.1.length c ∧ p.1.length ≤ 9223372036854775807 ∧ RowLV w W A p.1 ∧ ∀ b ∈ blk A, p.1.length = 0 ∨ b < w.heap.size ∨ b = G
theorem StkR.held {w W W' : World} {G : Nat} {S : Stk} {K : Nat → Prop} (h : StkR w G S W) (hH : Held K W W') (hK : ∀ b, b < w.heap.size ∨ b = G → K b) : StkR w G S W' := by
  intro p hp
  obtain ⟨A, c, h1, h2, h3, h4⟩ := h p hp
  refine ⟨A, c, h1, h2, ?_, h4⟩
  by_cases h0 : p.1.length = 0
  · have : p.1 = [] := List.eq_nil_of_length_eq_zero h0
    rw [this]
    exact ⟨fun _ => [], fun j t hj => by simp at hj⟩
  · exact h3.held hH fun b hb => hK b ((h4 b hb).resolve_left h0)
theorem mem_pushTo {ts : List Va} {As : Nat → Value} {S : Stk} {p : List Va × Value} : ∀ {k}, p ∈ pushTo ts As S k → p ∈ S ∨ ∃ j, ∃ h : j < ts.length, p = (ts[j].kids, As j)
  | 0, h => .inl h
  | k + 1, h => by
    by_cases hk : k < ts.length
    · rw [pushTo_more hk] at h
      split at h
      · exact mem_pushTo h
      · rcases List.mem_cons.1 h with rfl | h
        · exact .inr ⟨k, hk, rfl⟩
        · exact mem_pushTo h
    · have e : pushTo ts As S (k + 1) = pushTo ts As S k := by
        show (match ts[k]? with | some t => _ | none => _) = _
        rw [List.getElem?_eq_none (by omega)]
      rw [e] at h
      exact mem_pushTo h
/-- the nodes that a slice reads lie somewhere -/
theorem rvas_blk {w : World} {A : Option Addr} {ts : List Va} (h : RVas w A ts) : ∀ b ∈ blk A, ts.length = 0 ∨ b < w.heap.size := by
  intro b hb
  by_cases h0 : ts.length = 0
  · exact .inl h0
  · obtain ⟨ps, hp⟩ := h
    obtain ⟨h1, ad, rfl, h3⟩ := hp 0 ts[0] (List.getElem?_eq_getElem (by omega))
    have hl : (ps 0).length = 4 := h1.len
    have hc := h3 0 _ (List.getElem?_eq_getElem (by omega))
    have := World.block_lt_of_cell? w _ hc
    rw [addr_blk] at this
    simp [blk] at hb
    subst hb
    exact .inr this
theorem stkR_next {w W : World} {G lo : Nat} {F : Nat → Prop} {ts : List Va} {s : Value} {S : Stk} (h : StkR w G ((ts, s) :: S) W) (hb : Below w.heap.size w W) (hw : w.heap.size ≤ lo) (hG : G < lo) :
    ∃ As, RowC lo F W s ts As ∧ StkR w G (pushAll ts As S) W := by
  obtain ⟨A, c, h1, h2, ⟨ps, hp⟩, h4⟩ := h (ts, s) (by simp)
  simp only at h1 h2 hp h4
  have hcell : ∀ j t, ts[j]? = some t → ∃ L l A' c', ps j = [.int .i64 t.top.kind, .int .i64 t.top.num, .slice L t.top.labels.length l, .slice A' t.kids.length c'] ∧ RVas w A' t.kids ∧ t.kids.length ≤ 9223372036854775807 := by
    intro j t hj
    obtain ⟨L, l, A', c', he, _, _, hk, hr⟩ := (hp j t hj).1.open
    exact ⟨L, l, A', c', he, hr, hk⟩
  refine ⟨fun j => (ps j).getD 3 undef, ⟨A, c, h1, h2, fun j t hj => ?_⟩, fun p hpm => ?_⟩
  · obtain ⟨L, l, A', c', he, _, _⟩ := hcell j t hj
    obtain ⟨_, ad, rfl, h3⟩ := hp j t hj
    rw [he] at h3
    have h0 : ts.length ≠ 0 := by have := (List.getElem?_eq_some_iff.1 hj).1; omega
    refine ⟨ad, _, _, L, _, l, A', c', rfl, ?_, by show (ps j).getD 3 undef = _; rw [he]; rfl, h3 0 _ rfl, h3 1 _ rfl, h3 2 _ rfl, by show _ = some ((ps j).getD 3 undef); rw [he]; exact h3 3 _ rfl⟩
    rcases h4 ad.block (by simp [blk]) with h | h | h
    · exact absurd h h0
    · exact .inl (by omega)
    · exact .inl (by omega)
  · rcases mem_pushTo hpm with hm | ⟨j, hj, rfl⟩
    · exact h p (by simp [hm])
    · obtain ⟨L, l, A', c', he, hr, hk⟩ := hcell j _ (List.getElem?_eq_getElem hj)
      refine ⟨A', c', by show (ps j).getD 3 undef = _; rw [he]; rfl, hk, hr.rowLV hb, fun b hbm => ?_⟩
      exact (rvas_blk hr b hbm).imp id .inl
def sizesS (S : Stk) : Nat := (S.map fun p => sizesV p.1).sum
theorem sizesS_cons (p : List Va × Value) (S : Stk) : sizesS (p :: S) = sizesV p.1 + sizesS S := by simp [sizesS]
theorem sizesS_pushTo (ts : List Va) (As : Nat → Value) (S : Stk) : ∀ k, k ≤ ts.length → sizesS (pushTo ts As S k) + k = sizesS S + sizesV (ts.take k)
  | 0, _ => by simp [pushTo, sizesV]
  | k + 1, hk => by
    have ih := sizesS_pushTo ts As S k (by omega)
    have hk' : k < ts.length := by omega
    have h1 : sizesV (ts.take (k + 1)) = sizesV (ts.take k) + ts[k].size := sum_take_succ Tr.size ts k hk'
    have h2 := sizesV_kids ts[k]
    rw [pushTo_more hk']
    split
    · next h0 =>
      have : ts[k].kids = [] := List.eq_nil_of_length_eq_zero h0
      rw [this] at h2
      have : sizesV [] = 0 := rfl
      omega
    · rw [sizesS_cons]
      show sizesV ts[k].kids + _ + _ = _
      omega
theorem sizesS_push (ts : List Va) (As : Nat → Value) (S : Stk) (s : Value) : sizesS (pushAll ts As S) + ts.length = sizesS ((ts, s) :: S) := by
  have h := sizesS_pushTo ts As S ts.length (Nat.le_refl _)
  rw [List.take_length] at h
  rw [sizesS_cons]
  show sizesS (pushAll ts As S) + _ = sizesV ts + sizesS S
  unfold pushAll
  omega
theorem sizesV_one (t : Va) : sizesV [t] = t.size := by simp [sizesV]
/-- a list of one value, in a block of its own -/
theorem stkR_one {w W : World} {G : Nat} {t : Va} {c0 c1 c2 c3 : Value} (h : RVa w t [c0, c1, c2, c3]) (hx : Box4 W G 92 c0 c1 c2 c3) : StkR w G [([t], .slice (some ⟨G, 0, none⟩) 1 1)] W := by
  intro p hp
  simp at hp
  subst hp
  refine ⟨some ⟨G, 0, none⟩, 1, rfl, by simp, ⟨fun _ => [c0, c1, c2, c3], fun j s hj => ?_⟩, fun b hb => .inr (.inr (by simpa [blk] using hb))⟩
  match j, hj with
  | 0, hj =>
    simp at hj
    subst hj
    refine ⟨h, _, rfl, fun i u hi => ?_⟩
    match i, hi with
    | 0, hi => simp at hi; subst hi; simpa [Addr.add] using hx.c0
    | 1, hi => simp at hi; subst hi; simpa [Addr.add] using hx.c1
    | 2, hi => simp at hi; subst hi; simpa [Addr.add] using hx.c2
    | 3, hi => simp at hi; subst hi; simpa [Addr.add] using hx.c3
    | i + 4, hi => simp at hi
  | j + 1, hj => simp at hj
end Go.Proofs.Ytlcpekpgkllbkaa
