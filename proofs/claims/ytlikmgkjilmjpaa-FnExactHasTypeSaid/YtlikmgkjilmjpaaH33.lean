/-
  Merged by program: ValRd.
-/
import Derived.Test.YtlikmgkjilmjpaaH32

/-
  The iterator over a value's lists, where nothing is written: what the stack reads.
-/
namespace Go.Proofs.Ytlikmgkjilmjpaa
open Go.RowKit

/-- the cells lie behind A in W; what they say is read in w -/
def RowLV (w W : World) (A : Option Addr) (ts : List Va) : Prop := ∃ ps : Nat → List Value, ∀ j t, ts[j]? = some t → RVa w t (ps j) ∧ ∃ ad, A = some ad ∧ ∀ i u, (ps j)[i]? = some u → W.cell? (ad.add (j * 4 + i)) = some u
theorem RVas.rowLV {w W : World} {A : Option Addr} {ts : List Va} (h : RVas w A ts) (hb : Below w.heap.size w W) : RowLV w W A ts := by
  obtain ⟨ps, hp⟩ := h
  refine ⟨ps, fun j t hj => ?_⟩
  obtain ⟨h1, ad, h2, h3⟩ := hp j t hj
  exact ⟨h1, ad, h2, fun i u hi => (hb.cell (World.block_lt_of_cell? w _ (h3 i u hi))).trans (h3 i u hi)⟩
theorem RowLV.held {w W W' : World} {A : Option Addr} {ts : List Va} {K : Nat → Prop} (h : RowLV w W A ts) (hH : Held K W W') (hK : ∀ b ∈ blk A, K b) : RowLV w W' A ts := by
  obtain ⟨ps, hp⟩ := h
  refine ⟨ps, fun j t hj => ?_⟩
  obtain ⟨h1, ad, rfl, h3⟩ := hp j t hj
  exact ⟨h1, ad, rfl, fun i u hi => hH.cell (by rw [addr_blk]; exact hK _ (by simp [blk])) (h3 i u hi)⟩
/-- every list of the stack is read; it lies in old memory or in the block G -/
def StkR (w : World) (G : Nat) (S : Stk) (W : World) : Prop := ∀ p ∈ S, ∃ A c, p.2 = .slice A p.1.length c ∧ p.1.length ≤ 9223372036854775807 ∧ RowLV w W A p.1 ∧ ∀ b ∈ blk A, p.1.length = 0 ∨ b < w.heap.size ∨ b = G
theorem StkR.held {w W W' : World} {G : Nat} {S : Stk} {K : Nat → Prop} (h : StkR w G S W) (hH : Held K W W') (hK : ∀ b, b < w.heap.size ∨ b = G → K b) : StkR w G S W' := by
  intro p hp
  obtain ⟨A, c, h1, h2, h3, h4⟩ := h p hp
  refine ⟨A, c, h1, h2, ?_, h4⟩
  by_cases h0 : p.1.length = 0
  · have : p.1 = [] := List.eq_nil_of_length_eq_zero h0
    rw [this]
    exact ⟨fun _ => [], fun j t hj => by simp at hj⟩
  · exact h3.held hH fun b hb => hK b ((h4 b hb).resolve_left h0)
theorem mem_pushTo {ts : List Va} {As : Nat → Value} {S : Stk} {p : List Va × Value} : ∀ {k}, p ∈ pushTo ts As S k → p ∈ S ∨ ∃ j, ∃ h : j < ts.length, p = (ts[j].kids, As j)
  | 0, h => .inl h
  | k + 1, h => by
    by_cases hk : k < ts.length
    · rw [pushTo_more hk] at h
      split at h
      · exact mem_pushTo h
      · rcases List.mem_cons.1 h with rfl | h
        · exact .inr ⟨k, hk, rfl⟩
        · exact mem_pushTo h
    · have e : pushTo ts As S (k + 1) = pushTo ts As S k := by
        show (match ts[k]? with | some t => _ | none => _) = _
        rw [List.getElem?_eq_none (by omega)]
      rw [e] at h
      exact mem_pushTo h
/-- the nodes that a slice reads lie somewhere -/
theorem rvas_blk {w : World} {A : Option Addr} {ts : List Va} (h : RVas w A ts) : ∀ b ∈ blk A, ts.length = 0 ∨ b < w.heap.size := by
  intro b hb
  by_cases h0 : ts.length = 0
  · exact .inl h0
  · obtain ⟨ps, hp⟩ := h
    obtain ⟨h1, ad, rfl, h3⟩ := hp 0 ts[0] (List.getElem?_eq_getElem (by omega))
    have hl : (ps 0).length = 4 := h1.len
    have hc := h3 0 _ (List.getElem?_eq_getElem (by omega))
    have := World.block_lt_of_cell? w _ hc
    rw [addr_blk] at this
    simp [blk] at hb
    subst hb
    exact .inr this
theorem stkR_next {w W : World} {G lo : Nat} {F : Nat → Prop} {ts : List Va} {s : Value} {S : Stk} (h : StkR w G ((ts, s) :: S) W) (hb : Below w.heap.size w W) (hw : w.heap.size ≤ lo) (hG : G < lo) :
    ∃ As, RowC lo F W s ts As ∧ StkR w G (pushAll ts As S) W := by
  obtain ⟨A, c, h1, h2, ⟨ps, hp⟩, h4⟩ := h (ts, s) (by simp)
  simp only at h1 h2 hp h4
  have hcell : ∀ j t, ts[j]? = some t → ∃ L l A' c', ps j = [.int .i64 t.top.kind, .int .i64 t.top.num, .slice L t.top.labels.length l, .slice A' t.kids.length c'] ∧ RVas w A' t.kids ∧ t.kids.length ≤ 9223372036854775807 := by
    intro j t hj
    obtain ⟨L, l, A', c', he, _, _, hk, hr⟩ := (hp j t hj).1.open
    exact ⟨L, l, A', c', he, hr, hk⟩
  refine ⟨fun j => (ps j).getD 3 undef, ⟨A, c, h1, h2, fun j t hj => ?_⟩, fun p hpm => ?_⟩
  · obtain ⟨L, l, A', c', he, _, _⟩ := hcell j t hj
    obtain ⟨_, ad, rfl, h3⟩ := hp j t hj
    rw [he] at h3
    have h0 : ts.length ≠ 0 := by have := (List.getElem?_eq_some_iff.1 hj).1; omega
    refine ⟨ad, _, _, L, _, l, A', c', rfl, ?_, by show (ps j).getD 3 undef = _; rw [he]; rfl, h3 0 _ rfl, h3 1 _ rfl, h3 2 _ rfl, by show _ = some ((ps j).getD 3 undef); rw [he]; exact h3 3 _ rfl⟩
    rcases h4 ad.block (by simp [blk]) with h | h | h
    · exact absurd h h0
    · exact .inl (by omega)
    · exact .inl (by omega)
  · rcases mem_pushTo hpm with hm | ⟨j, hj, rfl⟩
    · exact h p (by simp [hm])
    · obtain ⟨L, l, A', c', he, hr, hk⟩ := hcell j _ (List.getElem?_eq_getElem hj)
      refine ⟨A', c', by show (ps j).getD 3 undef = _; rw [he]; rfl, hk, hr.rowLV hb, fun b hbm => ?_⟩
      exact (rvas_blk hr b hbm).imp id .inl
def sizesS (S : Stk) : Nat := (S.map fun p => sizesV p.1).sum
theorem sizesS_cons (p : List Va × Value) (S : Stk) : sizesS (p :: S) = sizesV p.1 + sizesS S := by simp [sizesS]
theorem sizesS_pushTo (ts : List Va) (As : Nat → Value) (S : Stk) : ∀ k, k ≤ ts.length → sizesS (pushTo ts As S k) + k = sizesS S + sizesV (ts.take k)
  | 0, _ => by simp [pushTo, sizesV]
  | k + 1, hk => by
    have ih := sizesS_pushTo ts As S k (by omega)
    have hk' : k < ts.length := by omega
    have h1 : sizesV (ts.take (k + 1)) = sizesV (ts.take k) + ts[k].size := sum_take_succ Tr.size ts k hk'
    have h2 := sizesV_kids ts[k]
    rw [pushTo_more hk']
    split
    · next h0 =>
      have : ts[k].kids = [] := List.eq_nil_of_length_eq_zero h0
      rw [this] at h2
      have : sizesV [] = 0 := rfl
      omega
    · rw [sizesS_cons]
      show sizesV ts[k].kids + _ + _ = _
      omega
theorem sizesS_push (ts : List Va) (As : Nat → Value) (S : Stk) (s : Value) : sizesS (pushAll ts As S) + ts.length = sizesS ((ts, s) :: S) := by
  have h := sizesS_pushTo ts As S ts.length (Nat.le_refl _)
  rw [List.take_length] at h
  rw [sizesS_cons]
  show sizesS (pushAll ts As S) + _ = sizesV ts + sizesS S
  unfold pushAll
  omega
theorem sizesV_one (t : Va) : sizesV [t] = t.size := by simp [sizesV]
/-- a list of one value, in a block of its own -/
theorem stkR_one {w W : World} {G : Nat} {t : Va} {c0 c1 c2 c3 : Value} (h : RVa w t [c0, c1, c2, c3]) (hx : Box4 W G 30 c0 c1 c2 c3) : StkR w G [([t], .slice (some ⟨G, 0, none⟩) 1 1)] W := by
  intro p hp
  simp at hp
  subst hp
  refine ⟨some ⟨G, 0, none⟩, 1, rfl, by simp, ⟨fun _ => [c0, c1, c2, c3], fun j s hj => ?_⟩, fun b hb => .inr (.inr (by simpa [blk] using hb))⟩
  match j, hj with
  | 0, hj =>
    simp at hj
    subst hj
    refine ⟨h, _, rfl, fun i u hi => ?_⟩
    match i, hi with
    | 0, hi => simp at hi; subst hi; simpa [Addr.add] using hx.c0
    | 1, hi => simp at hi; subst hi; simpa [Addr.add] using hx.c1
    | 2, hi => simp at hi; subst hi; simpa [Addr.add] using hx.c2
    | 3, hi => simp at hi; subst hi; simpa [Addr.add] using hx.c3
    | i + 4, hi => simp at hi
  | j + 1, hj => simp at hj
theorem boxed_below {A C : World} {B D : Nat} {ty : TypeId} {v : Value} (h : Boxed A B ty v) (hb : Below D A C) (hB : B < D) : Boxed C B ty v := (hb.block B hB).trans h
end Go.Proofs.Ytlikmgkjilmjpaa
