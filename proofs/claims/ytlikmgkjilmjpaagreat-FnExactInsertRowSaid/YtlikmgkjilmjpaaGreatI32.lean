/-
  Merged by program: ConcV, ValRd, CopV.
-/
import Derived.Test.YtlikmgkjilmjpaaGreatI1
import Derived.Test.YtlikmgkjilmjpaaGreatI10
import Derived.Test.YtlikmgkjilmjpaaGreatI6
import Derived.Lib.AppendZeros
import Derived.Test.YtlikmgkjilmjpaaGreatI23

/-
  The library's Grow at a nil slice, and Concat of two lists of values (four cells each).
-/
namespace Go.Proofs.YtlikmgkjilmjpaaGreat
open Go.RowKit

section
variable {P : Program}
theorem run_append_noneN (w : World) (base size : Nat) (t ty e : TypeId) (i : TypeInfo) (ht : P.underlying t = some (.slice e)) (hi : P.info? e = some i) (v : Value) (n : Nat) (xs : List Value) (hown : w.ownsRow base e size v n xs) (c : Nat) :
    (Builtin.append_ #[t, t] ty #[v, .slice none 0 c]).run P w = .ok v w := by
  rcases hown.2 with ⟨rfl, rfl⟩ | ⟨g, cap, cur, rfl, _, _, hnc, _⟩
  · simp [Builtin.append_, run_underlying ht, sizeOf, typeInfo, hi, Builtin.lenOf, Builtin.firstCells]
  · simp [Builtin.append_, run_underlying ht, sizeOf, typeInfo, hi, Builtin.lenOf, Builtin.firstCells, hnc, storeCells]
/-- an append onto a row of the call's own of a list that may have no address; elements of any size -/
theorem wpList_append_slN (w : World) {ops : Array Oper} {rest : List Oper} {o : Oper} {a : Act} {Q : Exit → Act → World → Prop} (hgd : o.guard = none) (s x : Operand) (t : TypeId)
    (ho : o.op = .call { callee := .builtin .append, args := #[s, x], argTypes := #[t, t] })
    (base : Nat) (e : TypeId) (i : TypeInfo) (z : Value) (size bytes : Nat) (ht : P.underlying t = some (.slice e)) (hi : P.info? e = some i) (hz : i.zero = some z) (hsize : i.size = size) (hby : i.bytes = bytes) (hzs : z.cells.size = size) (hsz : 0 < size)
    (v : Value) (n : Nat) (xs : List Value) (hs : a.eval s = v) (hown : w.ownsRow base e size v n xs) (A : Option Addr) (m c : Nat) (news : List Value) (hx : a.eval x = .slice A m c) (hl : news.length = m * size) (hnews : Sl w A news) (h1 : ∀ u ∈ news, u.oneCell' = true)
    (h63 : n + m ≤ maxLen) (hbytes : (n + m) * bytes ≤ 140737488355328) (hbase : base ≤ w.heap.size)
    (h : ∀ v' w', w'.ownsRow base e size v' (n + m) (xs ++ news) → w.grownBy w' v.ownBlock → (v'.ownBlock = v.ownBlock ∨ v'.ownBlock = some w.heap.size) → wpList P ops Q rest (a.put o.dst v') w') : wpList P ops Q (o :: rest) a w := by
  cases A with
  | none =>
    have hn : news = [] := by
      cases news with
      | nil => rfl
      | cons u r =>
        obtain ⟨ad, e, _⟩ := hnews 0 u rfl
        cases e
    subst hn
    have hm : m = 0 := by
      rcases Nat.eq_zero_or_pos m with h | h
      · exact h
      · have := Nat.mul_pos h hsz
        simp only [List.length_nil] at hl
        omega
    subst hm
    exact Lib.wpList_append_run w hgd s x t t ho _ _ hs hx v w (run_append_noneN w base size t o.type e i ht hi v n xs hown c) (h v w (by simpa using hown) (World.grownBy.refl w _) (.inl rfl))
  | some ad =>
    have hc : ∀ j u, news[j]? = some u → w.cell? (ad.add j) = some u := by
      intro j u hj
      obtain ⟨ad', e, hcc⟩ := hnews j u hj
      injection e with e
      subst e
      exact hcc
    obtain ⟨v', w', h2, h3, h4, _, h5⟩ := run_append_own_at (P := P) w base t o.type e i z size bytes ht hi hz hsize hby hzs hsz v n xs hown ad m c news hl hc h1 h63 hbytes hbase
    exact Lib.wpList_append_run w hgd s x t t ho _ _ hs hx v' w' h2 (h v' w' h3 h4 h5)
end

/-- a row of values in new memory, cell by cell -/
def OwnC (n : Nat) (xs : List Value) (w : World) (e : Ending) (w' : World) : Prop :=
  ∃ (A : Option Addr) (c : Nat), e = .returned (.slice A n c) ∧ w'.ownsRow w.heap.size 47 4 (.slice A n c) n xs ∧ Below w.heap.size w w'
theorem own_zerosV (w : World) (n : Nat) (e : TypeId) (h : n ≤ maxLen) :
    (w.drew.alloc (.cells (Builtin.zeroCells (Value.agg #[.int .i64 0, .int .i64 0, .slice none 0 0, .slice none 0 0]).cells n ++ Builtin.zeroCells (Value.agg #[.int .i64 0, .int .i64 0, .slice none 0 0, .slice none 0 0]).cells (grownCap w n 0 e - n)) e)).ownsRow w.heap.size e 4 (.slice (some ⟨w.heap.size, 0, none⟩) 0 (grownCap w n 0 e)) 0 [] := by
  have hge := grownCap_ge w n 0 e
  refine ⟨by simp, .inr ⟨w.heap.size, _, _, rfl, Nat.le_refl _, heap_alloc_new w.drew _, Nat.zero_le _, grownCap_le_maxLen w n 0 e h, ?_, by simp⟩⟩
  simp [Builtin.zeroCells, Value.cells]
  omega

set_option maxRecDepth 100000 in
set_option maxHeartbeats 1600000 in
theorem growV_any (n : Nat) (w : World) (hn : n ≤ 2097152) : Calls Tryz.prog 60 #[.slice none 0 0, .int .i64 n] w (OwnC 0 [] w) := by
  obtain ⟨i0, hi, hz0, hz1, hz2⟩ := info_parts infoVa
  rcases Nat.eq_zero_or_pos n with rfl | hp
  · go_enter Tryz.func60, Tryz.ntmps60
    go_wp2_with fail
    go_ret
    exact ⟨none, 0, rfl, World.ownsRow_nil _ _ _ _, Below.refl _ _⟩
  · have hr := fun ty => Lib.run_append_nil_zeros (P := Tryz.prog) w 45 3 ty 47 i0 (.agg #[.int .i64 0, .int .i64 0, .slice none 0 0, .slice none 0 0]) .i64 .i64 Tryz.underlying45 Tryz.underlying3 hi hz0 n hp (by rw [hz1]; omega) (by omega) (by rw [hz2]; omega)
    have ho := own_zerosV w n 47 (by unfold maxLen; omega)
    have HR := Lib.hid hr
    have HO := Lib.hid ho
    clear hr ho
    go_enter Tryz.func60, Tryz.ntmps60
    go_wp2_with (at_builtin; refine Lib.wpList_append_run _ rfl (.tmp 20) (.tmp 21) 45 3 rfl _ _ rfl rfl _ _ (HR.out _) ?_)
    go_ret
    exact ⟨_, _, rfl, HO.out, (Below.refl _ _).drew.alloc (Nat.le_refl _) _⟩

/-- the sum that the first loop makes; what the second one has collected -/
def CatInvV (n m : Nat) (sz i : Value) : Prop := (i = .int .i64 0 ∧ sz = .int .i64 0) ∨ (i = .int .i64 1 ∧ sz = .int .i64 n) ∨ (i = .int .i64 2 ∧ sz = .int .i64 (n + m : Nat))
def DInvV (n m : Nat) (xs ys : List Value) (w : World) (v i : Value) (wr : World) : Prop :=
  ∃ (q : Nat) (o : List Value) (A : Option Addr) (c : Nat), v = .slice A q c ∧ wr.ownsRow w.heap.size 47 4 (.slice A q c) q o ∧ Below w.heap.size w wr ∧
    ((i = .int .i64 0 ∧ o = [] ∧ q = 0) ∨ (i = .int .i64 1 ∧ o = xs ∧ q = n) ∨ (i = .int .i64 2 ∧ o = xs ++ ys ∧ q = n + m))
theorem dinvV_more {n m q : Nat} {xs ys o : List Value} {w wr : World} {v i : Value} (h : wr.ownsRow w.heap.size 47 4 v q o) (hb : Below w.heap.size w wr)
    (hi : (i = .int .i64 1 ∧ o = xs ∧ q = n) ∨ (i = .int .i64 2 ∧ o = xs ++ ys ∧ q = n + m)) : DInvV n m xs ys w v i wr := by
  obtain ⟨A, c, rfl⟩ := own_shape3 h
  exact ⟨q, o, A, c, rfl, h, hb, .inr hi⟩

set_option maxRecDepth 100000 in
set_option maxHeartbeats 3200000 in
theorem concV_any (g : Nat) (A B : Option Addr) (c d n m : Nat) (xs ys : List Value) (w : World) (h0 : w.cell? ⟨g, 0, none⟩ = some (.slice A n c)) (h1 : w.cell? ⟨g, 1, none⟩ = some (.slice B m d)) (hxl : xs.length = n * 4) (hyl : ys.length = m * 4) (hx1 : ∀ u ∈ xs, u.oneCell' = true) (hy1 : ∀ u ∈ ys, u.oneCell' = true)
    (hA : Sl w A xs) (hB : Sl w B ys) (hnm : n + m ≤ 2097152) :
    Calls Tryz.prog 36 #[.slice (some ⟨g, 0, none⟩) 2 2] w (OwnC (n + m) (xs ++ ys) w) := by
  obtain ⟨i0, hi, hz0, hz1, hz2⟩ := info_parts infoVa
  have hg : g < w.heap.size := World.block_lt_of_cell? w _ h0
  have hn : n ≤ 2097152 := by omega
  have hm : m ≤ 2097152 := by omega
  have HXL := Lib.hid hxl
  have HYL := Lib.hid hyl
  have HX1 := Lib.hid hx1
  have HY1 := Lib.hid hy1
  clear hxl hyl hx1 hy1
  go_enter Tryz.func36, Tryz.ntmps36
  go_wp2_with fail
  go_loop [3, 11] (fun sz i => CatInvV n m sz i) (fun _ i => 2 - (intOf i).toNat)
  case atStart => exact .inl ⟨rfl, rfl⟩
  case round =>
    rcases hrel with ⟨rfl, rfl⟩ | ⟨rfl, rfl⟩ | ⟨rfl, rfl⟩
    · go_wp2_with fail
      go_round
      case rel => exact .inr (.inl ⟨rfl, by go_num⟩)
      case measure => simp [intOf]
    · go_wp2_with fail
      go_round
      case rel => exact .inr (.inr ⟨rfl, by go_num⟩)
      case measure => simp [intOf]
    · go_wp2_with fail
      refine (growV_any (n + m) w (by omega)).mono ?_
      rintro e w1 ⟨A1, c1, rfl, hown1, hb1⟩
      have HB1 := Lib.hid hb1
      have HO1 := Lib.hid hown1
      clear hb1 hown1
      go_wp2_with fail
      go_loopw [6, 27] (fun v i wr => DInvV n m xs ys w v i wr) (fun _ i _ => 2 - (intOf i).toNat)
      case atStart => exact ⟨0, [], A1, c1, rfl, HO1.out, HB1.out, .inl ⟨rfl, rfl, rfl⟩⟩
      case round =>
        obtain ⟨q, o, A2, c2, rfl, hown, hb, hj⟩ := hrel
        have hsz := hb.size
        have k0 : wr.cell? ⟨g, 0, none⟩ = some (.slice A n c) := (hb.cell hg).trans h0
        have k1 : wr.cell? ⟨g, 1, none⟩ = some (.slice B m d) := (hb.cell hg).trans h1
        have HA := Lib.hid (hA.below hb)
        have HBs := Lib.hid (hB.below hb)
        have HO := Lib.hid hown
        clear hown h0 h1
        rcases hj with ⟨rfl, rfl, rfl⟩ | ⟨rfl, rfl, rfl⟩ | ⟨rfl, rfl, rfl⟩
        · go_wp2_with (at_builtin; refine wpList_append_slN _ rfl (.tmp 31) (.tmp 32) 45 rfl w.heap.size 47 i0 _ 4 64 Tryz.underlying45 hi hz0 hz1 hz2 (by rfl) (by omega) _ _ _ rfl HO.out A n c xs rfl HXL.out HA.out HX1.out (by unfold maxLen; omega) (by omega) hsz ?_; intro v' w2 hown2 hg2 _)
          have hb2 : Below w.heap.size w w2 := hb.grown hg2 hsz (fun q hq => (HO.out.lt q hq).1)
          go_roundw
          case rel => exact dinvV_more (by simpa using hown2) hb2 (.inl ⟨rfl, rfl, rfl⟩)
          case measure => simp [intOf]
        · go_wp2_with (at_builtin; refine wpList_append_slN _ rfl (.tmp 31) (.tmp 32) 45 rfl w.heap.size 47 i0 _ 4 64 Tryz.underlying45 hi hz0 hz1 hz2 (by rfl) (by omega) _ _ _ rfl HO.out B m d ys rfl HYL.out HBs.out HY1.out (by unfold maxLen; omega) (by omega) hsz ?_; intro v' w2 hown2 hg2 _)
          have hb2 : Below w.heap.size w w2 := hb.grown hg2 hsz (fun q hq => (HO.out.lt q hq).1)
          go_roundw
          case rel => exact dinvV_more hown2 hb2 (.inr ⟨rfl, rfl, rfl⟩)
          case measure => simp [intOf]
        · go_wp2_with fail
          go_ret
          exact ⟨A2, c2, rfl, HO.out, hb⟩
end Go.Proofs.YtlikmgkjilmjpaaGreat

/-
  The iterator over a value's lists, where nothing is written: what the stack reads.
-/
namespace Go.Proofs.YtlikmgkjilmjpaaGreat
open Go.RowKit

/-- the cells lie behind A in W; what they say is read in w -/
def RowLV (w W : World) (A : Option Addr) (ts : List Va) : Prop := ∃ ps : Nat → List Value, ∀ j t, ts[j]? = some t → RVa w t (ps j) ∧ ∃ ad, A = some ad ∧ ∀ i u, (ps j)[i]? = some u → W.cell? (ad.add (j * 4 + i)) = some u
theorem RVas.rowLV {w W : World} {A : Option Addr} {ts : List Va} (h : RVas w A ts) (hb : Below w.heap.size w W) : RowLV w W A ts := by
  obtain ⟨ps, hp⟩ := h
  refine ⟨ps, fun j t hj => ?_⟩
  obtain ⟨h1, ad, h2, h3⟩ := hp j t hj
  exact ⟨h1, ad, h2, fun i u hi => (hb.cell (World.block_lt_of_cell? w _ (h3 i u hi))).trans (h3 i u hi)⟩
theorem RowLV.held {w W W' : World} {A : Option Addr} {ts : List Va} {K : Nat → Prop} (h : RowLV w W A ts) (hH : Held K W W') (hK : ∀ b ∈ blk A, K b) : RowLV w W' A ts := by
  obtain ⟨ps, hp⟩ := h
  refine ⟨ps, fun j t hj => ?_⟩
  obtain ⟨h1, ad, rfl, h3⟩ := hp j t hj
  exact ⟨h1, ad, rfl, fun i u hi => hH.cell (by rw [addr_blk]; exact hK _ (by simp [blk])) (h3 i u hi)⟩
/-- every list of the stack is read; it lies in old memory or in the block G -/
def StkR (w : World) (G : Nat) (S : Stk) (W : World) : Prop := ∀ p ∈ S, ∃ A c, p.2 = .slice A p.1.length c ∧ p.1.length ≤ 9223372036854775807 ∧ RowLV w W A p.1 ∧ ∀ b ∈ blk A, p.1.length = 0 ∨ b < w.heap.size ∨ b = G
theorem StkR.held {w W W' : World} {G : Nat} {S : Stk} {K : Nat → Prop} (h : StkR w G S W) (hH : Held K W W') (hK : ∀ b, b < w.heap.size ∨ b = G → K b) : StkR w G S W' := by
  intro p hp
  obtain ⟨A, c, h1, h2, h3, h4⟩ := h p hp
  refine ⟨A, c, h1, h2, ?_, h4⟩
  by_cases h0 : p.1.length = 0
  · have : p.1 = [] := List.eq_nil_of_length_eq_zero h0
    rw [this]
    exact ⟨fun _ => [], fun j t hj => by simp at hj⟩
  · exact h3.held hH fun b hb => hK b ((h4 b hb).resolve_left h0)
theorem mem_pushTo {ts : List Va} {As : Nat → Value} {S : Stk} {p : List Va × Value} : ∀ {k}, p ∈ pushTo ts As S k → p ∈ S ∨ ∃ j, ∃ h : j < ts.length, p = (ts[j].kids, As j)
  | 0, h => .inl h
  | k + 1, h => by
    by_cases hk : k < ts.length
    · rw [pushTo_more hk] at h
      split at h
      · exact mem_pushTo h
      · rcases List.mem_cons.1 h with rfl | h
        · exact .inr ⟨k, hk, rfl⟩
        · exact mem_pushTo h
    · have e : pushTo ts As S (k + 1) = pushTo ts As S k := by
        show (match ts[k]? with | some t => _ | none => _) = _
        rw [List.getElem?_eq_none (by omega)]
      rw [e] at h
      exact mem_pushTo h
/-- the nodes that a slice reads lie somewhere -/
theorem rvas_blk {w : World} {A : Option Addr} {ts : List Va} (h : RVas w A ts) : ∀ b ∈ blk A, ts.length = 0 ∨ b < w.heap.size := by
  intro b hb
  by_cases h0 : ts.length = 0
  · exact .inl h0
  · obtain ⟨ps, hp⟩ := h
    obtain ⟨h1, ad, rfl, h3⟩ := hp 0 ts[0] (List.getElem?_eq_getElem (by omega))
    have hl : (ps 0).length = 4 := h1.len
    have hc := h3 0 _ (List.getElem?_eq_getElem (by omega))
    have := World.block_lt_of_cell? w _ hc
    rw [addr_blk] at this
    simp [blk] at hb
    subst hb
    exact .inr this
theorem stkR_next {w W : World} {G lo : Nat} {F : Nat → Prop} {ts : List Va} {s : Value} {S : Stk} (h : StkR w G ((ts, s) :: S) W) (hb : Below w.heap.size w W) (hw : w.heap.size ≤ lo) (hG : G < lo) :
    ∃ As, RowC lo F W s ts As ∧ StkR w G (pushAll ts As S) W := by
  obtain ⟨A, c, h1, h2, ⟨ps, hp⟩, h4⟩ := h (ts, s) (by simp)
  simp only at h1 h2 hp h4
  have hcell : ∀ j t, ts[j]? = some t → ∃ L l A' c', ps j = [.int .i64 t.top.kind, .int .i64 t.top.num, .slice L t.top.labels.length l, .slice A' t.kids.length c'] ∧ RVas w A' t.kids ∧ t.kids.length ≤ 9223372036854775807 := by
    intro j t hj
    obtain ⟨L, l, A', c', he, _, _, hk, hr⟩ := (hp j t hj).1.open
    exact ⟨L, l, A', c', he, hr, hk⟩
  refine ⟨fun j => (ps j).getD 3 undef, ⟨A, c, h1, h2, fun j t hj => ?_⟩, fun p hpm => ?_⟩
  · obtain ⟨L, l, A', c', he, _, _⟩ := hcell j t hj
    obtain ⟨_, ad, rfl, h3⟩ := hp j t hj
    rw [he] at h3
    have h0 : ts.length ≠ 0 := by have := (List.getElem?_eq_some_iff.1 hj).1; omega
    refine ⟨ad, _, _, L, _, l, A', c', rfl, ?_, by show (ps j).getD 3 undef = _; rw [he]; rfl, h3 0 _ rfl, h3 1 _ rfl, h3 2 _ rfl, by show _ = some ((ps j).getD 3 undef); rw [he]; exact h3 3 _ rfl⟩
    rcases h4 ad.block (by simp [blk]) with h | h | h
    · exact absurd h h0
    · exact .inl (by omega)
    · exact .inl (by omega)
  · rcases mem_pushTo hpm with hm | ⟨j, hj, rfl⟩
    · exact h p (by simp [hm])
    · obtain ⟨L, l, A', c', he, hr, hk⟩ := hcell j _ (List.getElem?_eq_getElem hj)
      refine ⟨A', c', by show (ps j).getD 3 undef = _; rw [he]; rfl, hk, hr.rowLV hb, fun b hbm => ?_⟩
      exact (rvas_blk hr b hbm).imp id .inl
def sizesS (S : Stk) : Nat := (S.map fun p => sizesV p.1).sum
theorem sizesS_cons (p : List Va × Value) (S : Stk) : sizesS (p :: S) = sizesV p.1 + sizesS S := by simp [sizesS]
theorem sizesS_pushTo (ts : List Va) (As : Nat → Value) (S : Stk) : ∀ k, k ≤ ts.length → sizesS (pushTo ts As S k) + k = sizesS S + sizesV (ts.take k)
  | 0, _ => by simp [pushTo, sizesV]
  | k + 1, hk => by
    have ih := sizesS_pushTo ts As S k (by omega)
    have hk' : k < ts.length := by omega
    have h1 : sizesV (ts.take (k + 1)) = sizesV (ts.take k) + ts[k].size := sum_take_succ Tr.size ts k hk'
    have h2 := sizesV_kids ts[k]
    rw [pushTo_more hk']
    split
    · next h0 =>
      have : ts[k].kids = [] := List.eq_nil_of_length_eq_zero h0
      rw [this] at h2
      have : sizesV [] = 0 := rfl
      omega
    · rw [sizesS_cons]
      show sizesV ts[k].kids + _ + _ = _
      omega
theorem sizesS_push (ts : List Va) (As : Nat → Value) (S : Stk) (s : Value) : sizesS (pushAll ts As S) + ts.length = sizesS ((ts, s) :: S) := by
  have h := sizesS_pushTo ts As S ts.length (Nat.le_refl _)
  rw [List.take_length] at h
  rw [sizesS_cons]
  show sizesS (pushAll ts As S) + _ = sizesV ts + sizesS S
  unfold pushAll
  omega
theorem sizesV_one (t : Va) : sizesV [t] = t.size := by simp [sizesV]
/-- a list of one value, in a block of its own -/
theorem stkR_one {w W : World} {G : Nat} {t : Va} {c0 c1 c2 c3 : Value} (h : RVa w t [c0, c1, c2, c3]) (hx : Box4 W G 47 c0 c1 c2 c3) : StkR w G [([t], .slice (some ⟨G, 0, none⟩) 1 1)] W := by
  intro p hp
  simp at hp
  subst hp
  refine ⟨some ⟨G, 0, none⟩, 1, rfl, by simp, ⟨fun _ => [c0, c1, c2, c3], fun j s hj => ?_⟩, fun b hb => .inr (.inr (by simpa [blk] using hb))⟩
  match j, hj with
  | 0, hj =>
    simp at hj
    subst hj
    refine ⟨h, _, rfl, fun i u hi => ?_⟩
    match i, hi with
    | 0, hi => simp at hi; subst hi; simpa [Addr.add] using hx.c0
    | 1, hi => simp at hi; subst hi; simpa [Addr.add] using hx.c1
    | 2, hi => simp at hi; subst hi; simpa [Addr.add] using hx.c2
    | 3, hi => simp at hi; subst hi; simpa [Addr.add] using hx.c3
    | i + 4, hi => simp at hi
  | j + 1, hj => simp at hj
theorem boxed_below {A C : World} {B D : Nat} {ty : TypeId} {v : Value} (h : Boxed A B ty v) (hb : Below D A C) (hB : B < D) : Boxed C B ty v := (hb.block B hB).trans h
end Go.Proofs.YtlikmgkjilmjpaaGreat

/-
  The program's copyValues.
-/
namespace Go.Proofs.YtlikmgkjilmjpaaGreat
open Go.RowKit Go.Shelf

attribute [local go_sem] Oper.semAt_some

theorem own_some {w : World} {base size n : Nat} {e : TypeId} {A : Option Addr} {c : Nat} {xs : List Value} (h : w.ownsRow base e size (.slice A n c) n xs) (hn : 0 < n) : ∃ g, A = some ⟨g, 0, none⟩ := by
  rcases h.2 with ⟨_, h2⟩ | ⟨g, cap, cur, h1, _⟩
  · omega
  · injection h1 with h1 _ _
    exact ⟨g, h1⟩
theorem kept_none {w w' : World} {base size n : Nat} {e : TypeId} {A : Option Addr} {c : Nat} {xs : List Value} (h : w.ownsRow base e size (.slice A n c) n xs) (hg : w.grownBy w' none) : w'.ownsRow base e size (.slice A n c) n xs :=
  own_keep h hg fun b _ => by simp
theorem below_alloc (w : World) (o : Obj) : Below w.heap.size w (w.alloc o) := (Below.refl _ _).alloc (Nat.le_refl _) o
theorem held_none {w w' : World} {K : Nat → Prop} (hg : w.grownBy w' none) : Held K w w' := Held.grown hg fun g h => by cases h

/-- the two stores of a round -/
theorem cop_fin {w W wr w1 w2 : World} {ts : List Va} {g d k nl nk : Nat} {xs ys news : List Value} {cells : Array Value} {v1 v2 : Value} {labs : List Value}
    (HM : ∀ (v1 v2 : Value) (w' : World), w'.ownsRow 0 47 4 (.slice (some ⟨g, 0, none⟩) ts.length d) ts.length (put4b ys k v1 v2) → w'.ownsRow 0 9 1 v1 nl labs → w'.ownsRow 0 47 4 v2 nk news → (nk = 0 → v2 = .slice none 0 0) → Held (fun i => i ≠ g) wr w' →
      (∀ b, v1.ownBlock = some b → wr.heap.size ≤ b) → (∀ b, v2.ownBlock = some b → wr.heap.size ≤ b) → (∀ b, v1.ownBlock = some b → v2.ownBlock = some b → False) → CopRel w W ts g d xs (k + 1) w')
    (ho1 : w1.ownsRow 0 9 1 v1 nl labs) (hg1 : (wr.alloc (.cells cells 47)).grownBy w1 none) (hb1 : ∀ b, v1.ownBlock = some b → b = (wr.alloc (.cells cells 47)).heap.size)
    (ho2 : w2.ownsRow 0 47 4 v2 nk news) (hg2 : (w1.setCell ⟨g, k * 4 + 2, none⟩ v1).grownBy w2 none) (hn2 : nk = 0 → v2 = .slice none 0 0) (hb2 : ∀ b, v2.ownBlock = some b → b = (w1.setCell ⟨g, k * 4 + 2, none⟩ v1).heap.size)
    (hr2 : w2.ownsRow 0 47 4 (.slice (some ⟨g, 0, none⟩) ts.length d) ts.length (ys.set (k * 4 + 2) v1)) (hgw : g < wr.heap.size) : CopRel w W ts g d xs (k + 1) (w2.setCell ⟨g, k * 4 + 3, none⟩ v2) := by
  obtain ⟨L1, c1, rfl⟩ := own_is ho1
  obtain ⟨A2, c2, rfl⟩ := own_is ho2
  have h0 : Held (fun i => i ≠ g) wr (wr.alloc (.cells cells 47)) := Held.of_below (below_alloc wr _) fun i hi _ => hi
  have h1 : Held (fun i => i ≠ g) (wr.alloc (.cells cells 47)) w1 := held_none hg1
  have h2 : Held (fun i => i ≠ g) w1 (w1.setCell ⟨g, k * 4 + 2, none⟩ (.slice L1 nl c1)) := Held.set w1 (fun h => h rfl) _
  have h3 : Held (fun i => i ≠ g) (w1.setCell ⟨g, k * 4 + 2, none⟩ (.slice L1 nl c1)) w2 := held_none hg2
  have h4 : Held (fun i => i ≠ g) w2 (w2.setCell ⟨g, k * 4 + 3, none⟩ (.slice A2 nk c2)) := Held.set w2 (fun h => h rfl) _
  have s0 := h0.size
  have s1 := h1.size
  have s2 := h2.size
  have e1 : ∀ b, (Value.slice L1 nl c1).ownBlock = some b → wr.heap.size ≤ b ∧ b < w1.heap.size := fun b hb => ⟨by have := hb1 b hb; omega, (ho1.lt b hb).2⟩
  have e2 : ∀ b, (Value.slice A2 nk c2).ownBlock = some b → w1.heap.size ≤ b := fun b hb => by have := hb2 b hb; omega
  refine HM _ _ _ (hr2.stored (k * 4 + 3) _).1 (own_heldv ho1 (h2.trans (h3.trans h4)) fun b hb => ?_) (own_heldv ho2 h4 fun b hb => ?_) hn2 (h0.trans (h1.trans (h2.trans (h3.trans h4)))) (fun b hb => (e1 b hb).1) (fun b hb => by have := e2 b hb; omega) (fun b hb hb' => ?_)
  · show b ≠ g
    have := e1 b ((blk_own _ _ _ _).2 hb); omega
  · show b ≠ g
    have := e2 b ((blk_own _ _ _ _).2 hb); omega
  · have := e1 b hb; have := e2 b hb'; omega

/-- a list of values in new memory -/
def MadeVs (ts : List Va) (w : World) (e : Ending) (w' : World) : Prop :=
  ∃ (A : Option Addr) (d : Nat) (fp : List Nat), e = .returned (.slice A ts.length d) ∧ OVs w' ts (.slice A ts.length d) fp ∧ (∀ b ∈ fp, w.heap.size ≤ b ∧ b < w'.heap.size) ∧ Below w.heap.size w w'

set_option maxRecDepth 100000 in
set_option maxHeartbeats 4000000 in
theorem implCopyVs_any (tl : List Va) (w : World) (A : Option Addr) (c : Nat) (h : RVas w A tl) (hw : ∀ t ∈ tl, wv t ≤ 1048576) (hl : tl.length ≤ 1048576) (hsz : sizesV tl ≤ 2097151) : Calls Tryz.prog 78 #[.slice A tl.length c] w (MadeVs tl w) := by
  obtain ⟨i0, hi0, hz0, hz1, hz2⟩ := info_parts infoVa
  obtain ⟨i1, hi1, hy0, hy1, hy2⟩ := info_parts infoStr
  obtain ⟨nws, hnl, hnsl, hn1, hnr⟩ := rvas_cells h
  obtain ⟨n, hn⟩ : ∃ n, tl.length = n := ⟨_, rfl⟩
  have HNL : Hid (nws.length = n * 4) := Lib.hid (by rw [← hn]; exact hnl)
  have HNSL := Lib.hid hnsl
  have HN1 := Lib.hid hn1
  have HNR : Hid (∀ j t, tl[j]? = some t → RVa w t (part4 nws j) ∧ wv t ≤ 1048576) := Lib.hid (fun j t hj => ⟨hnr j t hj, hw t (List.mem_of_getElem? hj)⟩)
  have HSZ := Lib.hid hsz
  have HTL := Lib.hid hn
  rw [hn] at hl ⊢
  clear h hw hsz hnl hnsl hn1 hnr hn
  refine (callsIn_wide (n := 9)).1 ?_
  refine callsIn_of_wp_marks Tryz.func78 rfl trivial ?_ rfl
  simp only [Tryz.ntmps78, List.size_toArray, List.length_cons, List.length_nil, Nat.reduceAdd, Nat.reduceSub, Array.replicate_succ, Array.replicate_zero, List.push_toArray, List.append_toArray, List.nil_append, List.cons_append]
  gi_wp2_with (gi_at_builtin; refine wpListIn_append_fresh rfl _ _ 45 rfl 47 i0 (.agg #[.int .i64 0, .int .i64 0, .slice none 0 0, .slice none 0 0]) 4 64 Tryz.underlying45 hi0 hz0 hz1 hz2 rfl (by decide) rfl A n c nws rfl HNL.out HNSL.out HN1.out (by unfold maxLen; omega) (by omega) ?_; intro v1 w1 ho1 hg1 hnil1 hb1; obtain ⟨A1, d1, rfl⟩ := own_is ho1)
  obtain ⟨G, hG⟩ : ∃ G, w1.heap.size = G := ⟨_, rfl⟩
  obtain ⟨W2, hW2⟩ : ∃ W2, (w1.alloc (.cells #[.slice A1 n d1] 45)).alloc (.cells #[.func (.func 106) #[] #[]] 142) = W2 := ⟨_, rfl⟩
  have hz2' : W2.heap.size = G + 2 := by rw [← hW2, ← hG]; simp
  have hb01 : Below w.heap.size w w1 := ⟨hg1.os, hg1.tape, hg1.output, hg1.size, fun i hi => hg1.block i hi (by simp)⟩
  have hb12 : Below w1.heap.size w1 W2 := by rw [← hW2]; exact (below_alloc w1 _).alloc (by simp) _
  have hb2 : Below w.heap.size w W2 := hb01.trans (hb12.mono hb01.size)
  have hbx : Boxed W2 G 45 (.slice A1 n d1) := by rw [← hW2, ← hG]; exact (Boxed.new w1 _ _).alloc _
  have hbf : Boxed W2 (G + 1) 142 (.func (.func 106) #[] #[]) := by
    rw [← hW2, ← hG]
    have := Boxed.new (w1.alloc (.cells #[.slice A1 n d1] 45)) 142 (.func (.func 106) #[] #[])
    rw [World.size_alloc] at this
    exact this
  have hrow : W2.ownsRow 0 47 4 (.slice A1 n d1) n nws := by
    rw [← hW2]
    exact (ho1.alloc _).alloc _
  have hA1 : ∀ b ∈ blk A1, w.heap.size ≤ b ∧ b < G := fun b hb => by
    have e := (blk_own A1 n d1 b).2 hb
    have h1 := hb1 b e
    have h2 := (ho1.lt b e).2
    omega
  have htl := HTL.out
  have hI0 : CopyI w tl (.slice A1 n d1) [(tl, .slice A1 n d1)] (fun b => b ∈ blk A1) W2 := by
    refine ⟨hb2, fun b hb => ?_, fun p hp => ?_, fun p hp => ?_, ?_, fun b hb => by simpa [rowsS, rowBk] using hb, ?_⟩
    · have := hA1 b hb; omega
    · rw [List.mem_singleton] at hp
      subst hp
      refine ⟨A1, d1, nws, by rw [htl], by show tl.length ≤ _; omega, ?_, HNR.out⟩
      show W2.ownsRow 0 47 4 (.slice A1 n d1) tl.length nws
      rw [htl]
      exact hrow
    · rw [List.mem_singleton] at hp
      subst hp
      by_cases h0 : n = 0
      · refine .inr ?_
        have e1 : tl = [] := List.eq_nil_of_length_eq_zero (by omega)
        rw [e1, hnil1 h0]
      · exact .inl (by show 0 < tl.length; omega)
    · cases A1 <;> simp [rowsS, rowBk, blk]
    · intro W' Φ _ hA hnd hin
      match Φ, hA with
      | [fp], hA => exact ⟨fp, hA.1, fun b hb => .inr (by simpa using hb)⟩
  have hL := valueLists_any w1 A1 n d1
  rw [hG] at hL
  have HL := Lib.hid hL
  have HW2 := Lib.hid hW2
  have HI0 := Lib.hid hI0
  have HZ2 := Lib.hid hz2'
  have HBX := Lib.hid hbx
  have HBF := Lib.hid hbf
  have HA1 := Lib.hid hA1
  clear hL hW2 hb01 hb12 hb2 hI0 hz2' hbx hbf hrow hA1 ho1 hg1 hnil1 hb1 hG htl
  gi_wp2_with (refine ⟨trivial, ?_⟩; gi_at_call 95; refine (callsIn_wide.2 HL.out).mono ?_; rintro e W3 ⟨rfl, rfl⟩; rw [HW2.out])
  have hDz := HZ2.out
  refine wpIn_givesV (n := 9) (w := W2) rfl (by decide) (gf := 123) (lb := #[.pointer (some ⟨G, 0, none⟩), .pointer (some ⟨G + 1, 0, none⟩)]) rfl trivial (enters_of Tryz.func123 (by kernel_rfl) rfl)
    (S0 := [(tl, .slice A1 n d1)]) (lo := G + 2) (Keep := fun q => q = G + 1) (by omega) (fun b hb => by omega) (fun W hW hz => ?gives)
    (fun S F W => CopyI w tl (.slice A1 n d1) S F W ∧ (∀ b, F b → b < G ∨ G + 4 ≤ b)) (fun _ => False) (fun S F A C hi hh => ⟨hi.1.keep (by have := hi.1.bel; have := HI0.out.bel.size; omega) hh, hi.2⟩) (fun S F A hi b hb => ⟨fun hk => by have := hi.2 b hb; omega, (hi.1.fr b hb).2⟩) (fun _ _ hf _ => hf) (fun b => b ∈ blk A1) ⟨HI0.out, fun b hb => .inl (HA1.out b hb).2⟩
    (fun v => { tmps := #[.slice A n c, undef, .slice none 0 0, .slice A1 n d1, v, undef, undef, .slice A n c, .slice A1 n d1, .slice A1 n d1, .func (.func 123) #[] #[.pointer (some ⟨G, 0, none⟩), .pointer (some ⟨G + 1, 0, none⟩)], v, undef, undef, undef, undef, undef, undef, undef, undef, undef, undef, undef, undef, undef, undef, undef, undef, undef, undef, undef, undef, undef, undef, undef], defers := [] }) ?assign ?body ?done ?stop
  case gives =>
    have h5 := HTL.out
    rw [← h5] at HBX ⊢
    refine valueLists1_gives tl A1 d1 (G + 2) (9 - 1) G (by decide) W (by have := hW.size; omega) (fun q => q = G + 1) rfl ((hW.block _ (by omega)).trans HBX.out) ((hW.block _ (by omega)).trans HBF.out) ?_
    have hss := HSZ.out
    rw [wS_cons]
    show 2 * sizesV tl + 1 + wS [] ≤ _
    simp [wS]
    omega
  case assign =>
    intro l v W K hK
    gi_wp2
    exact hK
  case body =>
    rintro l ts s S F W ⟨hI, hF2⟩ hDW _ _
    rw [hDz] at hDW
    obtain ⟨A, d, xs, hse, hts, hrow, hkid⟩ := hI.lst _ (List.mem_cons_self ..)
    have hne := hI.ne _ (List.mem_cons_self ..)
    simp only at hse hts hrow hkid hne
    rcases hne with hne | hne
    rotate_left
    · injection hne with e1 e2
      subst e1 e2
      have HE : Hid (givesPostV (G + 2) (fun S F W => CopyI w tl (.slice A1 n d1) S F W ∧ (∀ b, F b → b < G ∨ G + 4 ≤ b)) (fun _ => False) [] (.slice none 0 0) S F W .normal { tmps := #[], defers := [] } W) := Lib.hid ⟨Held.refl _ _, fun _ => .slice none 0 0, F, fun b hb => .inl hb, ⟨none, 0, rfl, by simp, fun j t hj => by simp at hj⟩, copy_none hI, hF2⟩
      clear hI hF2 hse hts hrow hkid
      gi_wp2
      gi_loopw [14] (fun i wr => i = .int .i64 0 ∧ wr = W) (fun _ _ => 0)
      case atStart => exact ⟨rfl, rfl⟩
      case round =>
        obtain ⟨rfl, rfl⟩ := hrel
        gi_wp2
        exact HE.out
    subst hse
    obtain ⟨g, rfl⟩ := own_some hrow hne
    have hgF : F g := hI.own g (by rw [rowsS_cons]; exact List.mem_append.2 (.inl (by simp [rowBk, blk])))
    have hgW : g < W.heap.size := (hI.fr g hgF).2
    have hgw : w.heap.size ≤ g := (hI.fr g hgF).1
    have hg2 := hF2 g hgF
    have HREL0 : Hid (CopRel w W ts g d xs 0 W) := ⟨xs, fun _ => none, fun _ => 0, fun _ => .slice none 0 0, hrow, fun j t hj => absurd hj (by omega), fun _ _ => rfl, by simp, by simp, Held.refl _ _⟩
    have HEND : Hid (∀ W2, CopRel w W ts g d xs ts.length W2 → givesPostV (G + 2) (fun S F W => CopyI w tl (.slice A1 n d1) S F W ∧ (∀ b, F b → b < G ∨ G + 4 ≤ b)) (fun _ => False) ts (.slice (some ⟨g, 0, none⟩) ts.length d) S F W .normal { tmps := #[], defers := [] } W2) := by
      rintro W2 ⟨ys, Ls, cs, As, h1, h2, h3, h4, h5, h6⟩
      obtain ⟨k1, F', k2, k3, k4⟩ := copy_next (lo := G + 2) hI hts h1 (fun j t hj => h2 j t (List.getElem?_eq_some_iff.1 hj).1 hj) h4 h5 h6
      exact ⟨k1, As, F', k2, k3, k4, fun b hb => (k2 b hb).elim (hF2 b) (fun h => .inr (by omega))⟩
    have HKID := Lib.hid hkid
    have HBW := Lib.hid hI.bel
    clear hI hF2 hrow hkid
    gi_wp2
    gi_loopw [14] (fun i wr => ∃ k : Nat, k ≤ ts.length ∧ i = .int .i64 (k : Int) ∧ CopRel w W ts g d xs k wr) (fun i _ => ts.length - (intOf i).toNat)
    case atStart => exact ⟨0, Nat.zero_le _, rfl, HREL0.out⟩
    case round =>
      obtain ⟨k, hk, rfl, hrel⟩ := hrel
      by_cases hlt : k < ts.length
      · obtain ⟨ys, Ls, ccs, As, h1, h2, h3, h4, h5, h6⟩ := hrel
        obtain ⟨hr, hwk⟩ := HKID.out k _ (List.getElem?_eq_getElem hlt)
        obtain ⟨L, lc, A, kd, hpe, hlab, hok, _, hkr⟩ := hr.open
        obtain ⟨news, hnl, hnsl, hn1, hnr⟩ := rvas_cells hkr
        have hyl : ys.length = ts.length * 4 := h1.1
        have hget : ∀ i, i < 4 → ys[k * 4 + i]? = (part4 xs k)[i]? := fun i hi => by rw [← part4_get _ _ _ hi, h3 k (Nat.le_refl _)]
        rw [hpe] at hget
        have e0 : wr.cell? ⟨g, k * 4, none⟩ = some (.int .i64 ts[k].top.kind) := by rw [h1.cellAt _ (by omega)]; exact hget 0 (by omega)
        have e1 : wr.cell? ⟨g, k * 4 + 1, none⟩ = some (.int .i64 ts[k].top.num) := by rw [h1.cellAt _ (by omega)]; exact hget 1 (by omega)
        have e2 : wr.cell? ⟨g, k * 4 + 2, none⟩ = some (.slice L ts[k].top.labels.length lc) := by rw [h1.cellAt _ (by omega)]; exact hget 2 (by omega)
        have e3 : wr.cell? ⟨g, k * 4 + 3, none⟩ = some (.slice A ts[k].kids.length kd) := by rw [h1.cellAt _ (by omega)]; exact hget 3 (by omega)
        have hbw : Below w.heap.size w wr := HBW.out.trans (h6.below HBW.out.size fun i hi => by show i ≠ g; omega)
        have hlw := wv_labels ts[k]
        have hkw := wv_kids ts[k]
        have hkv : ∀ j u, ts[k].kids[j]? = some u → RVa w u (part4 news j) ∧ wv u ≤ 1048576 := fun j u hj => ⟨hnr j u hj, Nat.le_trans (wv_kid (List.mem_of_getElem? hj)) hwk⟩
        have hgwr : g < wr.heap.size := Nat.lt_of_lt_of_le hgW h6.size
        obtain ⟨Hn, hHn⟩ : ∃ Hn, wr.heap.size = Hn := ⟨_, rfl⟩
        have hnb := Box4.new wr 47 (.int .i64 ts[k].top.kind) (.int .i64 ts[k].top.num) (.slice L ts[k].top.labels.length lc) (.slice A ts[k].kids.length kd)
        rw [hHn] at hnb
        have hown0 := h1.alloc (.cells #[.int .i64 ts[k].top.kind, .int .i64 ts[k].top.num, .slice L ts[k].top.labels.length lc, .slice A ts[k].kids.length kd] 47)
        have hbw0 : Below w.heap.size w (wr.alloc (.cells #[.int .i64 ts[k].top.kind, .int .i64 ts[k].top.num, .slice L ts[k].top.labels.length lc, .slice A ts[k].kids.length kd] 47)) := hbw.alloc hbw.size _
        have HMORE := Lib.hid (fun (v1 v2 : Value) (w' : World) q1 q2 q3 q4 q7 q8 q9 q10 => cop_more (W := W) (w' := w') (v1 := v1) (v2 := v2) hgW hlt h1 h2 h3 h4 h5 h6 hpe hok q1 q2 q3 q4 hkv (by omega) q7 q8 q9 q10)
        have HLAB := Lib.hid (fun W' (hB : Below w.heap.size w W') => hlab.below hB)
        have HNSL := Lib.hid (fun W' (hB : Below w.heap.size w W') => hnsl.below hB)
        have HNL := Lib.hid hnl
        have HN1 := Lib.hid hn1
        have HNB := Lib.hid hnb
        have HOW := Lib.hid hown0
        have HBW0 := Lib.hid hbw0
        have HYL := Lib.hid hyl
        have HY2 := Lib.hid (hget 2 (by omega))
        have HY3 := Lib.hid (hget 3 (by omega))
        have HGW := Lib.hid hgwr
        have HHN := Lib.hid hHn
        have hlab1 : (ts[k].top.labels.map Value.string).length = ts[k].top.labels.length * 1 := by simp
        have HLL := Lib.hid hlab1
        clear hr hpe hlab hok hkr hnsl hn1 hnr hget hkv hnb hown0 hbw0 hbw h1 h2 h3 h4 h5 h6 hnl hyl hlab1
        obtain ⟨kk, hkk⟩ : ∃ kk, ts[k].top.kind = kk := ⟨_, rfl⟩
        obtain ⟨kn, hkn⟩ : ∃ kn, ts[k].top.num = kn := ⟨_, rfl⟩
        obtain ⟨nl, hnl⟩ : ∃ nl, ts[k].top.labels.length = nl := ⟨_, rfl⟩
        obtain ⟨nk, hnk⟩ : ∃ nk, ts[k].kids.length = nk := ⟨_, rfl⟩
        simp only [hkk, hkn, hnl, hnk] at HMORE HNB HOW HBW0 HNL HLL HY2 HY3 e0 e1 e2 e3 hlw hkw
        clear hkk hkn hnl hnk
        gi_wp2_with (first
          | (gi_at_builtin; refine wpListIn_append_fresh rfl _ _ 45 rfl 47 i0 (.agg #[.int .i64 0, .int .i64 0, .slice none 0 0, .slice none 0 0]) 4 64 Tryz.underlying45 hi0 hz0 hz1 hz2 rfl (by decide) rfl A nk kd news rfl HNL.out (HNSL.out _ HB5.out) HN1.out (by unfold maxLen; omega) (by omega) ?_; intro v2 w2 ho2 hg2 hn2 hb2; obtain ⟨A2, lc2, rfl⟩ := own_is ho2; have hr2 := kept_none HR5.out hg2; have y3 : w2.cell? ⟨g, k * 4 + 3, none⟩ = some (.slice A nk kd) := (hr2.cellAt _ (by omega)).trans ((List.getElem?_set_ne (by omega)).trans HY3.out); have f3 := hr2.frozenAt (k * 4 + 3); have HFIN : Hid (CopRel w W ts g d xs (k + 1) (w2.setCell ⟨g, k * 4 + 3, none⟩ (.slice A2 nk lc2))) := cop_fin HMORE.out HO1.out HG1.out HBK1.out ho2 hg2 hn2 hb2 hr2 HGW.out; clear ho2 hg2 hn2 hb2 hr2)
          | (gi_at_builtin; refine wpListIn_append_fresh rfl _ _ 28 rfl 9 i1 (.string ⟨#[]⟩) 1 16 Tryz.underlying28 hi1 hy0 hy1 hy2 rfl (by decide) rfl L nl lc (ts[k].top.labels.map Value.string) rfl HLL.out (HLAB.out _ HBW0.out) (strs_oneCell _) (by unfold maxLen; omega) (by omega) ?_; intro v1 w1 ho1 hg1 hn1 hb1; obtain ⟨L1, lc1, rfl⟩ := own_is ho1; have hr1 := kept_none HOW.out hg1; have y2 : w1.cell? ⟨g, k * 4 + 2, none⟩ = some (.slice L nl lc) := (hr1.cellAt _ (by omega)).trans HY2.out; have f2 := hr1.frozenAt (k * 4 + 2); have hr5 := (hr1.stored (k * 4 + 2) (.slice L1 nl lc1)).1; have hh5 : Held (fun i => i ≠ g) (wr.alloc (.cells #[.int .i64 kk, .int .i64 kn, .slice L nl lc, .slice A nk kd] 47)) (w1.setCell ⟨g, k * 4 + 2, none⟩ (.slice L1 nl lc1)) := (held_none hg1).trans (Held.set w1 (fun h => h rfl) (.slice L1 nl lc1)); have x3 : (w1.setCell ⟨g, k * 4 + 2, none⟩ (.slice L1 nl lc1)).cell? ⟨Hn, 3, none⟩ = some (.slice A nk kd) := ((HNB.out.grown hg1 (by simp)).far (by show Hn ≠ g; omega) (.slice L1 nl lc1)).c3; have HR5 := Lib.hid hr5; have HH5 := Lib.hid hh5; have HB5 := Lib.hid (HBW0.out.trans (hh5.below HBW0.out.size fun i hi => by show i ≠ g; omega)); have HO1 := Lib.hid ho1; have HG1 := Lib.hid hg1; have HBK1 := Lib.hid hb1; clear ho1 hg1 hn1 hb1 hr1 hr5 hh5))
        gi_wp2
        go_roundw
        case rel => exact ⟨k + 1, hlt, by go_num, HFIN.out⟩
        case measure => simp [intOf]; omega
      · have he : k = ts.length := by omega
        subst he
        have HE := Lib.hid (HEND.out wr hrel)
        clear hrel
        gi_wp2
        exact HE.out
  case done =>
    rintro F W ⟨hI, hF2⟩ hK
    obtain ⟨fp, hov, hfp⟩ := hI.done
    have hDW : G + 2 < W.heap.size := by have := (Array.getElem?_eq_some_iff.1 hK).1; omega
    have hfr : ∀ b ∈ fp, w.heap.size ≤ b ∧ b < W.heap.size ∧ b ≠ W2.heap.size := fun b hb => by
      have h1 := hI.fr b (hfp b hb)
      have h2 := hF2 b (hfp b hb)
      omega
    obtain ⟨V, hV⟩ : ∃ V, W.putObj W2.heap.size (.deferred none) = V := ⟨_, rfl⟩
    have hVH : Held (fun i => i ≠ W2.heap.size) W V := by
      rw [← hV]
      exact Held.put W fun h => h rfl
    have HMADE : Hid (MadeVs tl w (.returned (.slice A1 n d1)) V) := by
      have h5 := HTL.out
      subst h5
      exact ⟨A1, d1, fp, rfl, hov.held hVH fun b hb => (hfr b hb).2.2, fun b hb => by have := hfr b hb; have := hVH.size; omega, hI.bel.trans (hVH.below hI.bel.size fun i hi => by show i ≠ W2.heap.size; have := HI0.out.bel.size; omega)⟩
    have HK := Lib.hid hK
    have HV := Lib.hid hV
    clear hI hF2 hov hfp hfr hVH hV hK
    gi_wp2
    refine ⟨by simp, .inl ⟨_, _, rfl, run_takeDeferred HK.out, ?_⟩⟩
    rw [HV.out]
    refine ⟨_, ?_, HMADE.out⟩
    simp [results, Tryz.results78, go_sem]
  case stop =>
    intro W hf
    exact hf.elim
end Go.Proofs.YtlikmgkjilmjpaaGreat
