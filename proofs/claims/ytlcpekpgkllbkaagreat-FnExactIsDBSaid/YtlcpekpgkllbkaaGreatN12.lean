/-
  Merged by program: VaEq, CopyG, OnlyG.
-/
import Derived.Test.YtlcpekpgkllbkaaGreatN7
import Derived.Test.YtlcpekpgkllbkaaGreatN3
import Derived.StillTailTactics
import Derived.Test.YtlcpekpgkllbkaaGreatN2
import Derived.Deep.RegionLaw
import Derived.Test.YtlcpekpgkllbkaaGreatN5

/-
  The comparison of a type with itself, wherever the two lie: 'eqValue', 'eqValueS'.
-/
namespace Go.Proofs.YtlcpekpgkllbkaaGreat
open Go.RowKit

def EqVK (t : Va) : Prop := ∀ (w : World) (cs ds : List Value), RVa w t cs → RVa w t ds → Calls Tryz.prog 37 #[.agg cs.toArray, .agg ds.toArray] w (LawYes w)

set_option maxHeartbeats 800000 in
set_option maxRecDepth 100000 in
theorem eqValueS_of (ks : List Va) (ih : ∀ t ∈ ks, EqVK t) (w : World) (A B : Option Addr) (c d : Nat) (hA : RVas w A ks) (hB : RVas w B ks) (hl : ks.length ≤ 9223372036854775807) :
    Calls Tryz.prog 94 #[.slice A ks.length c, .slice B ks.length d] w (LawYes w) := by
  have HA := Lib.hid hA
  have HB := Lib.hid hB
  have HI := Lib.hid ih
  clear hA hB ih
  go_enter Tryz.func94, Tryz.ntmps94
  go_wp2_with fail
  go_loopw [5] (fun i wr => ∃ k : Nat, k ≤ ks.length ∧ i = .int .i64 k ∧ Below w.heap.size w wr) (fun i _ => ks.length - (intOf i).toNat)
  case atStart => exact ⟨0, Nat.zero_le _, rfl, Below.refl _ _⟩
  case round =>
    obtain ⟨k, hk, rfl, hb⟩ := hrel
    by_cases hlt : k < ks.length
    · obtain ⟨ad, p, c0, c1, c2, c3, rfl, hpe, hr, q0, q1, q2, q3⟩ := vid_at HA.out hb hlt
      obtain ⟨bd, p', d0, d1, d2, d3, rfl, hpe', hr', q0', q1', q2', q3'⟩ := vid_at HB.out hb hlt
      have HR := Lib.hid hr
      have HR' := Lib.hid hr'
      have HBW := Lib.hid hb
      clear hr hr' hb
      go_wp2_with fail
      go_still_tail 8, (by kernel_rfl)
      change wpList _ _ _ _ _ wr.drew
      have hd : Below wr.heap.size wr wr.drew := (Below.refl _ _).drew
      have HC := Lib.hid (HI.out ks[k] (List.getElem_mem hlt) wr.drew [c0, c1, c2, c3] [d0, d1, d2, d3] (HR.out.keep hd) (HR'.out.keep hd))
      have HB2 := Lib.hid (HBW.out.trans (hd.mono HBW.out.size))
      clear hd
      go_wp2_with fail
      refine HC.out.mono ?_
      rintro e w2 ⟨rfl, hb2⟩
      have HB3 := Lib.hid (HB2.out.trans (hb2.mono HB2.out.size))
      clear hb2
      go_wp2_with fail
      go_roundw
      case rel => exact ⟨k + 1, hlt, by go_num, HB3.out⟩
      case measure => simp [intOf]; omega
    · go_wp2_with fail
      go_ret
      exact ⟨rfl, hb⟩

set_option maxHeartbeats 800000 in
set_option maxRecDepth 100000 in
theorem eqValue_same : ∀ t : Va, EqVK t := by
  refine Tr.ind ?_
  intro a ks ih w cs ds h h'
  obtain ⟨L, c, A, d, rfl, k1, ⟨_, _, _, _, k4, k5⟩, k6, hp⟩ := h.out
  obtain ⟨L', c', A', d', rfl, k1', _, _, hp'⟩ := h'.out
  obtain ⟨W1, hW1⟩ : ∃ W1, (w.alloc (.cells #[.int .i64 a.kind, .int .i64 a.num, .slice L a.labels.length c, .slice A ks.length d] 33)).alloc (.cells #[.int .i64 a.kind, .int .i64 a.num, .slice L' a.labels.length c', .slice A' ks.length d'] 33) = W1 := ⟨_, rfl⟩
  obtain ⟨H, hH⟩ : ∃ H, w.heap.size = H := ⟨_, rfl⟩
  have b0 : Box4 W1 H 33 (.int .i64 a.kind) (.int .i64 a.num) (.slice L a.labels.length c) (.slice A ks.length d) := by rw [← hW1, ← hH]; exact (Box4.new w _ _ _ _ _).alloc _
  have b1 : Box4 W1 (H + 1) 33 (.int .i64 a.kind) (.int .i64 a.num) (.slice L' a.labels.length c') (.slice A' ks.length d') := by
    rw [← hW1, ← hH]
    have := Box4.new (w.alloc (.cells #[.int .i64 a.kind, .int .i64 a.num, .slice L a.labels.length c, .slice A ks.length d] 33)) 33 (.int .i64 a.kind) (.int .i64 a.num) (.slice L' a.labels.length c') (.slice A' ks.length d')
    simpa using this
  have hb1 : Below w.heap.size w W1 := by rw [← hW1]; exact ((Below.refl _ _).alloc (Nat.le_refl _) _).alloc (by simp) _
  have HW1 := Lib.hid hW1
  have HP := Lib.hid (hp.keep hb1)
  have HP' := Lib.hid (hp'.keep hb1)
  have HL := Lib.hid (k1.below hb1)
  have HL' := Lib.hid (k1'.below hb1)
  have HB1 := Lib.hid hb1
  have HI := Lib.hid ih
  have x0 := b0.c0
  have x1 := b0.c1
  have x2 := b0.c2
  have x3 := b0.c3
  have y0 := b1.c0
  have y1 := b1.c1
  have y2 := b1.c2
  have y3 := b1.c3
  have B0 := Lib.hid b0
  have B1 := Lib.hid b1
  clear hp hp' ih k1 k1' k5 h h' hW1 b0 b1 hb1
  go_enter Tryz.func37, Tryz.ntmps37
  go_wp2_with fail
  rw [HW1.out]
  refine (eqL_any _ _ _ _ a.labels W1 HL.out HL'.out k4).mono ?_
  rintro e w2 ⟨rfl, hb2⟩
  have hz : H + 1 < W1.heap.size := B1.out.lt
  have z2 := (B0.out.under hb2 (by omega)).c3
  have v2 := (B1.out.under hb2 (by omega)).c3
  have HP2 := Lib.hid (HP.out.keep hb2)
  have HP2' := Lib.hid (HP'.out.keep hb2)
  have HB2 := Lib.hid (HB1.out.trans (hb2.mono HB1.out.size))
  clear hb2 x0 x1 x2 x3 y0 y1 y2 y3
  go_wp2_with fail
  refine (eqValueS_of ks HI.out w2 A A' d d' HP2.out HP2'.out k6).mono ?_
  rintro e w3 ⟨rfl, hb3⟩
  have HB3 := Lib.hid (HB2.out.trans (hb3.mono HB2.out.size))
  clear hb3 z2 v2
  go_wp2_with fail
  go_ret
  exact ⟨rfl, HB3.out⟩
end Go.Proofs.YtlcpekpgkllbkaaGreat

/-
  Steps that appends in regions share; small facts on blocks. Hangs on no program.
-/
namespace Go.Proofs.YtlcpekpgkllbkaaGreat
open Go.RowKit

theorem nodup3 {L A F : List Nat} : (L ++ A ++ F).Nodup ↔ L.Nodup ∧ A.Nodup ∧ F.Nodup ∧ (∀ x ∈ L, x ∉ A) ∧ (∀ x ∈ L, x ∉ F) ∧ (∀ x ∈ A, x ∉ F) := by
  rw [List.nodup_append, List.nodup_append]
  constructor
  · rintro ⟨⟨h1, h2, h3⟩, h4, h5⟩
    exact ⟨h1, h2, h4, fun x hx hy => h3 x hx x hy rfl, fun x hx hy => h5 x (by simp [hx]) x hy rfl, fun x hx hy => h5 x (by simp [hx]) x hy rfl⟩
  · rintro ⟨h1, h2, h3, h4, h5, h6⟩
    refine ⟨⟨h1, h2, fun x hx y hy e => h4 x hx (e ▸ hy)⟩, h3, fun x hx y hy e => ?_⟩
    subst e
    rcases List.mem_append.1 hx with hx | hx
    · exact h5 x hx hy
    · exact h6 x hx hy
theorem blk_nodup (A : Option Addr) : (blk A).Nodup := by cases A <;> simp [blk]
theorem own_shape3 {w : World} {base size : Nat} {e : TypeId} {v : Value} {n : Nat} {xs : List Value} (h : w.ownsRow base e size v n xs) : ∃ A c, v = .slice A n c := by
  rcases h.2 with ⟨rfl, rfl⟩ | ⟨g, cap, cur, rfl, _⟩
  · exact ⟨none, 0, rfl⟩
  · exact ⟨_, cap, rfl⟩
theorem own_zero {w : World} {base size : Nat} {e : TypeId} {v : Value} {n : Nat} {xs : List Value} (h : w.ownsRow base e size v n xs) : w.ownsRow 0 e size v n xs :=
  ⟨h.1, h.2.imp id fun ⟨g, cap, cur, h1, _, h3⟩ => ⟨g, cap, cur, h1, Nat.zero_le _, h3⟩⟩
theorem kid_le_sum {β : Type} (f : β → Nat) {ks : List β} {t : β} (h : t ∈ ks) : f t ≤ (ks.map f).sum := by
  induction ks with
  | nil => cases h
  | cons x xs ih =>
    rcases List.mem_cons.1 h with rfl | h
    · simp
    · have := ih h; simp; omega
/-- an append onto a row of the call's own that is empty, as a step of a region that draws its order -/
theorem step_append_new {P : Program} {ops : Array Oper} {o : Oper} {a : Act} {w : World} {K : Act → World → Prop} {Q : Exit → Act → World → Prop} {E : Prop} (hgd : o.guard = none) (s x : Operand) (t : TypeId)
    (ho : o.op = .call { callee := .builtin .append, args := #[s, x], argTypes := #[t, t] })
    (base : Nat) (e : TypeId) (i : TypeInfo) (z : Value) (bytes : Nat) (ht : P.underlying t = some (.slice e)) (hi : P.info? e = some i) (hz : i.zero = some z) (hsize : i.size = 1) (hby : i.bytes = bytes) (hzs : z.cells.size = 1)
    (v : Value) (hs : a.eval s = v) (hown : w.ownsRow base e 1 v 0 []) (A : Option Addr) (m c : Nat) (news : List Value) (hx : a.eval x = .slice A m c) (hl : news.length = m) (hnews : Sl w A news) (h1 : ∀ u ∈ news, u.oneCell' = true)
    (h63 : m ≤ maxLen) (hbytes : m * bytes ≤ 140737488355328) (hbase : base ≤ w.heap.size)
    (h : ∀ LL lc w', w'.ownsRow base e 1 (.slice LL m lc) m news → w.grownBy w' v.ownBlock → (∀ b ∈ blk LL, v.ownBlock = some b ∨ b = w.heap.size) → K (a.put o.dst (.slice LL m lc)) w') :
    if Region.wanted o (yielded ops a.tmps) = true then Oper.wp P o a w K Q else E := by
  obtain ⟨v', w', hr, h2, h3, h4⟩ := run_append_sl w base t o.type e i z bytes ht hi hz hsize hby hzs v 0 [] hown A m c news hl hnews h1 (by omega) (by rw [Nat.zero_add]; exact hbytes) hbase
  rw [Nat.zero_add, List.nil_append] at h2
  obtain ⟨LL, lc, rfl⟩ := own_shape h2
  have hw : Region.wanted o (yielded ops a.tmps) = true := by simp [Region.wanted, hgd]
  rw [if_pos hw]
  refine Lib.wp_append_run w s x t t ho _ _ hs hx _ w' hr (h LL lc w' h2 h3 fun b hb => ?_)
  have e := (blk_own LL m lc b).2 hb
  rcases h4 with h4 | h4
  · rw [h4] at e; exact .inl e
  · rw [h4] at e; injection e with e; exact .inr e.symm

/-- an append onto a row of the call's own, as a step of a region that draws its order: elements of any size -/
theorem step_append_at {P : Program} {ops : Array Oper} {o : Oper} {a : Act} {w : World} {K : Act → World → Prop} {Q : Exit → Act → World → Prop} {E : Prop} (hgd : o.guard = none) (s x : Operand) (t : TypeId)
    (ho : o.op = .call { callee := .builtin .append, args := #[s, x], argTypes := #[t, t] })
    (base : Nat) (e : TypeId) (i : TypeInfo) (z : Value) (size bytes : Nat) (ht : P.underlying t = some (.slice e)) (hi : P.info? e = some i) (hz : i.zero = some z) (hsize : i.size = size) (hby : i.bytes = bytes) (hzs : z.cells.size = size) (hsz : 0 < size)
    (v : Value) (n : Nat) (xs : List Value) (hs : a.eval s = v) (hown : w.ownsRow base e size v n xs) (ad : Addr) (m c : Nat) (news : List Value) (hx : a.eval x = .slice (some ad) m c) (hl : news.length = m * size)
    (hnews : ∀ j u, news[j]? = some u → w.cell? (ad.add j) = some u) (h1 : ∀ u ∈ news, u.oneCell' = true) (h63 : n + m ≤ maxLen) (hbytes : (n + m) * bytes ≤ 140737488355328) (hbase : base ≤ w.heap.size)
    (h : ∀ A4 d4 w4, w4.ownsRow base e size (.slice A4 (n + m) d4) (n + m) (xs ++ news) → w.grownBy w4 v.ownBlock → ((Value.slice A4 (n + m) d4).ownBlock = v.ownBlock ∨ (Value.slice A4 (n + m) d4).ownBlock = some w.heap.size) → K (a.put o.dst (.slice A4 (n + m) d4)) w4) :
    if Region.wanted o (yielded ops a.tmps) = true then Oper.wp P o a w K Q else E := by
  obtain ⟨v', w', hr, h2, h3, _, h4⟩ := run_append_own_at (P := P) w base t o.type e i z size bytes ht hi hz hsize hby hzs hsz v n xs hown ad m c news hl hnews h1 h63 hbytes hbase
  obtain ⟨A4, d4, rfl⟩ := own_shape3 h2
  have hw : Region.wanted o (yielded ops a.tmps) = true := by simp [Region.wanted, hgd]
  rw [if_pos hw]
  exact Lib.wp_append_run w s x t t ho _ _ hs hx _ w' hr (h A4 d4 w' h2 h3 h4)
end Go.Proofs.YtlcpekpgkllbkaaGreat

/-
  Worlds in which only the named blocks have turned; marks as texts. The laws' markStringS.
-/
namespace Go.Proofs.YtlcpekpgkllbkaaGreat
open Go.RowKit

/-- but for new blocks, only the blocks of fp have turned -/
structure Only (fp : List Nat) (w w' : World) : Prop where
  os : w'.os = w.os
  tape : w'.tape = w.tape
  output : w'.output = w.output
  size : w.heap.size ≤ w'.heap.size
  block : ∀ b, b < w.heap.size → b ∉ fp → w'.heap[b]? = w.heap[b]?
section
variable {fp gp : List Nat} {a b c : World}
theorem Only.refl (fp : List Nat) (w : World) : Only fp w w := ⟨rfl, rfl, rfl, Nat.le_refl _, fun _ _ _ => rfl⟩
theorem Only.trans (h : Only fp a b) (k : Only fp b c) : Only fp a c :=
  ⟨k.os.trans h.os, k.tape.trans h.tape, k.output.trans h.output, Nat.le_trans h.size k.size, fun i hi hn => (k.block i (Nat.lt_of_lt_of_le hi h.size) hn).trans (h.block i hi hn)⟩
theorem Only.more (h : Only fp a b) (hs : ∀ x ∈ fp, x ∈ gp) : Only gp a b := ⟨h.os, h.tape, h.output, h.size, fun i hi hn => h.block i hi (fun hm => hn (hs i hm))⟩
theorem Only.of_below (h : Below a.heap.size a b) : Only fp a b := ⟨h.os, h.tape, h.output, h.size, fun i hi _ => h.block i hi⟩
theorem Only.of_grown {row : Option Nat} (h : a.grownBy b row) (hr : ∀ g, row = some g → g ∈ fp) : Only fp a b :=
  ⟨h.os, h.tape, h.output, h.size, fun i hi hn => h.block i hi (fun e => hn (hr i e.symm))⟩
theorem Only.below {B : Nat} (h : Only fp a b) (hB : B ≤ a.heap.size) (hf : ∀ x ∈ fp, B ≤ x) : Below B a b :=
  ⟨h.os, h.tape, h.output, h.size, fun i hi => h.block i (by omega) (fun hm => by have := hf i hm; omega)⟩
end
theorem own_only {w w' : World} {base size n : Nat} {e : TypeId} {A : Option Addr} {c : Nat} {xs : List Value} {fp : List Nat} (h : w.ownsRow base e size (.slice A n c) n xs) (ho : Only fp w w') (hne : ∀ b ∈ blk A, b ∉ fp) : w'.ownsRow base e size (.slice A n c) n xs := by
  refine ⟨h.1, h.2.imp id ?_⟩
  rintro ⟨g, cap, cur, hv, hb, hg, rest⟩
  refine ⟨g, cap, cur, hv, hb, ?_, rest⟩
  injection hv with e1 _ _
  subst e1
  exact (ho.block g (Array.getElem?_eq_some_iff.1 hg).1 (hne g (by simp [blk]))).trans hg
/-- the marks as texts -/
def marksB (k : Int) (n : Nat) : List ByteArray := (List.range n).map fun (j : Nat) => ⟨(mtext (k + (j : Int))).toArray⟩
theorem marks_eq (k : Int) (n : Nat) : marks k n = (marksB k n).map Value.string := by simp [marks, marksB]
theorem marksB_len (k : Int) (n : Nat) : (marksB k n).length = n := by simp [marksB]
theorem mtext_len (k : Int) (h0 : 0 ≤ k) (h : k ≤ 1000000000000) : (mtext k).length ≤ 20 := by
  unfold mtext
  have := digs_len k.natAbs (by omega)
  simp
  omega
theorem marksB_size (k : Int) (n : Nat) (h0 : 0 < k) (h : k + n ≤ 1000000000000) : ∀ x ∈ marksB k n, x.size ≤ 9223372036854775807 := by
  intro x hx
  obtain ⟨j, hj, rfl⟩ := List.mem_map.1 hx
  have hj' := List.mem_range.1 hj
  have := mtext_len (k + (j : Int)) (by omega) (by omega)
  show (mtext (k + (j : Int))).toArray.size ≤ _
  rw [List.size_toArray]
  omega
/-- marks in the labels of one node -/
def MarkedS (L : Option Addr) (n c : Nat) (k : Int) (w : World) (e : Ending) (w' : World) : Prop :=
  e = .returned (.int .i64 (k + n)) ∧ w'.ownsRow 0 9 1 (.slice L n c) n (marks k n) ∧ Only (blk L) w w'
set_option maxHeartbeats 800000 in
theorem markS_any (L : Option Addr) (n c : Nat) (k : Int) (xs : List Value) (w : World) (h : w.ownsRow 0 9 1 (.slice L n c) n xs) (hx : ∀ u ∈ xs, ∃ s, u = .string s) (hk : 0 < k) (hk1 : k + n ≤ 1000000000000) :
    Calls Tryz.prog 97 #[.slice L n c, .int .i64 k] w (MarkedS L n c k w) := by
  rcases h.2 with ⟨hv, hn⟩ | ⟨g, cap, cur, hv, _⟩
  · injection hv with h1 h2 h3
    subst h1
    subst hn
    subst h3
    have hxs : xs = [] := List.eq_nil_of_length_eq_zero (by simpa using h.1)
    subst hxs
    have HR := Lib.hid h
    clear h
    go_enter Tryz.func97, Tryz.ntmps97
    go_wp2_with fail
    refine wp_loop_rounds 1 ?_
    rw [rounds_succ]
    go_wp2_with fail
    go_ret
    exact ⟨by simp, HR.out, Only.refl _ _⟩
  · injection hv with h1 h2 h3
    subst h1
    subst h3
    refine (markStringS_any g n c 0 k xs w h hx hk hk1).mono ?_
    rintro e w' ⟨rfl, hown, hg⟩
    exact ⟨rfl, hown, Only.of_grown hg (fun g' e => by injection e with e; subst e; simp [blk])⟩
theorem flat_mem {n : Nat} {fs : Nat → List Nat} {i x : Nat} (hi : i < n) (hx : x ∈ fs i) : x ∈ (List.range n).flatMap fs := List.mem_flatMap.2 ⟨i, List.mem_range.2 hi, hx⟩
theorem flat_apart : ∀ {n : Nat} {fs : Nat → List Nat}, ((List.range n).flatMap fs).Nodup → ∀ {i j x : Nat}, i < n → j < n → i ≠ j → x ∈ fs i → x ∉ fs j
  | 0, _, _, _, _, _, h, _, _, _ => by omega
  | n + 1, fs, hnd, i, j, x, hi, hj, hij, hx => by
    rw [List.range_succ, List.flatMap_append] at hnd
    have hs : [n].flatMap fs = fs n := by simp
    rw [hs] at hnd
    obtain ⟨h1, _, h3⟩ := List.nodup_append.1 hnd
    intro hy
    rcases Nat.lt_or_ge i n with h | h
    · rcases Nat.lt_or_ge j n with h' | h'
      · exact flat_apart h1 h h' hij hx hy
      · rw [show j = n by omega] at hy
        exact h3 x (flat_mem h hx) x hy rfl
    · rw [show i = n by omega] at hx
      exact h3 x (flat_mem (i := j) (by omega) hy) x hx rfl
end Go.Proofs.YtlcpekpgkllbkaaGreat
