/-
  Merged by program: VaEq, CopyG.
-/
import Derived.Test.YtlikmgkjilmjpaaC12
import Derived.Test.YtlikmgkjilmjpaaC11
import Derived.Test.YtlikmgkjilmjpaaC6
import Derived.StillTailTactics
import Derived.Test.YtlikmgkjilmjpaaC3
import Derived.Deep.RegionLaw

/-
  The comparison of a type with itself, wherever the two lie: 'eqValue', 'eqValueS'.
-/
namespace Go.Proofs.Ytlikmgkjilmjpaa
open Go.RowKit

def EqVK (t : Va) : Prop := ∀ (w : World) (cs ds : List Value), RVa w t cs → RVa w t ds → Calls Try.prog 14 #[.agg cs.toArray, .agg ds.toArray] w (LawYes w)

set_option maxHeartbeats 800000 in
set_option maxRecDepth 100000 in
theorem eqValueS_of (ks : List Va) (ih : ∀ t ∈ ks, EqVK t) (w : World) (A B : Option Addr) (c d : Nat) (hA : RVas w A ks) (hB : RVas w B ks) (hl : ks.length ≤ 9223372036854775807) :
    Calls Try.prog 41 #[.slice A ks.length c, .slice B ks.length d] w (LawYes w) := by
  have HA := Lib.hid hA
  have HB := Lib.hid hB
  have HI := Lib.hid ih
  clear hA hB ih
  go_enter Try.func41, Try.ntmps41
  go_wp2_with fail
  go_loopw [5] (fun i wr => ∃ k : Nat, k ≤ ks.length ∧ i = .int .i64 k ∧ Below w.heap.size w wr) (fun i _ => ks.length - (intOf i).toNat)
  case atStart => exact ⟨0, Nat.zero_le _, rfl, Below.refl _ _⟩
  case round =>
    obtain ⟨k, hk, rfl, hb⟩ := hrel
    by_cases hlt : k < ks.length
    · obtain ⟨ad, p, c0, c1, c2, c3, rfl, hpe, hr, q0, q1, q2, q3⟩ := vid_at HA.out hb hlt
      obtain ⟨bd, p', d0, d1, d2, d3, rfl, hpe', hr', q0', q1', q2', q3'⟩ := vid_at HB.out hb hlt
      have HR := Lib.hid hr
      have HR' := Lib.hid hr'
      have HBW := Lib.hid hb
      clear hr hr' hb
      go_wp2_with fail
      go_still_tail 8, (by kernel_rfl)
      change wpList _ _ _ _ _ wr.drew
      have hd : Below wr.heap.size wr wr.drew := (Below.refl _ _).drew
      have HC := Lib.hid (HI.out ks[k] (List.getElem_mem hlt) wr.drew [c0, c1, c2, c3] [d0, d1, d2, d3] (HR.out.keep hd) (HR'.out.keep hd))
      have HB2 := Lib.hid (HBW.out.trans (hd.mono HBW.out.size))
      clear hd
      go_wp2_with fail
      refine HC.out.mono ?_
      rintro e w2 ⟨rfl, hb2⟩
      have HB3 := Lib.hid (HB2.out.trans (hb2.mono HB2.out.size))
      clear hb2
      go_wp2_with fail
      go_roundw
      case rel => exact ⟨k + 1, hlt, by go_num, HB3.out⟩
      case measure => simp [intOf]; omega
    · go_wp2_with fail
      go_ret
      exact ⟨rfl, hb⟩

set_option maxHeartbeats 800000 in
set_option maxRecDepth 100000 in
theorem eqValue_same : ∀ t : Va, EqVK t := by
  refine Tr.ind ?_
  intro a ks ih w cs ds h h'
  obtain ⟨L, c, A, d, rfl, k1, ⟨_, _, _, _, k4, k5⟩, k6, hp⟩ := h.out
  obtain ⟨L', c', A', d', rfl, k1', _, _, hp'⟩ := h'.out
  obtain ⟨W1, hW1⟩ : ∃ W1, (w.alloc (.cells #[.int .i64 a.kind, .int .i64 a.num, .slice L a.labels.length c, .slice A ks.length d] 30)).alloc (.cells #[.int .i64 a.kind, .int .i64 a.num, .slice L' a.labels.length c', .slice A' ks.length d'] 30) = W1 := ⟨_, rfl⟩
  obtain ⟨H, hH⟩ : ∃ H, w.heap.size = H := ⟨_, rfl⟩
  have b0 : Box4 W1 H 30 (.int .i64 a.kind) (.int .i64 a.num) (.slice L a.labels.length c) (.slice A ks.length d) := by rw [← hW1, ← hH]; exact (Box4.new w _ _ _ _ _).alloc _
  have b1 : Box4 W1 (H + 1) 30 (.int .i64 a.kind) (.int .i64 a.num) (.slice L' a.labels.length c') (.slice A' ks.length d') := by
    rw [← hW1, ← hH]
    have := Box4.new (w.alloc (.cells #[.int .i64 a.kind, .int .i64 a.num, .slice L a.labels.length c, .slice A ks.length d] 30)) 30 (.int .i64 a.kind) (.int .i64 a.num) (.slice L' a.labels.length c') (.slice A' ks.length d')
    simpa using this
  have hb1 : Below w.heap.size w W1 := by rw [← hW1]; exact ((Below.refl _ _).alloc (Nat.le_refl _) _).alloc (by simp) _
  have HW1 := Lib.hid hW1
  have HP := Lib.hid (hp.keep hb1)
  have HP' := Lib.hid (hp'.keep hb1)
  have HL := Lib.hid (k1.below hb1)
  have HL' := Lib.hid (k1'.below hb1)
  have HB1 := Lib.hid hb1
  have HI := Lib.hid ih
  have x0 := b0.c0
  have x1 := b0.c1
  have x2 := b0.c2
  have x3 := b0.c3
  have y0 := b1.c0
  have y1 := b1.c1
  have y2 := b1.c2
  have y3 := b1.c3
  have B0 := Lib.hid b0
  have B1 := Lib.hid b1
  clear hp hp' ih k1 k1' k5 h h' hW1 b0 b1 hb1
  go_enter Try.func14, Try.ntmps14
  go_wp2_with fail
  rw [HW1.out]
  refine (eqL_any _ _ _ _ a.labels W1 HL.out HL'.out k4).mono ?_
  rintro e w2 ⟨rfl, hb2⟩
  have hz : H + 1 < W1.heap.size := B1.out.lt
  have z2 := (B0.out.under hb2 (by omega)).c3
  have v2 := (B1.out.under hb2 (by omega)).c3
  have HP2 := Lib.hid (HP.out.keep hb2)
  have HP2' := Lib.hid (HP'.out.keep hb2)
  have HB2 := Lib.hid (HB1.out.trans (hb2.mono HB1.out.size))
  clear hb2 x0 x1 x2 x3 y0 y1 y2 y3
  go_wp2_with fail
  refine (eqValueS_of ks HI.out w2 A A' d d' HP2.out HP2'.out k6).mono ?_
  rintro e w3 ⟨rfl, hb3⟩
  have HB3 := Lib.hid (HB2.out.trans (hb3.mono HB2.out.size))
  clear hb3 z2 v2
  go_wp2_with fail
  go_ret
  exact ⟨rfl, HB3.out⟩
end Go.Proofs.Ytlikmgkjilmjpaa

/-
  Steps that appends in regions share; small facts on blocks. Hangs on no program.
-/
namespace Go.Proofs.Ytlikmgkjilmjpaa
open Go.RowKit

theorem nodup3 {L A F : List Nat} : (L ++ A ++ F).Nodup ↔ L.Nodup ∧ A.Nodup ∧ F.Nodup ∧ (∀ x ∈ L, x ∉ A) ∧ (∀ x ∈ L, x ∉ F) ∧ (∀ x ∈ A, x ∉ F) := by
  rw [List.nodup_append, List.nodup_append]
  constructor
  · rintro ⟨⟨h1, h2, h3⟩, h4, h5⟩
    exact ⟨h1, h2, h4, fun x hx hy => h3 x hx x hy rfl, fun x hx hy => h5 x (by simp [hx]) x hy rfl, fun x hx hy => h5 x (by simp [hx]) x hy rfl⟩
  · rintro ⟨h1, h2, h3, h4, h5, h6⟩
    refine ⟨⟨h1, h2, fun x hx y hy e => h4 x hx (e ▸ hy)⟩, h3, fun x hx y hy e => ?_⟩
    subst e
    rcases List.mem_append.1 hx with hx | hx
    · exact h5 x hx hy
    · exact h6 x hx hy
theorem blk_nodup (A : Option Addr) : (blk A).Nodup := by cases A <;> simp [blk]
theorem own_shape3 {w : World} {base size : Nat} {e : TypeId} {v : Value} {n : Nat} {xs : List Value} (h : w.ownsRow base e size v n xs) : ∃ A c, v = .slice A n c := by
  rcases h.2 with ⟨rfl, rfl⟩ | ⟨g, cap, cur, rfl, _⟩
  · exact ⟨none, 0, rfl⟩
  · exact ⟨_, cap, rfl⟩
theorem own_zero {w : World} {base size : Nat} {e : TypeId} {v : Value} {n : Nat} {xs : List Value} (h : w.ownsRow base e size v n xs) : w.ownsRow 0 e size v n xs :=
  ⟨h.1, h.2.imp id fun ⟨g, cap, cur, h1, _, h3⟩ => ⟨g, cap, cur, h1, Nat.zero_le _, h3⟩⟩
theorem kid_le_sum {β : Type} (f : β → Nat) {ks : List β} {t : β} (h : t ∈ ks) : f t ≤ (ks.map f).sum := by
  induction ks with
  | nil => cases h
  | cons x xs ih =>
    rcases List.mem_cons.1 h with rfl | h
    · simp
    · have := ih h; simp; omega
/-- an append onto a row of the call's own that is empty, as a step of a region that draws its order -/
theorem step_append_new {P : Program} {ops : Array Oper} {o : Oper} {a : Act} {w : World} {K : Act → World → Prop} {Q : Exit → Act → World → Prop} {E : Prop} (hgd : o.guard = none) (s x : Operand) (t : TypeId)
    (ho : o.op = .call { callee := .builtin .append, args := #[s, x], argTypes := #[t, t] })
    (base : Nat) (e : TypeId) (i : TypeInfo) (z : Value) (bytes : Nat) (ht : P.underlying t = some (.slice e)) (hi : P.info? e = some i) (hz : i.zero = some z) (hsize : i.size = 1) (hby : i.bytes = bytes) (hzs : z.cells.size = 1)
    (v : Value) (hs : a.eval s = v) (hown : w.ownsRow base e 1 v 0 []) (A : Option Addr) (m c : Nat) (news : List Value) (hx : a.eval x = .slice A m c) (hl : news.length = m) (hnews : Sl w A news) (h1 : ∀ u ∈ news, u.oneCell' = true)
    (h63 : m ≤ maxLen) (hbytes : m * bytes ≤ 140737488355328) (hbase : base ≤ w.heap.size)
    (h : ∀ LL lc w', w'.ownsRow base e 1 (.slice LL m lc) m news → w.grownBy w' v.ownBlock → (∀ b ∈ blk LL, v.ownBlock = some b ∨ b = w.heap.size) → K (a.put o.dst (.slice LL m lc)) w') :
    if Region.wanted o (yielded ops a.tmps) = true then Oper.wp P o a w K Q else E := by
  obtain ⟨v', w', hr, h2, h3, h4⟩ := run_append_sl w base t o.type e i z bytes ht hi hz hsize hby hzs v 0 [] hown A m c news hl hnews h1 (by omega) (by rw [Nat.zero_add]; exact hbytes) hbase
  rw [Nat.zero_add, List.nil_append] at h2
  obtain ⟨LL, lc, rfl⟩ := own_shape h2
  have hw : Region.wanted o (yielded ops a.tmps) = true := by simp [Region.wanted, hgd]
  rw [if_pos hw]
  refine Lib.wp_append_run w s x t t ho _ _ hs hx _ w' hr (h LL lc w' h2 h3 fun b hb => ?_)
  have e := (blk_own LL m lc b).2 hb
  rcases h4 with h4 | h4
  · rw [h4] at e; exact .inl e
  · rw [h4] at e; injection e with e; exact .inr e.symm

/-- an append onto a row of the call's own, as a step of a region that draws its order: elements of any size -/
theorem step_append_at {P : Program} {ops : Array Oper} {o : Oper} {a : Act} {w : World} {K : Act → World → Prop} {Q : Exit → Act → World → Prop} {E : Prop} (hgd : o.guard = none) (s x : Operand) (t : TypeId)
    (ho : o.op = .call { callee := .builtin .append, args := #[s, x], argTypes := #[t, t] })
    (base : Nat) (e : TypeId) (i : TypeInfo) (z : Value) (size bytes : Nat) (ht : P.underlying t = some (.slice e)) (hi : P.info? e = some i) (hz : i.zero = some z) (hsize : i.size = size) (hby : i.bytes = bytes) (hzs : z.cells.size = size) (hsz : 0 < size)
    (v : Value) (n : Nat) (xs : List Value) (hs : a.eval s = v) (hown : w.ownsRow base e size v n xs) (ad : Addr) (m c : Nat) (news : List Value) (hx : a.eval x = .slice (some ad) m c) (hl : news.length = m * size)
    (hnews : ∀ j u, news[j]? = some u → w.cell? (ad.add j) = some u) (h1 : ∀ u ∈ news, u.oneCell' = true) (h63 : n + m ≤ maxLen) (hbytes : (n + m) * bytes ≤ 140737488355328) (hbase : base ≤ w.heap.size)
    (h : ∀ A4 d4 w4, w4.ownsRow base e size (.slice A4 (n + m) d4) (n + m) (xs ++ news) → w.grownBy w4 v.ownBlock → ((Value.slice A4 (n + m) d4).ownBlock = v.ownBlock ∨ (Value.slice A4 (n + m) d4).ownBlock = some w.heap.size) → K (a.put o.dst (.slice A4 (n + m) d4)) w4) :
    if Region.wanted o (yielded ops a.tmps) = true then Oper.wp P o a w K Q else E := by
  obtain ⟨v', w', hr, h2, h3, _, h4⟩ := run_append_own_at (P := P) w base t o.type e i z size bytes ht hi hz hsize hby hzs hsz v n xs hown ad m c news hl hnews h1 h63 hbytes hbase
  obtain ⟨A4, d4, rfl⟩ := own_shape3 h2
  have hw : Region.wanted o (yielded ops a.tmps) = true := by simp [Region.wanted, hgd]
  rw [if_pos hw]
  exact Lib.wp_append_run w s x t t ho _ _ hs hx _ w' hr (h A4 d4 w' h2 h3 h4)
end Go.Proofs.Ytlikmgkjilmjpaa
