/-
  Merged by program: VaEq, KdVa, KDd, Db, VaCopy.
-/
import Derived.Test.YtlikmgkjilmjpaaGreatI5
import Derived.Test.YtlikmgkjilmjpaaGreatI2
import Derived.StillTailTactics
import Derived.Test.YtlikmgkjilmjpaaGreatI4
import Derived.Test.YtlikmgkjilmjpaaGreatI10
import Derived.Test.YtlikmgkjilmjpaaGreatI7
import Derived.Test.YtlikmgkjilmjpaaGreatI9
import Derived.Test.YtlikmgkjilmjpaaGreatI6
import Derived.Test.YtlikmgkjilmjpaaGreatI1
import Derived.Deep.RegionHeld3
import Derived.Deep.RegionLaw
import Derived.Deep.CutRange

/-
  The comparison of a type with itself, wherever the two lie: 'eqValue', 'eqValueS'.
-/
namespace Go.Proofs.YtlikmgkjilmjpaaGreat
open Go.RowKit

def EqVK (t : Va) : Prop := ∀ (w : World) (cs ds : List Value), RVa w t cs → RVa w t ds → Calls Tryz.prog 15 #[.agg cs.toArray, .agg ds.toArray] w (LawYes w)

set_option maxHeartbeats 800000 in
set_option maxRecDepth 100000 in
theorem eqValueS_of (ks : List Va) (ih : ∀ t ∈ ks, EqVK t) (w : World) (A B : Option Addr) (c d : Nat) (hA : RVas w A ks) (hB : RVas w B ks) (hl : ks.length ≤ 9223372036854775807) :
    Calls Tryz.prog 40 #[.slice A ks.length c, .slice B ks.length d] w (LawYes w) := by
  have HA := Lib.hid hA
  have HB := Lib.hid hB
  have HI := Lib.hid ih
  clear hA hB ih
  go_enter Tryz.func40, Tryz.ntmps40
  go_wp2_with fail
  go_loopw [5] (fun i wr => ∃ k : Nat, k ≤ ks.length ∧ i = .int .i64 k ∧ Below w.heap.size w wr) (fun i _ => ks.length - (intOf i).toNat)
  case atStart => exact ⟨0, Nat.zero_le _, rfl, Below.refl _ _⟩
  case round =>
    obtain ⟨k, hk, rfl, hb⟩ := hrel
    by_cases hlt : k < ks.length
    · obtain ⟨ad, p, c0, c1, c2, c3, rfl, hpe, hr, q0, q1, q2, q3⟩ := vid_at HA.out hb hlt
      obtain ⟨bd, p', d0, d1, d2, d3, rfl, hpe', hr', q0', q1', q2', q3'⟩ := vid_at HB.out hb hlt
      have HR := Lib.hid hr
      have HR' := Lib.hid hr'
      have HBW := Lib.hid hb
      clear hr hr' hb
      go_wp2_with fail
      go_still_tail 8, (by kernel_rfl)
      change wpList _ _ _ _ _ wr.drew
      have hd : Below wr.heap.size wr wr.drew := (Below.refl _ _).drew
      have HC := Lib.hid (HI.out ks[k] (List.getElem_mem hlt) wr.drew [c0, c1, c2, c3] [d0, d1, d2, d3] (HR.out.keep hd) (HR'.out.keep hd))
      have HB2 := Lib.hid (HBW.out.trans (hd.mono HBW.out.size))
      clear hd
      go_wp2_with fail
      refine HC.out.mono ?_
      rintro e w2 ⟨rfl, hb2⟩
      have HB3 := Lib.hid (HB2.out.trans (hb2.mono HB2.out.size))
      clear hb2
      go_wp2_with fail
      go_roundw
      case rel => exact ⟨k + 1, hlt, by go_num, HB3.out⟩
      case measure => simp [intOf]; omega
    · go_wp2_with fail
      go_ret
      exact ⟨rfl, hb⟩

set_option maxHeartbeats 800000 in
set_option maxRecDepth 100000 in
theorem eqValue_same : ∀ t : Va, EqVK t := by
  refine Tr.ind ?_
  intro a ks ih w cs ds h h'
  obtain ⟨L, c, A, d, rfl, k1, ⟨_, _, _, _, k4, k5⟩, k6, hp⟩ := h.out
  obtain ⟨L', c', A', d', rfl, k1', _, _, hp'⟩ := h'.out
  obtain ⟨W1, hW1⟩ : ∃ W1, (w.alloc (.cells #[.int .i64 a.kind, .int .i64 a.num, .slice L a.labels.length c, .slice A ks.length d] 47)).alloc (.cells #[.int .i64 a.kind, .int .i64 a.num, .slice L' a.labels.length c', .slice A' ks.length d'] 47) = W1 := ⟨_, rfl⟩
  obtain ⟨H, hH⟩ : ∃ H, w.heap.size = H := ⟨_, rfl⟩
  have b0 : Box4 W1 H 47 (.int .i64 a.kind) (.int .i64 a.num) (.slice L a.labels.length c) (.slice A ks.length d) := by rw [← hW1, ← hH]; exact (Box4.new w _ _ _ _ _).alloc _
  have b1 : Box4 W1 (H + 1) 47 (.int .i64 a.kind) (.int .i64 a.num) (.slice L' a.labels.length c') (.slice A' ks.length d') := by
    rw [← hW1, ← hH]
    have := Box4.new (w.alloc (.cells #[.int .i64 a.kind, .int .i64 a.num, .slice L a.labels.length c, .slice A ks.length d] 47)) 47 (.int .i64 a.kind) (.int .i64 a.num) (.slice L' a.labels.length c') (.slice A' ks.length d')
    simpa using this
  have hb1 : Below w.heap.size w W1 := by rw [← hW1]; exact ((Below.refl _ _).alloc (Nat.le_refl _) _).alloc (by simp) _
  have HW1 := Lib.hid hW1
  have HP := Lib.hid (hp.keep hb1)
  have HP' := Lib.hid (hp'.keep hb1)
  have HL := Lib.hid (k1.below hb1)
  have HL' := Lib.hid (k1'.below hb1)
  have HB1 := Lib.hid hb1
  have HI := Lib.hid ih
  have x0 := b0.c0
  have x1 := b0.c1
  have x2 := b0.c2
  have x3 := b0.c3
  have y0 := b1.c0
  have y1 := b1.c1
  have y2 := b1.c2
  have y3 := b1.c3
  have B0 := Lib.hid b0
  have B1 := Lib.hid b1
  clear hp hp' ih k1 k1' k5 h h' hW1 b0 b1 hb1
  go_enter Tryz.func15, Tryz.ntmps15
  go_wp2_with fail
  rw [HW1.out]
  refine (eqL_any _ _ _ _ a.labels W1 HL.out HL'.out k4).mono ?_
  rintro e w2 ⟨rfl, hb2⟩
  have hz : H + 1 < W1.heap.size := B1.out.lt
  have z2 := (B0.out.under hb2 (by omega)).c3
  have v2 := (B1.out.under hb2 (by omega)).c3
  have HP2 := Lib.hid (HP.out.keep hb2)
  have HP2' := Lib.hid (HP'.out.keep hb2)
  have HB2 := Lib.hid (HB1.out.trans (hb2.mono HB1.out.size))
  clear hb2 x0 x1 x2 x3 y0 y1 y2 y3
  go_wp2_with fail
  refine (eqValueS_of ks HI.out w2 A A' d d' HP2.out HP2'.out k6).mono ?_
  rintro e w3 ⟨rfl, hb3⟩
  have HB3 := Lib.hid (HB2.out.trans (hb3.mono HB2.out.size))
  clear hb3 z2 v2
  go_wp2_with fail
  go_ret
  exact ⟨rfl, HB3.out⟩
end Go.Proofs.YtlikmgkjilmjpaaGreat

/-
  Values and lists of values as kinds of data; the laws' functions on such lists in the words of kinds.
-/
namespace Go.Proofs.YtlikmgkjilmjpaaGreat
open Go.RowKit

theorem OVa.heldK {w w' : World} {t : Va} {cs : List Value} {fp : List Nat} {K : Nat → Prop} (h : OVa w t cs fp) (hH : Held K w w') (hK : ∀ b ∈ fp, K b) : OVa w' t cs fp := by
  induction h with
  | node a ks L A c d xs fs h0 h1 h2 h3 h4 h5 ih =>
    refine .node a ks L A c d xs fs h0 (own_heldK h1 hH fun b hb => hK b (by simp [hb])) h2 (own_heldK h3 hH fun b hb => hK b (by simp [hb])) (fun j t hj => ih j t hj fun b hb => hK b ?_) h5
    rw [List.mem_append, List.mem_flatMap]
    exact .inr ⟨j, List.mem_range.2 (List.getElem?_eq_some_iff.1 hj).1, hb⟩
def kVa : Kd Va where
  n := 4
  R := RVa
  O := OVa
  len h := h.len
  keep h hb := h.keep hb
  reads h := h.reads
  held h hH hK := h.heldK hH hK
  nodup h := h.nodup
theorem rl_va {w : World} {A : Option Addr} {ks : List Va} : RL kVa w A ks ↔ RVas w A ks := Iff.rfl
theorem kVas_shape {e : TypeId} {w : World} {ts : List Va} {cs : List Value} (h : (kVa.list e).R w ts cs) : ∃ TA ta td, cs = [.slice TA ta td] := by
  obtain ⟨A, d, rfl, _⟩ := h
  exact ⟨_, _, _, rfl⟩
theorem kVas_slice {e : TypeId} {w : World} {ts : List Va} {A : Option Addr} {n d : Nat} (h : (kVa.list e).R w ts [.slice A n d]) : n = ts.length ∧ ts.length ≤ 9223372036854775807 ∧ ts.length ≤ d ∧ RVas w A ts := by
  obtain ⟨A', d', e1, h1, h2, h3⟩ := h
  injection e1 with e1 _
  injection e1 with e1 e2 e3
  subst e1 e2 e3
  exact ⟨rfl, h1, h2, h3⟩
theorem szVas_K (ts : List Va) (w : World) (left : Int) {A : Option Addr} {n d : Nat} (h : (kVa.list 47).R w ts [.slice A n d]) (h0 : 0 ≤ left) (h1 : left ≤ 1048576) : Calls Tryz.prog 25 #[.slice A n d, .int .i64 left] w (SzV (wL wv ts) left w) := by
  obtain ⟨rfl, hl, _, hp⟩ := kVas_slice h
  exact szValueS_of ts (fun t _ => szValue_any t) w A d left hp hl h0 h1
theorem toVas_K (ts : List Va) (w : World) {A : Option Addr} {n d : Nat} (h : (kVa.list 47).R w ts [.slice A n d]) (hw : wL wv ts ≤ 1048576) : Calls Tryz.prog 33 #[.slice A n d] w (MadeK (kVa.list 47) ts (fun cs => cs.headD undef) w) := by
  obtain ⟨rfl, hl, _, hp⟩ := kVas_slice h
  refine (toValueS_of ts (fun t _ => toValue_any t) w A d hp hw).mono fun e w' ⟨A', d', xs, fs, he, ho, hk, hn, hb, hbw⟩ => ?_
  exact ⟨[.slice A' ts.length d'], _, he, ⟨_, rfl, A', d', xs, fs, rfl, hl, ho, hk, rfl, hn⟩, hb, hbw⟩
theorem eqVas_K (ts : List Va) (w : World) {A B : Option Addr} {n m c d : Nat} (h : (kVa.list 47).R w ts [.slice A n c]) (h' : (kVa.list 47).R w ts [.slice B m d]) : Calls Tryz.prog 40 #[.slice A n c, .slice B m d] w (LawYes w) := by
  obtain ⟨rfl, hl, _, hp⟩ := kVas_slice h
  obtain ⟨rfl, _, _, hp'⟩ := kVas_slice h'
  exact eqValueS_of ts (fun t _ => eqValue_same t) w A B c d hp hp' hl
end Go.Proofs.YtlikmgkjilmjpaaGreat

/-
  Structs of a name and a list of values (TableData). Written by genpair.py.
-/
namespace Go.Proofs.YtlikmgkjilmjpaaGreat
open Go.RowKit

abbrev Dd := ByteArray × List Va
def kDd : Kd Dd := kStr.prod (kVa.list 47)
theorem kDd_n : kDd.n = 2 := rfl
def wDd (x : Dd) : Nat := x.1.size + (wL wv) x.2
theorem kDd_open {w : World} {x : Dd} {cs : List Value} (h : kDd.R w x cs) : ∃ TA ta td, cs = [.string x.1, .slice TA ta td] ∧ x.1.size ≤ 9223372036854775807 ∧ (kVa.list 47).R w x.2 [.slice TA ta td] := by
  obtain ⟨c1, c2, rfl, ⟨rfl, h1⟩, h2⟩ := h
  obtain ⟨TA, ta, td, rfl⟩ := kVas_shape h2
  exact ⟨TA, ta, td, rfl, h1, h2⟩
theorem kDd_make {w : World} {x : Dd} {ys : List Value} (h1 : x.1.size ≤ 9223372036854775807) (h2 : (kVa.list 47).R w x.2 ys) : kDd.R w x (.string x.1 :: ys) := ⟨[.string x.1], ys, rfl, ⟨rfl, h1⟩, h2⟩
theorem kDd_omake {w : World} {x : Dd} {ys : List Value} {fp : List Nat} (h1 : x.1.size ≤ 9223372036854775807) (h2 : (kVa.list 47).O w x.2 ys fp) : kDd.O w x (.string x.1 :: ys) fp := ⟨[.string x.1], ys, [], fp, rfl, ⟨rfl, h1, rfl⟩, h2, rfl, (kVa.list 47).nodup h2⟩
theorem kDd_oopen {w : World} {x : Dd} {cs : List Value} {fp : List Nat} (h : kDd.O w x cs fp) : ∃ TA ta td, cs = [.string x.1, .slice TA ta td] ∧ x.1.size ≤ 9223372036854775807 ∧ (kVa.list 47).O w x.2 [.slice TA ta td] fp := by
  obtain ⟨c1, c2, f1, f2, rfl, ⟨rfl, h1, rfl⟩, h2, rfl, _⟩ := h
  obtain ⟨TA, ta, td, rfl⟩ := kVas_shape ((kVa.list 47).reads h2)
  exact ⟨TA, ta, td, rfl, h1, h2⟩
end Go.Proofs.YtlikmgkjilmjpaaGreat

/-
  DB: a struct of one field, a list of TableData. Written by genwrap.py.
-/
namespace Go.Proofs.YtlikmgkjilmjpaaGreat
open Go.RowKit

abbrev Db := List Dd
def RDb (w : World) (t : Db) (cs : List Value) : Prop := (kDd.list 66).R w t cs
def ODb (w : World) (t : Db) (cs : List Value) (fp : List Nat) : Prop := (kDd.list 66).O w t cs fp
def wDb (t : Db) : Nat := wL wDd t
theorem RDb.keep {w w' : World} {t : Db} {cs : List Value} (h : RDb w t cs) (hb : Below w.heap.size w w') : RDb w' t cs := (kDd.list 66).keep h hb
theorem RDb.open {w : World} {t : Db} {cs : List Value} (h : RDb w t cs) : ∃ A d, cs = [.slice A t.length d] ∧ t.length ≤ 9223372036854775807 ∧ t.length ≤ d ∧ RL kDd w A t := h
theorem RDb.one {w : World} {t : Db} {cs : List Value} (h : RDb w t cs) : ∃ c0, cs = [c0] := by
  obtain ⟨A, d, rfl, _⟩ := h
  exact ⟨_, rfl⟩
theorem ODb.reads {w : World} {t : Db} {cs : List Value} {fp : List Nat} (h : ODb w t cs fp) : RDb w t cs := (kDd.list 66).reads h
theorem ODb.under {w w' : World} {t : Db} {cs : List Value} {fp : List Nat} (h : ODb w t cs fp) (hb : Below w.heap.size w w') : ODb w' t cs fp := (kDd.list 66).under h hb
theorem ODb.ol {w : World} {t : Db} {s : Value} {fp : List Nat} : ODb w t [s] fp ↔ OL kDd 66 w t s fp := by
  constructor
  · rintro ⟨s', e, h⟩
    injection e with e _
    subst e
    exact h
  · intro h
    exact ⟨s, rfl, h⟩
/-- in new memory -/
def MadeDb (t : Db) (w : World) (e : Ending) (w' : World) : Prop :=
  ∃ (A : Option Addr) (d : Nat) (fp : List Nat), e = .returned (.agg #[.slice A t.length d]) ∧ ODb w' t [.slice A t.length d] fp ∧ (∀ b ∈ fp, w.heap.size ≤ b ∧ b < w'.heap.size) ∧ Below w.heap.size w w'
theorem len_wDb (t : Db) : t.length ≤ wDb t := by unfold wDb wL; omega
end Go.Proofs.YtlikmgkjilmjpaaGreat

/-
  A value that is put together in a variable of its own: what its loop keeps.
-/
namespace Go.Proofs.YtlikmgkjilmjpaaGreat
open Go.RowKit

theorem part4_app {xs : List Value} {r0 r1 r2 r3 : Value} {k j : Nat} (hl : xs.length = k * 4) (hj : j < k) : part4 (xs ++ [r0, r1, r2, r3]) j = part4 xs j :=
  part4_ext fun i hi => by rw [List.getElem?_append_left (by omega)]
theorem part4_end {xs : List Value} {r0 r1 r2 r3 : Value} {k : Nat} (hl : xs.length = k * 4) : part4 (xs ++ [r0, r1, r2, r3]) k = [r0, r1, r2, r3] := by
  unfold part4
  rw [List.drop_append_of_le_length (by omega), List.drop_eq_nil_of_le (by omega)]
  rfl
/-- k parts are put together; the variable is the block g -/
def CInvV (a : VaA) (ks : List Va) (w : World) (g : Nat) (LL : Option Addr) (lc k : Nat) (A : Option Addr) (d : Nat) (xs : List Value) (fs : Nat → List Nat) (wr : World) : Prop :=
  Box4 wr g 47 (.int .i64 a.kind) (.int .i64 a.num) (.slice LL a.labels.length lc) (.slice A k d) ∧ wr.ownsRow 0 47 4 (.slice A k d) k xs ∧
    wr.ownsRow 0 9 1 (.slice LL a.labels.length lc) a.labels.length (a.labels.map Value.string) ∧ (∀ j t, j < k → ks[j]? = some t → OVa wr t (part4 xs j) (fs j)) ∧
    (blk LL ++ blk A ++ (List.range k).flatMap fs).Nodup ∧ (∀ b ∈ blk LL ++ blk A ++ (List.range k).flatMap fs, w.heap.size ≤ b ∧ b < wr.heap.size ∧ b ≠ g) ∧ w.heap.size ≤ g ∧ Below w.heap.size w wr

theorem cinvV_more {a : VaA} {ks : List Va} {w : World} {g : Nat} {LL : Option Addr} {lc k : Nat} {A : Option Addr} {d : Nat} {xs : List Value} {fs : Nat → List Nat} {wr : World} (h : CInvV a ks w g LL lc k A d xs fs wr) (hk : k < ks.length)
    {w2 w4 : World} {fp : List Nat} {r0 r1 r2 r3 v' : Value} (hb2 : Below wr.heap.size wr w2) (hot : OVa w2 ks[k] [r0, r1, r2, r3] fp) (hfp : ∀ b ∈ fp, wr.heap.size ≤ b ∧ b < w2.heap.size)
    (hown : w4.ownsRow 0 47 4 v' (k + 1) (xs ++ [r0, r1, r2, r3])) (hgr : (w2.alloc (.cells #[r0, r1, r2, r3] 47)).grownBy w4 (Value.slice A k d).ownBlock)
    (hor : v'.ownBlock = (Value.slice A k d).ownBlock ∨ v'.ownBlock = some (w2.heap.size + 1)) :
    ∃ A' d' fs', v' = .slice A' (k + 1) d' ∧ CInvV a ks w g LL lc (k + 1) A' d' (xs ++ [r0, r1, r2, r3]) fs' (w4.setCell ⟨g, 3, none⟩ v') := by
  obtain ⟨A', d', rfl⟩ := own_shape3 hown
  obtain ⟨hbox, hrow, hlab, hkid, hnd, hbd, hwg, hb⟩ := h
  have hxl : xs.length = k * 4 := hrow.1
  have hgl := hbox.lt
  have hs2 := hb2.size
  have hsw := hb.size
  obtain ⟨w3, hw3⟩ : ∃ w3, w2.alloc (.cells #[r0, r1, r2, r3] 47) = w3 := ⟨_, rfl⟩
  have hz3 : w3.heap.size = w2.heap.size + 1 := by rw [← hw3]; simp
  rw [hw3] at hgr
  have hs4 := hgr.size
  obtain ⟨w5, hw5⟩ : ∃ w5, w4.setCell ⟨g, 3, none⟩ (.slice A' (k + 1) d') = w5 := ⟨_, rfl⟩
  have hg5 : w4.grownBy w5 (some g) := by rw [← hw5]; exact grown_set (World.grownBy.refl _ _) _
  have hs5 := hg5.size
  have hb3 : Below wr.heap.size wr w3 := by rw [← hw3]; exact hb2.alloc hs2 _
  have hrowA : ∀ b, (Value.slice A k d).ownBlock = some b ↔ b ∈ blk A := blk_own A k d
  obtain ⟨nL, nA, nF, dLA, dLF, dAF⟩ := nodup3.1 hnd
  have bdL : ∀ b ∈ blk LL, w.heap.size ≤ b ∧ b < wr.heap.size ∧ b ≠ g := fun b hm => hbd b (by simp [hm])
  have bdA : ∀ b ∈ blk A, w.heap.size ≤ b ∧ b < wr.heap.size ∧ b ≠ g := fun b hm => hbd b (by simp [hm])
  have bdF : ∀ b ∈ (List.range k).flatMap fs, w.heap.size ≤ b ∧ b < wr.heap.size ∧ b ≠ g := fun b hm => hbd b (List.mem_append.2 (.inr hm))
  have hA' : ∀ b ∈ blk A', b ∈ blk A ∨ b = w2.heap.size + 1 := by
    intro b hm
    have e := (blk_own A' (k + 1) d' b).2 hm
    rcases hor with h | h
    · rw [h] at e; exact .inl ((hrowA b).1 e)
    · rw [h] at e; injection e with e; exact .inr e.symm
  have hlt' : ∀ b ∈ blk A', b < w4.heap.size := fun b hm => (hown.lt b ((blk_own A' (k + 1) d' b).2 hm)).2
  have notrow : ∀ b, b ∉ blk A → some b ≠ (Value.slice A k d).ownBlock := fun b hm e => hm ((hrowA b).1 e.symm)
  have hgA : g ∉ blk A := fun hm => (bdA g hm).2.2 rfl
  have hfj : ∀ j, j < k → ∀ b ∈ fs j, b ∈ (List.range k).flatMap fs := fun j hj b hm => List.mem_flatMap.2 ⟨j, List.mem_range.2 hj, hm⟩
  refine ⟨A', d', fun j => if j = k then fp else fs j, rfl, ?_⟩
  rw [hw5]
  refine ⟨?_, ?_, ?_, fun j t hj ht => ?_, ?_, ?_, hwg, ?_⟩
  · rw [← hw5]
    exact ((hbox.under hb3 hgl).grown hgr (notrow g hgA)).set3 _
  · exact own_keep hown hg5 (fun b hm e => by
      injection e with e
      subst e
      rcases hA' b hm with h | h
      · exact hgA h
      · omega)
  · refine own_keep (own_keep (own_keep hlab (row := none) ⟨hb3.os, hb3.tape, hb3.output, hb3.size, fun i hi _ => hb3.block i hi⟩ (fun b _ => by simp)) hgr (fun b hm => notrow b (dLA b hm))) hg5 (fun b hm e => by injection e with e; exact (bdL b hm).2.2 e)
  · show OVa _ _ _ (if j = k then fp else fs j)
    by_cases e : j = k
    · subst e
      rw [List.getElem?_eq_getElem hk] at ht
      injection ht with ht
      subst ht
      rw [if_pos rfl, part4_end hxl]
      have h3 : OVa w3 ks[j] [r0, r1, r2, r3] fp := by rw [← hw3]; exact hot.under ((Below.refl _ _).alloc (Nat.le_refl _) _)
      refine (h3.keep hgr (fun b hm => notrow b (fun hA => ?_))).keep hg5 (fun b hm e => ?_)
      · have h1 := bdA b hA
        have h2 := hfp b hm
        omega
      · injection e with e
        have h2 := hfp b hm
        omega
    · have hj' : j < k := by omega
      rw [if_neg e, part4_app hxl hj']
      refine (((hkid j t hj' ht).under hb3).keep hgr (fun b hm => notrow b (fun hA => dAF b hA (hfj j hj' b hm)))).keep hg5 (fun b hm e => ?_)
      injection e with e
      exact (bdF b (hfj j hj' b hm)).2.2 e
  · rw [flat_more]
    refine nodup3.2 ⟨nL, blk_nodup _, List.nodup_append.2 ⟨nF, hot.nodup, fun x hx y hy e => ?_⟩, fun x hx hy => ?_, fun x hx hy => ?_, fun x hx hy => ?_⟩
    · have h1 := bdF x hx
      have h2 := hfp y hy
      omega
    · have h1 := bdL x hx
      rcases hA' x hy with h | h
      · exact dLA x hx h
      · omega
    · have h1 := bdL x hx
      rcases List.mem_append.1 hy with h | h
      · exact dLF x hx h
      · have := hfp x h; omega
    · rcases hA' x hx with h1 | h1
      · have h3 := bdA x h1
        rcases List.mem_append.1 hy with h | h
        · exact dAF x h1 h
        · have := hfp x h; omega
      · rcases List.mem_append.1 hy with h | h
        · have := bdF x h; omega
        · have := hfp x h; omega
  · rw [flat_more]
    intro b hm
    rcases List.mem_append.1 hm with hm | hm
    · rcases List.mem_append.1 hm with hm | hm
      · have := bdL b hm; exact ⟨this.1, by omega, this.2.2⟩
      · have h2 := hlt' b hm
        rcases hA' b hm with h | h
        · have := bdA b h; exact ⟨this.1, by omega, this.2.2⟩
        · exact ⟨by omega, by omega, by omega⟩
    · rcases List.mem_append.1 hm with hm | hm
      · have := bdF b hm; exact ⟨this.1, by omega, this.2.2⟩
      · have := hfp b hm; exact ⟨by omega, by omega, by omega⟩
  · have h4 : Below w.heap.size w w4 := (hb.trans (hb3.mono hb.size)).grown hgr (by omega) (fun b hm => (bdA b ((hrowA b).1 hm)).1)
    exact h4.grown hg5 h4.size (fun b hm => by injection hm with hm; omega)

theorem one4 (k n0 : Int) (L A : Option Addr) (l c n d : Nat) : ∀ u ∈ [Value.int .i64 k, .int .i64 n0, .slice L l c, .slice A n d], u.oneCell' = true := by
  intro u hu
  simp at hu
  rcases hu with rfl | rfl | rfl | rfl <;> rfl

def C0V (a : VaA) (ks : List Va) (W1 : World) (s3 : Value) (wx : World) : Prop := ∃ g LL lc, s3 = .pointer (some ⟨g, 0, none⟩) ∧ CInvV a ks W1 g LL lc 0 none 0 [] (fun _ => []) wx

theorem c0V_at {a : VaA} {ks : List Va} {W1 V : World} {g base : Nat} {LL : Option Addr} {lc : Nat} (hb : Below W1.heap.size W1 V) (hbox : Box4 V g 47 (.int .i64 a.kind) (.int .i64 a.num) (.slice LL a.labels.length lc) (.slice none 0 0)) (hg : W1.heap.size ≤ g)
    (hown : V.ownsRow base 9 1 (.slice LL a.labels.length lc) a.labels.length (a.labels.map Value.string)) (hbase : W1.heap.size ≤ base) (hne : ∀ b ∈ blk LL, b ≠ g) : C0V a ks W1 (.pointer (some ⟨g, 0, none⟩)) V := by
  have hbL : ∀ b ∈ blk LL, W1.heap.size ≤ b ∧ b < V.heap.size := fun b hm => by
    have := hown.lt b ((blk_own LL _ lc b).2 hm)
    exact ⟨Nat.le_trans hbase this.1, this.2⟩
  refine ⟨g, LL, lc, rfl, hbox, ⟨rfl, .inl ⟨rfl, rfl⟩⟩, own_zero hown, fun j t hj => by omega, ?_, fun b hm => ?_, hg, hb⟩
  · simp [blk]
    exact blk_nodup LL
  · have hm' : b ∈ blk LL := by simpa [blk] using hm
    exact ⟨(hbL b hm').1, (hbL b hm').2, hne b hm'⟩
theorem c0V_of {a : VaA} {ks : List Va} {W1 U : World} {g base : Nat} {LL : Option Addr} {lc : Nat} (hb : Below W1.heap.size W1 U) (hbox : Box4 U g 47 (.int .i64 0) (.int .i64 0) (.slice none 0 0) (.slice none 0 0)) (hg : W1.heap.size ≤ g)
    (hown : U.ownsRow base 9 1 (.slice LL a.labels.length lc) a.labels.length (a.labels.map Value.string)) (hbase : W1.heap.size ≤ base) (hne : ∀ b ∈ blk LL, b ≠ g) :
    C0V a ks W1 (.pointer (some ⟨g, 0, none⟩)) ((((U.setCell ⟨g, 0, none⟩ (.int .i64 a.kind)).setCell ⟨g, 1, none⟩ (.int .i64 a.num)).setCell ⟨g, 2, none⟩ (.slice LL a.labels.length lc)).setCell ⟨g, 3, none⟩ (.slice none 0 0)) := by
  obtain ⟨V, hV⟩ : ∃ V, (((U.setCell ⟨g, 0, none⟩ (.int .i64 a.kind)).setCell ⟨g, 1, none⟩ (.int .i64 a.num)).setCell ⟨g, 2, none⟩ (.slice LL a.labels.length lc)).setCell ⟨g, 3, none⟩ (.slice none 0 0) = V := ⟨_, rfl⟩
  have hgV : U.grownBy V (some g) := by rw [← hV]; exact grown_set (grown_set (grown_set (grown_set (World.grownBy.refl _ _) _) _) _) _
  rw [hV]
  refine c0V_at (lc := lc) (hb.grown hgV hb.size (fun b hm => by injection hm with hm; omega)) ?_ hg (base := base) ?_ hbase hne
  · rw [← hV]
    exact (((hbox.set0 _).set1 _).set2 _).set3 _
  · exact own_keep hown hgV (fun b hm e => by injection e with e; exact hne b hm e)

theorem cell_four {w : World} {g : Nat} {a b c d u : Value} {p : Addr} (h : w.cell? p = some u) (hne : p.block ≠ g) : ((((w.setCell ⟨g, 0, none⟩ a).setCell ⟨g, 1, none⟩ b).setCell ⟨g, 2, none⟩ c).setCell ⟨g, 3, none⟩ d).cell? p = some u := by
  have hg : w.grownBy ((((w.setCell ⟨g, 0, none⟩ a).setCell ⟨g, 1, none⟩ b).setCell ⟨g, 2, none⟩ c).setCell ⟨g, 3, none⟩ d) (some g) := grown_set (grown_set (grown_set (grown_set (World.grownBy.refl _ _) _) _) _) _
  exact (World.cell?_of_block (hg.block _ (World.block_lt_of_cell? w _ h) (fun e => hne (by injection e)))).trans h

/-- what the loop keeps -/
def CRelV (a : VaA) (ks : List Va) (W1 : World) (g : Nat) (LL : Option Addr) (lc : Nat) (i : Value) (wr : World) : Prop := ∃ (k : Nat) (A : Option Addr) (d : Nat) (xs : List Value) (fs : Nat → List Nat), k ≤ ks.length ∧ i = .int .i64 k ∧ CInvV a ks W1 g LL lc k A d xs fs wr
theorem CInvV.drew {a : VaA} {ks : List Va} {w : World} {g : Nat} {LL : Option Addr} {lc k : Nat} {A : Option Addr} {d : Nat} {xs : List Value} {fs : Nat → List Nat} {wr : World} (h : CInvV a ks w g LL lc k A d xs fs wr) : CInvV a ks w g LL lc k A d xs fs wr.drew := by
  obtain ⟨h1, h2, h3, h4, h5, h6, h7, h8⟩ := h
  exact ⟨h1, h2, h3, fun j t hj ht => (h4 j t hj ht).under (Below.refl _ _).drew, h5, h6, h7, h8.drew⟩
theorem CInvV.apart {a : VaA} {ks : List Va} {w : World} {g : Nat} {LL : Option Addr} {lc k : Nat} {A : Option Addr} {d : Nat} {xs : List Value} {fs : Nat → List Nat} {wr : World} (h : CInvV a ks w g LL lc k A d xs fs wr) : some g ≠ (Value.slice A k d).ownBlock := by
  obtain ⟨h1, h2, h3, h4, h5, h6, h7, h8⟩ := h
  intro e
  exact (h6 g (by simp [(blk_own A k d g).1 e.symm])).2.2 rfl
theorem CInvV.box {a : VaA} {ks : List Va} {w : World} {g : Nat} {LL : Option Addr} {lc k : Nat} {A : Option Addr} {d : Nat} {xs : List Value} {fs : Nat → List Nat} {wr : World} (h : CInvV a ks w g LL lc k A d xs fs wr) : Box4 wr g 47 (.int .i64 a.kind) (.int .i64 a.num) (.slice LL a.labels.length lc) (.slice A k d) := h.1
theorem CInvV.row {a : VaA} {ks : List Va} {w : World} {g : Nat} {LL : Option Addr} {lc k : Nat} {A : Option Addr} {d : Nat} {xs : List Value} {fs : Nat → List Nat} {wr : World} (h : CInvV a ks w g LL lc k A d xs fs wr) : wr.ownsRow 0 47 4 (.slice A k d) k xs := h.2.1
theorem CInvV.bel {a : VaA} {ks : List Va} {w : World} {g : Nat} {LL : Option Addr} {lc k : Nat} {A : Option Addr} {d : Nat} {xs : List Value} {fs : Nat → List Nat} {wr : World} (h : CInvV a ks w g LL lc k A d xs fs wr) : Below w.heap.size w wr := h.2.2.2.2.2.2.2
theorem own4_below {w w' : World} {base : Nat} {e : TypeId} {A : Option Addr} {n c : Nat} {xs : List Value} (h : w.ownsRow base e 4 (.slice A n c) n xs) (hb : Below w.heap.size w w') : w'.ownsRow base e 4 (.slice A n c) n xs :=
  own_keep h (row := none) ⟨hb.os, hb.tape, hb.output, hb.size, fun i hi _ => hb.block i hi⟩ (fun b _ => by simp)
theorem news4 (w : World) (a b c d : Value) (t : TypeId) : ∀ (j : Nat) (u : Value), [a, b, c, d][j]? = some u → (w.alloc (.cells #[a, b, c, d] t)).cell? ((⟨w.heap.size, 0, none⟩ : Addr).add j) = some u := by
  intro j u hj
  rw [Addr.add_lit, Nat.zero_add, cell_of_row _ _ j #[a, b, c, d] t (0, 0) (heap_alloc_new w _)]
  match j, hj with
  | 0, hj => simpa using hj
  | 1, hj => simpa using hj
  | 2, hj => simpa using hj
  | 3, hj => simpa using hj

theorem copyV_done {a : VaA} {ks : List Va} {w W1 : World} {g : Nat} {LL : Option Addr} {lc : Nat} {A : Option Addr} {d : Nat} {xs : List Value} {fs : Nat → List Nat} {wr : World} {G : Nat} (ha : a.ok) (hk : ks.length ≤ 9223372036854775807)
    (h : CInvV a ks W1 g LL lc ks.length A d xs fs wr) (hb1 : Below w.heap.size w W1) (hG : G < W1.heap.size) (hwG : w.heap.size ≤ G) {U : World} (hU : wr.grownBy U (some G)) :
    MadeV (.node a ks) w (.returned (.agg #[.int .i64 a.kind, .int .i64 a.num, .slice LL a.labels.length lc, .slice A ks.length d])) U := by
  obtain ⟨h1, h2, h3, h4, h5, h6, h7, h8⟩ := h
  have hsU := hU.size
  have hs1 := hb1.size
  have ne : ∀ b ∈ blk LL ++ blk A ++ (List.range ks.length).flatMap fs, some b ≠ some G := fun b hb e => by
    injection e with e
    have := (h6 b hb).1
    omega
  refine ⟨LL, A, lc, d, blk LL ++ blk A ++ (List.range ks.length).flatMap fs, rfl, ?_, fun b hb => ?_, ?_⟩
  · refine .node a ks LL A lc d xs fs ha (own_keep h3 hU (fun b hb => ne b (by simp [hb]))) hk (own_keep h2 hU (fun b hb => ne b (by simp [hb]))) (fun j t hj => ?_) h5
    have hjl := (List.getElem?_eq_some_iff.1 hj).1
    refine (h4 j t hjl hj).keep hU (fun b hb => ne b ?_)
    rw [List.mem_append, List.mem_flatMap]
    exact .inr ⟨j, List.mem_range.2 hjl, hb⟩
  · have := h6 b hb
    omega
  · exact (hb1.trans (h8.mono hs1)).grown hU (by have := h8.size; omega) (fun k hk => by injection hk with hk; omega)
end Go.Proofs.YtlikmgkjilmjpaaGreat
