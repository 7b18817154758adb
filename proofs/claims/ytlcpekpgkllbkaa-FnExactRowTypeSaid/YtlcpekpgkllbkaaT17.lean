/-
  Merged by program: VaEq, KdVa, KDd, Db.
-/
import Derived.Test.YtlcpekpgkllbkaaT7
import Derived.Test.YtlcpekpgkllbkaaT3
import Derived.StillTailTactics
import Derived.Test.YtlcpekpgkllbkaaT6
import Derived.Test.YtlcpekpgkllbkaaT16
import Derived.Test.YtlcpekpgkllbkaaT10
import Derived.Test.YtlcpekpgkllbkaaT15
import Derived.Test.YtlcpekpgkllbkaaT8

/-
  The comparison of a type with itself, wherever the two lie: 'eqValue', 'eqValueS'.
-/
namespace Go.Proofs.Ytlcpekpgkllbkaa
open Go.RowKit

def EqVK (t : Va) : Prop := ∀ (w : World) (cs ds : List Value), RVa w t cs → RVa w t ds → Calls Try.prog 64 #[.agg cs.toArray, .agg ds.toArray] w (LawYes w)

set_option maxHeartbeats 800000 in
set_option maxRecDepth 100000 in
theorem eqValueS_of (ks : List Va) (ih : ∀ t ∈ ks, EqVK t) (w : World) (A B : Option Addr) (c d : Nat) (hA : RVas w A ks) (hB : RVas w B ks) (hl : ks.length ≤ 9223372036854775807) :
    Calls Try.prog 24 #[.slice A ks.length c, .slice B ks.length d] w (LawYes w) := by
  have HA := Lib.hid hA
  have HB := Lib.hid hB
  have HI := Lib.hid ih
  clear hA hB ih
  go_enter Try.func24, Try.ntmps24
  go_wp2_with fail
  go_loopw [5] (fun i wr => ∃ k : Nat, k ≤ ks.length ∧ i = .int .i64 k ∧ Below w.heap.size w wr) (fun i _ => ks.length - (intOf i).toNat)
  case atStart => exact ⟨0, Nat.zero_le _, rfl, Below.refl _ _⟩
  case round =>
    obtain ⟨k, hk, rfl, hb⟩ := hrel
    by_cases hlt : k < ks.length
    · obtain ⟨ad, p, c0, c1, c2, c3, rfl, hpe, hr, q0, q1, q2, q3⟩ := vid_at HA.out hb hlt
      obtain ⟨bd, p', d0, d1, d2, d3, rfl, hpe', hr', q0', q1', q2', q3'⟩ := vid_at HB.out hb hlt
      have HR := Lib.hid hr
      have HR' := Lib.hid hr'
      have HBW := Lib.hid hb
      clear hr hr' hb
      go_wp2_with fail
      go_still_tail 8, (by kernel_rfl)
      change wpList _ _ _ _ _ wr.drew
      have hd : Below wr.heap.size wr wr.drew := (Below.refl _ _).drew
      have HC := Lib.hid (HI.out ks[k] (List.getElem_mem hlt) wr.drew [c0, c1, c2, c3] [d0, d1, d2, d3] (HR.out.keep hd) (HR'.out.keep hd))
      have HB2 := Lib.hid (HBW.out.trans (hd.mono HBW.out.size))
      clear hd
      go_wp2_with fail
      refine HC.out.mono ?_
      rintro e w2 ⟨rfl, hb2⟩
      have HB3 := Lib.hid (HB2.out.trans (hb2.mono HB2.out.size))
      clear hb2
      go_wp2_with fail
      go_roundw
      case rel => exact ⟨k + 1, hlt, by go_num, HB3.out⟩
      case measure => simp [intOf]; omega
    · go_wp2_with fail
      go_ret
      exact ⟨rfl, hb⟩

set_option maxHeartbeats 800000 in
set_option maxRecDepth 100000 in
theorem eqValue_same : ∀ t : Va, EqVK t := by
  refine Tr.ind ?_
  intro a ks ih w cs ds h h'
  obtain ⟨L, c, A, d, rfl, k1, ⟨_, _, _, _, k4, k5⟩, k6, hp⟩ := h.out
  obtain ⟨L', c', A', d', rfl, k1', _, _, hp'⟩ := h'.out
  obtain ⟨W1, hW1⟩ : ∃ W1, (w.alloc (.cells #[.int .i64 a.kind, .int .i64 a.num, .slice L a.labels.length c, .slice A ks.length d] 92)).alloc (.cells #[.int .i64 a.kind, .int .i64 a.num, .slice L' a.labels.length c', .slice A' ks.length d'] 92) = W1 := ⟨_, rfl⟩
  obtain ⟨H, hH⟩ : ∃ H, w.heap.size = H := ⟨_, rfl⟩
  have b0 : Box4 W1 H 92 (.int .i64 a.kind) (.int .i64 a.num) (.slice L a.labels.length c) (.slice A ks.length d) := by rw [← hW1, ← hH]; exact (Box4.new w _ _ _ _ _).alloc _
  have b1 : Box4 W1 (H + 1) 92 (.int .i64 a.kind) (.int .i64 a.num) (.slice L' a.labels.length c') (.slice A' ks.length d') := by
    rw [← hW1, ← hH]
    have := Box4.new (w.alloc (.cells #[.int .i64 a.kind, .int .i64 a.num, .slice L a.labels.length c, .slice A ks.length d] 92)) 92 (.int .i64 a.kind) (.int .i64 a.num) (.slice L' a.labels.length c') (.slice A' ks.length d')
    simpa using this
  have hb1 : Below w.heap.size w W1 := by rw [← hW1]; exact ((Below.refl _ _).alloc (Nat.le_refl _) _).alloc (by simp) _
  have HW1 := Lib.hid hW1
  have HP := Lib.hid (hp.keep hb1)
  have HP' := Lib.hid (hp'.keep hb1)
  have HL := Lib.hid (k1.below hb1)
  have HL' := Lib.hid (k1'.below hb1)
  have HB1 := Lib.hid hb1
  have HI := Lib.hid ih
  have x0 := b0.c0
  have x1 := b0.c1
  have x2 := b0.c2
  have x3 := b0.c3
  have y0 := b1.c0
  have y1 := b1.c1
  have y2 := b1.c2
  have y3 := b1.c3
  have B0 := Lib.hid b0
  have B1 := Lib.hid b1
  clear hp hp' ih k1 k1' k5 h h' hW1 b0 b1 hb1
  go_enter Try.func64, Try.ntmps64
  go_wp2_with fail
  rw [HW1.out]
  refine (eqL_any _ _ _ _ a.labels W1 HL.out HL'.out k4).mono ?_
  rintro e w2 ⟨rfl, hb2⟩
  have hz : H + 1 < W1.heap.size := B1.out.lt
  have z2 := (B0.out.under hb2 (by omega)).c3
  have v2 := (B1.out.under hb2 (by omega)).c3
  have HP2 := Lib.hid (HP.out.keep hb2)
  have HP2' := Lib.hid (HP'.out.keep hb2)
  have HB2 := Lib.hid (HB1.out.trans (hb2.mono HB1.out.size))
  clear hb2 x0 x1 x2 x3 y0 y1 y2 y3
  go_wp2_with fail
  refine (eqValueS_of ks HI.out w2 A A' d d' HP2.out HP2'.out k6).mono ?_
  rintro e w3 ⟨rfl, hb3⟩
  have HB3 := Lib.hid (HB2.out.trans (hb3.mono HB2.out.size))
  clear hb3 z2 v2
  go_wp2_with fail
  go_ret
  exact ⟨rfl, HB3.out⟩
end Go.Proofs.Ytlcpekpgkllbkaa

/-
  Values and lists of values as kinds of data; the laws' functions on such lists in the words of kinds.
-/
namespace Go.Proofs.Ytlcpekpgkllbkaa
open Go.RowKit

theorem OVa.heldK {w w' : World} {t : Va} {cs : List Value} {fp : List Nat} {K : Nat → Prop} (h : OVa w t cs fp) (hH : Held K w w') (hK : ∀ b ∈ fp, K b) : OVa w' t cs fp := by
  induction h with
  | node a ks L A c d xs fs h0 h1 h2 h3 h4 h5 ih =>
    refine .node a ks L A c d xs fs h0 (own_heldK h1 hH fun b hb => hK b (by simp [hb])) h2 (own_heldK h3 hH fun b hb => hK b (by simp [hb])) (fun j t hj => ih j t hj fun b hb => hK b ?_) h5
    rw [List.mem_append, List.mem_flatMap]
    exact .inr ⟨j, List.mem_range.2 (List.getElem?_eq_some_iff.1 hj).1, hb⟩
def kVa : Kd Va where
  n := 4
  R := RVa
  O := OVa
  len h := h.len
  keep h hb := h.keep hb
  reads h := h.reads
  held h hH hK := h.heldK hH hK
  nodup h := h.nodup
theorem rl_va {w : World} {A : Option Addr} {ks : List Va} : RL kVa w A ks ↔ RVas w A ks := Iff.rfl
theorem kVas_shape {e : TypeId} {w : World} {ts : List Va} {cs : List Value} (h : (kVa.list e).R w ts cs) : ∃ TA ta td, cs = [.slice TA ta td] := by
  obtain ⟨A, d, rfl, _⟩ := h
  exact ⟨_, _, _, rfl⟩
theorem kVas_slice {e : TypeId} {w : World} {ts : List Va} {A : Option Addr} {n d : Nat} (h : (kVa.list e).R w ts [.slice A n d]) : n = ts.length ∧ ts.length ≤ 9223372036854775807 ∧ ts.length ≤ d ∧ RVas w A ts := by
  obtain ⟨A', d', e1, h1, h2, h3⟩ := h
  injection e1 with e1 _
  injection e1 with e1 e2 e3
  subst e1 e2 e3
  exact ⟨rfl, h1, h2, h3⟩
theorem szVas_K (ts : List Va) (w : World) (left : Int) {A : Option Addr} {n d : Nat} (h : (kVa.list 92).R w ts [.slice A n d]) (h0 : 0 ≤ left) (h1 : left ≤ 1048576) : Calls Try.prog 111 #[.slice A n d, .int .i64 left] w (SzV (wL wv ts) left w) := by
  obtain ⟨rfl, hl, _, hp⟩ := kVas_slice h
  exact szValueS_of ts (fun t _ => szValue_any t) w A d left hp hl h0 h1
theorem toVas_K (ts : List Va) (w : World) {A : Option Addr} {n d : Nat} (h : (kVa.list 92).R w ts [.slice A n d]) (hw : wL wv ts ≤ 1048576) : Calls Try.prog 112 #[.slice A n d] w (MadeK (kVa.list 92) ts (fun cs => cs.headD undef) w) := by
  obtain ⟨rfl, hl, _, hp⟩ := kVas_slice h
  refine (toValueS_of ts (fun t _ => toValue_any t) w A d hp hw).mono fun e w' ⟨A', d', xs, fs, he, ho, hk, hn, hb, hbw⟩ => ?_
  exact ⟨[.slice A' ts.length d'], _, he, ⟨_, rfl, A', d', xs, fs, rfl, hl, ho, hk, rfl, hn⟩, hb, hbw⟩
theorem eqVas_K (ts : List Va) (w : World) {A B : Option Addr} {n m c d : Nat} (h : (kVa.list 92).R w ts [.slice A n c]) (h' : (kVa.list 92).R w ts [.slice B m d]) : Calls Try.prog 24 #[.slice A n c, .slice B m d] w (LawYes w) := by
  obtain ⟨rfl, hl, _, hp⟩ := kVas_slice h
  obtain ⟨rfl, _, _, hp'⟩ := kVas_slice h'
  exact eqValueS_of ts (fun t _ => eqValue_same t) w A B c d hp hp' hl
end Go.Proofs.Ytlcpekpgkllbkaa

/-
  Structs of a name and a list of values (TableData). Written by genpair.py.
-/
namespace Go.Proofs.Ytlcpekpgkllbkaa
open Go.RowKit

abbrev Dd := ByteArray × List Va
def kDd : Kd Dd := kStr.prod (kVa.list 92)
theorem kDd_n : kDd.n = 2 := rfl
def wDd (x : Dd) : Nat := x.1.size + (wL wv) x.2
theorem kDd_open {w : World} {x : Dd} {cs : List Value} (h : kDd.R w x cs) : ∃ TA ta td, cs = [.string x.1, .slice TA ta td] ∧ x.1.size ≤ 9223372036854775807 ∧ (kVa.list 92).R w x.2 [.slice TA ta td] := by
  obtain ⟨c1, c2, rfl, ⟨rfl, h1⟩, h2⟩ := h
  obtain ⟨TA, ta, td, rfl⟩ := kVas_shape h2
  exact ⟨TA, ta, td, rfl, h1, h2⟩
theorem kDd_make {w : World} {x : Dd} {ys : List Value} (h1 : x.1.size ≤ 9223372036854775807) (h2 : (kVa.list 92).R w x.2 ys) : kDd.R w x (.string x.1 :: ys) := ⟨[.string x.1], ys, rfl, ⟨rfl, h1⟩, h2⟩
theorem kDd_omake {w : World} {x : Dd} {ys : List Value} {fp : List Nat} (h1 : x.1.size ≤ 9223372036854775807) (h2 : (kVa.list 92).O w x.2 ys fp) : kDd.O w x (.string x.1 :: ys) fp := ⟨[.string x.1], ys, [], fp, rfl, ⟨rfl, h1, rfl⟩, h2, rfl, (kVa.list 92).nodup h2⟩
theorem kDd_oopen {w : World} {x : Dd} {cs : List Value} {fp : List Nat} (h : kDd.O w x cs fp) : ∃ TA ta td, cs = [.string x.1, .slice TA ta td] ∧ x.1.size ≤ 9223372036854775807 ∧ (kVa.list 92).O w x.2 [.slice TA ta td] fp := by
  obtain ⟨c1, c2, f1, f2, rfl, ⟨rfl, h1, rfl⟩, h2, rfl, _⟩ := h
  obtain ⟨TA, ta, td, rfl⟩ := kVas_shape ((kVa.list 92).reads h2)
  exact ⟨TA, ta, td, rfl, h1, h2⟩
end Go.Proofs.Ytlcpekpgkllbkaa

/-
  DB: a struct of one field, a list of TableData. Written by genwrap.py.
-/
namespace Go.Proofs.Ytlcpekpgkllbkaa
open Go.RowKit

abbrev Db := List Dd
def RDb (w : World) (t : Db) (cs : List Value) : Prop := (kDd.list 86).R w t cs
def ODb (w : World) (t : Db) (cs : List Value) (fp : List Nat) : Prop := (kDd.list 86).O w t cs fp
def wDb (t : Db) : Nat := wL wDd t
theorem RDb.keep {w w' : World} {t : Db} {cs : List Value} (h : RDb w t cs) (hb : Below w.heap.size w w') : RDb w' t cs := (kDd.list 86).keep h hb
theorem RDb.open {w : World} {t : Db} {cs : List Value} (h : RDb w t cs) : ∃ A d, cs = [.slice A t.length d] ∧ t.length ≤ 9223372036854775807 ∧ t.length ≤ d ∧ RL kDd w A t := h
theorem RDb.one {w : World} {t : Db} {cs : List Value} (h : RDb w t cs) : ∃ c0, cs = [c0] := by
  obtain ⟨A, d, rfl, _⟩ := h
  exact ⟨_, rfl⟩
theorem ODb.reads {w : World} {t : Db} {cs : List Value} {fp : List Nat} (h : ODb w t cs fp) : RDb w t cs := (kDd.list 86).reads h
theorem ODb.under {w w' : World} {t : Db} {cs : List Value} {fp : List Nat} (h : ODb w t cs fp) (hb : Below w.heap.size w w') : ODb w' t cs fp := (kDd.list 86).under h hb
theorem ODb.ol {w : World} {t : Db} {s : Value} {fp : List Nat} : ODb w t [s] fp ↔ OL kDd 86 w t s fp := by
  constructor
  · rintro ⟨s', e, h⟩
    injection e with e _
    subst e
    exact h
  · intro h
    exact ⟨s, rfl, h⟩
/-- in new memory -/
def MadeDb (t : Db) (w : World) (e : Ending) (w' : World) : Prop :=
  ∃ (A : Option Addr) (d : Nat) (fp : List Nat), e = .returned (.agg #[.slice A t.length d]) ∧ ODb w' t [.slice A t.length d] fp ∧ (∀ b ∈ fp, w.heap.size ≤ b ∧ b < w'.heap.size) ∧ Below w.heap.size w w'
theorem len_wDb (t : Db) : t.length ≤ wDb t := by unfold wDb wL; omega
end Go.Proofs.Ytlcpekpgkllbkaa
