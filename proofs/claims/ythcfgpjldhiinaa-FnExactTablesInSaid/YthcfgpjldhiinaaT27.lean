/-
  Merged by program: Concat.
-/
import Derived.Test.YthcfgpjldhiinaaT20

/-
  The library's Grow at a nil slice, and Concat of two lists of texts: walked (the shelf has no contract of theirs).
-/
namespace Go.Proofs.Ythcfgpjldhiinaa
open Go.RowKit

theorem own_zeros (w : World) (n : Nat) (e : TypeId) (h : n ≤ maxLen) :
    (w.drew.alloc (.cells (Builtin.zeroCells (Value.string ⟨#[]⟩).cells n ++ Builtin.zeroCells (Value.string ⟨#[]⟩).cells (grownCap w n 0 e - n)) e)).ownsRow w.heap.size e 1 (.slice (some ⟨w.heap.size, 0, none⟩) 0 (grownCap w n 0 e)) 0 [] := by
  have hge := grownCap_ge w n 0 e
  refine ⟨by simp, .inr ⟨w.heap.size, _, _, rfl, Nat.le_refl _, heap_alloc_new w.drew _, Nat.zero_le _, grownCap_le_maxLen w n 0 e h, ?_, by simp⟩⟩
  simp [Builtin.zeroCells, Value.cells]
  omega

set_option maxHeartbeats 800000 in
theorem grow_any (n : Nat) (w : World) (hn : n ≤ 2097152) : Calls Try.prog 62 #[.slice none 0 0, .int .i64 n] w (OwnL [] w) := by
  obtain ⟨i0, hi, hz0, hz1, hz2⟩ := info_parts infoStr
  rcases Nat.eq_zero_or_pos n with rfl | hp
  · go_enter Try.func62, Try.ntmps62
    go_wp2_with fail
    go_ret
    exact ⟨none, 0, rfl, World.ownsRow_nil _ _ _ _, Below.refl _ _⟩
  · have hr := fun ty => Lib.run_append_nil_zeros (P := Try.prog) w 24 3 ty 9 i0 (.string ⟨#[]⟩) .i64 .i64 Try.underlying24 Try.underlying3 hi hz0 n hp (by rw [hz1]; omega) (by omega) (by rw [hz2]; omega)
    have ho := own_zeros w n 9 (by unfold maxLen; omega)
    have HR := Lib.hid hr
    have HO := Lib.hid ho
    clear hr ho
    go_enter Try.func62, Try.ntmps62
    go_wp2_with (at_builtin; refine Lib.wpList_append_run _ rfl (.tmp 20) (.tmp 21) 24 3 rfl _ _ rfl rfl _ _ (HR.out _) ?_)
    go_ret
    exact ⟨_, _, rfl, HO.out, (Below.refl _ _).drew.alloc (Nat.le_refl _) _⟩

/-- the sum that the first loop makes; what the second one has collected -/
def CatInv (n m : Nat) (sz i : Value) : Prop := (i = .int .i64 0 ∧ sz = .int .i64 0) ∨ (i = .int .i64 1 ∧ sz = .int .i64 n) ∨ (i = .int .i64 2 ∧ sz = .int .i64 (n + m : Nat))
def DInv (xs ys : List ByteArray) (w : World) (v i : Value) (wr : World) : Prop :=
  ∃ (o : List ByteArray) (A : Option Addr) (c : Nat), v = .slice A o.length c ∧ wr.ownsRow w.heap.size 9 1 (.slice A o.length c) o.length (o.map Value.string) ∧ Below w.heap.size w wr ∧
    ((i = .int .i64 0 ∧ o = []) ∨ (i = .int .i64 1 ∧ o = xs) ∨ (i = .int .i64 2 ∧ o = xs ++ ys))
theorem dinv_more {xs ys o zs : List ByteArray} {w wr : World} {v i : Value} (h : wr.ownsRow w.heap.size 9 1 v (o.length + zs.length) (o.map Value.string ++ zs.map Value.string)) (hb : Below w.heap.size w wr)
    (hi : (i = .int .i64 1 ∧ o ++ zs = xs) ∨ (i = .int .i64 2 ∧ o ++ zs = xs ++ ys)) : DInv xs ys w v i wr := by
  obtain ⟨A, c, rfl⟩ := own_shape h
  exact ⟨o ++ zs, A, c, by simp, by simpa using h, hb, .inr hi⟩

set_option maxHeartbeats 1600000 in
theorem concat_any (g : Nat) (A B : Option Addr) (c d : Nat) (xs ys : List ByteArray) (w : World) (h0 : w.cell? ⟨g, 0, none⟩ = some (.slice A xs.length c)) (h1 : w.cell? ⟨g, 1, none⟩ = some (.slice B ys.length d))
    (hA : Sl w A (xs.map Value.string)) (hB : Sl w B (ys.map Value.string)) (hnm : xs.length + ys.length ≤ 2097152) :
    Calls Try.prog 55 #[.slice (some ⟨g, 0, none⟩) 2 2] w (OwnL (xs ++ ys) w) := by
  obtain ⟨i0, hi, hz0, hz1, hz2⟩ := info_parts infoStr
  have hg : g < w.heap.size := World.block_lt_of_cell? w _ h0
  have hn : xs.length ≤ 2097152 := by omega
  have hm : ys.length ≤ 2097152 := by omega
  go_enter Try.func55, Try.ntmps55
  go_wp2_with fail
  go_loop [3, 11] (fun sz i => CatInv xs.length ys.length sz i) (fun _ i => 2 - (intOf i).toNat)
  case atStart => exact .inl ⟨rfl, rfl⟩
  case round =>
    rcases hrel with ⟨rfl, rfl⟩ | ⟨rfl, rfl⟩ | ⟨rfl, rfl⟩
    · go_wp2_with fail
      go_round
      case rel => exact .inr (.inl ⟨rfl, by go_num⟩)
      case measure => simp [intOf]
    · go_wp2_with fail
      go_round
      case rel => exact .inr (.inr ⟨rfl, by go_num⟩)
      case measure => simp [intOf]
    · go_wp2_with fail
      refine (grow_any (xs.length + ys.length) w (by omega)).mono ?_
      rintro e w1 ⟨A1, c1, rfl, hown1, hb1⟩
      have HB1 := Lib.hid hb1
      have HO1 := Lib.hid hown1
      clear hb1 hown1
      go_wp2_with fail
      go_loopw [6, 27] (fun v i wr => DInv xs ys w v i wr) (fun _ i _ => 2 - (intOf i).toNat)
      case atStart => exact ⟨[], A1, c1, rfl, HO1.out, HB1.out, .inl ⟨rfl, rfl⟩⟩
      case round =>
        obtain ⟨o, A2, c2, rfl, hown, hb, hj⟩ := hrel
        have hsz := hb.size
        have k0 : wr.cell? ⟨g, 0, none⟩ = some (.slice A xs.length c) := (hb.cell hg).trans h0
        have k1 : wr.cell? ⟨g, 1, none⟩ = some (.slice B ys.length d) := (hb.cell hg).trans h1
        have HA := Lib.hid (hA.below hb)
        have HBs := Lib.hid (hB.below hb)
        have HO := Lib.hid hown
        clear hown h0 h1
        rcases hj with ⟨rfl, rfl⟩ | ⟨rfl, rfl⟩ | ⟨rfl, rfl⟩
        · go_wp2_with (at_builtin; refine wpList_append_sl _ rfl (.tmp 31) (.tmp 32) 24 rfl w.heap.size 9 i0 _ 16 Try.underlying24 hi hz0 hz1 hz2 rfl _ _ _ rfl HO.out A xs.length c (xs.map Value.string) rfl (by simp) HA.out (strs_oneCell xs) (by unfold maxLen; simp; omega) (by simp; omega) hsz ?_; intro v' w2 hown2 hg2 _)
          have hb2 : Below w.heap.size w w2 := hb.grown hg2 hsz (fun q hq => (HO.out.lt q hq).1)
          go_roundw
          case rel => exact dinv_more (o := []) (zs := xs) (by simpa using hown2) hb2 (.inl ⟨rfl, rfl⟩)
          case measure => simp [intOf]
        · go_wp2_with (at_builtin; refine wpList_append_sl _ rfl (.tmp 31) (.tmp 32) 24 rfl w.heap.size 9 i0 _ 16 Try.underlying24 hi hz0 hz1 hz2 rfl _ _ _ rfl HO.out B ys.length d (ys.map Value.string) rfl (by simp) HBs.out (strs_oneCell ys) (by unfold maxLen; omega) (by omega) hsz ?_; intro v' w2 hown2 hg2 _)
          have hb2 : Below w.heap.size w w2 := hb.grown hg2 hsz (fun q hq => (HO.out.lt q hq).1)
          go_roundw
          case rel => exact dinv_more (o := _) (zs := ys) hown2 hb2 (.inr ⟨rfl, rfl⟩)
          case measure => simp [intOf]
        · go_wp2_with fail
          go_ret
          exact ⟨A2, c2, rfl, HO.out, hb⟩
end Go.Proofs.Ythcfgpjldhiinaa
