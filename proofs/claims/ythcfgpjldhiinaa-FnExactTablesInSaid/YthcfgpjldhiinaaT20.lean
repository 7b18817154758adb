/-
  Merged by program: Unite.
-/
import Derived.Test.YthcfgpjldhiinaaT17
import Derived.Test.YthcfgpjldhiinaaT18
import Derived.Test.YthcfgpjldhiinaaT19

/-
  The different texts of two lists, each at its first place: the model's UniteNames, which looks through what it has collected.
-/
namespace Go.Proofs.Ythcfgpjldhiinaa
open Go.RowKit

/-- a list of texts in memory of the call's own -/
def OwnL (xs : List ByteArray) (w : World) (e : Ending) (w' : World) : Prop :=
  ∃ A c, e = .returned (.slice A xs.length c) ∧ w'.ownsRow w.heap.size 9 1 (.slice A xs.length c) xs.length (xs.map Value.string) ∧ Below w.heap.size w w'

/-- what a loop that collects keeps -/
def UInv (o0 xs : List ByteArray) (w : World) (v i : Value) (wr : World) : Prop :=
  ∃ (k : Nat) (o : List ByteArray) (A : Option Addr) (c : Nat), k ≤ xs.length ∧ i = .int .i64 k ∧ v = .slice A o.length c ∧ Hid (o = uq o0 (xs.take k)) ∧ wr.ownsRow w.heap.size 9 1 (.slice A o.length c) o.length (o.map Value.string) ∧ Below w.heap.size w wr
theorem uinv_same {o0 xs o : List ByteArray} {k : Nat} {w wr : World} {x : ByteArray} {A : Option Addr} {c : Nat} {i : Value} (hk : k < xs.length) (hx : xs[k] = x) (ho : o = uq o0 (xs.take k)) (hin : x ∈ o) (hi : i = .int .i64 ((k + 1 : Nat) : Int))
    (h : wr.ownsRow w.heap.size 9 1 (.slice A o.length c) o.length (o.map Value.string)) (hb : Below w.heap.size w wr) : UInv o0 xs w (.slice A o.length c) i wr :=
  ⟨k + 1, o, A, c, hk, hi, rfl, by show o = _; rw [uq_succ o0 xs k hk, ← ho, hx, addU_in hin], h, hb⟩
theorem uinv_more {o0 xs o : List ByteArray} {k : Nat} {w wr : World} {x : ByteArray} {v i : Value} (hk : k < xs.length) (hx : xs[k] = x) (ho : o = uq o0 (xs.take k)) (hin : ¬ x ∈ o) (hi : i = .int .i64 ((k + 1 : Nat) : Int))
    (h : wr.ownsRow w.heap.size 9 1 v (o.length + 1) (o.map Value.string ++ [.string x])) (hb : Below w.heap.size w wr) : UInv o0 xs w v i wr := by
  obtain ⟨A, c, rfl⟩ := own_shape h
  refine ⟨k + 1, o ++ [x], A, c, hk, hi, by simp, by show o ++ [x] = _; rw [uq_succ o0 xs k hk, ← ho, hx, addU_new hin], by simpa using h, hb⟩
theorem uq_bd {o0 xs o : List ByteArray} {k : Nat} (ho : o = uq o0 (xs.take k)) : o.length ≤ o0.length + xs.length := by
  have h := uq_len (xs.take k) o0
  rw [List.length_take, ← ho] at h
  omega

set_option maxRecDepth 100000 in
set_option maxHeartbeats 3200000 in
theorem specUnite_any (A B : Option Addr) (c d : Nat) (xs ys : List ByteArray) (w : World) (hA : Sl w A (xs.map Value.string)) (hB : Sl w B (ys.map Value.string)) (hn : xs.length ≤ 1048576) (hm : ys.length ≤ 1048576) :
    Calls Try.prog 42 #[.slice A xs.length c, .slice B ys.length d] w (OwnL (uq (uq [] xs) ys) w) := by
  obtain ⟨i0, hi, hz0, hz1, hz2⟩ := info_parts infoStr
  have hle1 : xs.length ≤ 9223372036854775807 := by omega
  have hle2 : ys.length ≤ 9223372036854775807 := by omega
  go_enter Try.func42, Try.ntmps42
  go_wp2_with fail
  go_loopw [5, 6] (fun v i wr => UInv [] xs w v i wr) (fun _ i _ => xs.length - (intOf i).toNat)
  case atStart => exact ⟨0, [], some ⟨w.heap.size, 0, none⟩, 0, Nat.zero_le _, rfl, rfl, rfl, World.ownsRow_made w #[] 0 (Nat.le_refl _) (by unfold maxLen; omega) rfl, (Below.refl _ _).alloc (Nat.le_refl _) _⟩
  case round =>
    obtain ⟨k, o, A', c', hk, rfl, rfl, ho, hown, hb⟩ := hrel
    have hol := uq_bd ho.out
    rw [List.length_nil] at hol
    by_cases hlt : k < xs.length
    · obtain ⟨ad, rfl, hc0⟩ := hA k (.string xs[k]) (by simp [hlt])
      obtain ⟨x, hx⟩ : ∃ x, xs[k] = x := ⟨_, rfl⟩
      rw [hx] at hc0
      have hc : wr.cell? (ad.add k) = some (.string x) := (hb.cell (World.block_lt_of_cell? w _ hc0)).trans hc0
      have hca : ∀ ob, (wr.alloc ob).cell? (ad.add k) = some (.string x) := fun ob => (((Below.refl _ _).alloc (Nat.le_refl _) ob).cell (World.block_lt_of_cell? wr _ hc)).trans hc
      have hsz := hb.size
      have HX := Lib.hid hx
      have HS := Lib.hid (Sl.of_own hown)
      have HW := Lib.hid hown
      clear hc0 hx hown
      go_wp2_with fail
      refine (specIndex_any A' c' o x wr HS.out (by omega)).mono ?_
      rintro e w' ⟨rfl, rfl⟩
      by_cases hin : x ∈ o
      · have hge := idx_pos hin
        go_wp2_with fail
        go_roundw
        case rel => exact uinv_same hlt HX.out ho.out hin (by go_num) HW.out hb
        case measure => simp [intOf]; omega
      · have hge := idx_neg hin
        have hHW : Hid ((wr.alloc (.cells #[.string x] 9)).ownsRow w.heap.size 9 1 (.slice A' o.length c') o.length (o.map Value.string)) := HW.out.alloc _
        go_wp2_with (at_builtin; refine wpList_append_sl _ rfl (.tmp 22) (.tmp 27) 24 rfl w.heap.size 9 i0 _ 16 Try.underlying24 hi hz0 hz1 hz2 rfl _ _ _ rfl hHW.out (some ⟨wr.heap.size, 0, none⟩) 1 1 [.string x] rfl rfl (sl_one _ _ _) (strs_oneCell [x]) (by unfold maxLen; omega) (by omega) (by simp; omega) ?_; intro v' w1 hown1 hg1 _)
        have hb1 : Below w.heap.size w w1 := (hb.alloc hsz _).grown hg1 (by simp; omega) (fun g hg => (hHW.out.lt g hg).1)
        go_roundw
        case rel => exact uinv_more hlt HX.out ho.out hin (by go_num) hown1 hb1
        case measure => simp [intOf]; omega
    · have he : k = xs.length := by omega
      have HO : Hid (o = uq [] xs) := by
        have := ho.out
        rw [he, List.take_length] at this
        exact this
      clear he ho
      go_wp2_with fail
      go_loopw [5, 7] (fun v i wr => UInv (uq [] xs) ys w v i wr) (fun _ i _ => ys.length - (intOf i).toNat)
      case atStart => exact ⟨0, o, A', c', Nat.zero_le _, rfl, rfl, HO.out, hown, hb⟩
      case round =>
        obtain ⟨k, o, A2, c2, hk, rfl, rfl, ho, hown, hb⟩ := hrel
        have hol := uq_bd ho.out
        have hol1 := uq_len xs []
        rw [List.length_nil] at hol1
        by_cases hlt : k < ys.length
        · obtain ⟨ad, rfl, hc0⟩ := hB k (.string ys[k]) (by simp [hlt])
          obtain ⟨x, hx⟩ : ∃ x, ys[k] = x := ⟨_, rfl⟩
          rw [hx] at hc0
          have hc : wr.cell? (ad.add k) = some (.string x) := (hb.cell (World.block_lt_of_cell? w _ hc0)).trans hc0
          have hca : ∀ ob, (wr.alloc ob).cell? (ad.add k) = some (.string x) := fun ob => (((Below.refl _ _).alloc (Nat.le_refl _) ob).cell (World.block_lt_of_cell? wr _ hc)).trans hc
          have hsz := hb.size
          have HX := Lib.hid hx
          have HS := Lib.hid (Sl.of_own hown)
          have HW := Lib.hid hown
          clear hc0 hx hown
          go_wp2_with fail
          refine (specIndex_any A2 c2 o x wr HS.out (by omega)).mono ?_
          rintro e w' ⟨rfl, rfl⟩
          by_cases hin : x ∈ o
          · have hge := idx_pos hin
            go_wp2_with fail
            go_roundw
            case rel => exact uinv_same hlt HX.out ho.out hin (by go_num) HW.out hb
            case measure => simp [intOf]; omega
          · have hge := idx_neg hin
            have hHW : Hid ((wr.alloc (.cells #[.string x] 9)).ownsRow w.heap.size 9 1 (.slice A2 o.length c2) o.length (o.map Value.string)) := HW.out.alloc _
            go_wp2_with (at_builtin; refine wpList_append_sl _ rfl (.tmp 42) (.tmp 47) 24 rfl w.heap.size 9 i0 _ 16 Try.underlying24 hi hz0 hz1 hz2 rfl _ _ _ rfl hHW.out (some ⟨wr.heap.size, 0, none⟩) 1 1 [.string x] rfl rfl (sl_one _ _ _) (strs_oneCell [x]) (by unfold maxLen; omega) (by omega) (by simp; omega) ?_; intro v' w1 hown1 hg1 _)
            have hb1 : Below w.heap.size w w1 := (hb.alloc hsz _).grown hg1 (by simp; omega) (fun g hg => (hHW.out.lt g hg).1)
            go_roundw
            case rel => exact uinv_more hlt HX.out ho.out hin (by go_num) hown1 hb1
            case measure => simp [intOf]; omega
        · have he : k = ys.length := by omega
          have HO2 : Hid (o = uq (uq [] xs) ys) := by
            have := ho.out
            rw [he, List.take_length] at this
            exact this
          have HR : Hid (OwnL (uq (uq [] xs) ys) w (.returned (.slice A2 o.length c2)) wr) := by
            rw [← HO2.out]
            exact ⟨A2, c2, rfl, hown, hb⟩
          clear he ho hown
          go_wp2_with fail
          go_ret
          exact HR.out
end Go.Proofs.Ythcfgpjldhiinaa
