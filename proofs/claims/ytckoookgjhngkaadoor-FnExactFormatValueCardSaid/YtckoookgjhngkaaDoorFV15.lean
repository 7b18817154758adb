/-
  Merged by program: JoinC.
-/
import Derived.Test.YtckoookgjhngkaaDoorFV14
import Derived.Test.YtckoookgjhngkaaDoorFV12
import Derived.Lib.AppendStr
import Derived.Laws.IdiomStrings
import Derived.Laws.BytesArg

/-
  The model's Join: the elements with the separator between them, built by appends; and the program's.
-/
namespace Go.Proofs.YtckoookgjhngkaaDoor
open Go.RowKit

theorem infoByte : (Tryd.prog.info? 5).map (fun i => (i.zero, i.size, i.bytes)) = some (some (.int .u8 0), 1, 1) := by kernel_rfl

/-- a text out of the bytes that a call has collected -/
theorem run_text_own {w : World} {base : Nat} {v : Value} {l : List UInt8} (h : w.ownsRow base 5 1 v l.length (bcells l)) :
    (convert 50 9 v).run Tryd.prog w = .ok (.string ⟨l.toArray⟩) w := by
  rcases h.2 with ⟨rfl, h2⟩ | ⟨g, cap, cur, rfl, _⟩
  · have : l = [] := List.eq_nil_of_length_eq_zero h2
    subst this
    exact run_convert_bytes_nil (w := w) 50 5 Tryd.underlying50 Tryd.underlying5 0 0 _ Tryd.underlying9
  · refine run_convert_bytes_back (P := Tryd.prog) w 50 9 5 ⟨g, 0, none⟩ cap l Tryd.underlying50 Tryd.underlying5 Tryd.underlying9 (fun j hj => ?_)
    exact h.cells (g := g) rfl j _ (by simp [bcells, hj])

set_option maxHeartbeats 1600000 in
theorem specJoin_any (A : Option Addr) (c : Nat) (xs : List ByteArray) (sp : ByteArray) (w : World) (h : Sl w A (xs.map Value.string)) (hn : xs.length ≤ 1048576)
    (hsp : sp.size ≤ 35184372088832) (hsz : xs.length * sp.size + total xs ≤ 35184372088832) :
    Calls Tryd.prog 22 #[.slice A xs.length c, .string sp] w (Text (jn xs sp) w) := by
  obtain ⟨i0, hi, hz0, hz1, hz2⟩ := info_parts infoByte
  have hle : xs.length ≤ 9223372036854775807 := by omega
  go_enter Tryd.func22, Tryd.ntmps22
  go_wp2
  go_loopw [5, 6] (fun v i wr => ∃ k : Nat, k ≤ xs.length ∧ i = .int .i64 k ∧ wr.ownsRow w.heap.size 5 1 v (jn (xs.take k) sp).length (bcells (jn (xs.take k) sp)) ∧ Below w.heap.size w wr) (fun _ i _ => xs.length - (intOf i).toNat)
  case atStart =>
    refine ⟨0, Nat.zero_le _, rfl, ?_, (Below.refl _ _).alloc (Nat.le_refl _) _⟩
    rw [jn_zero]
    exact World.ownsRow_made w #[] 0 (Nat.le_refl _) (by unfold maxLen; omega) rfl
  case round =>
    obtain ⟨k, hk, rfl, hown, hb⟩ := hrel
    by_cases hlt : k < xs.length
    · obtain ⟨ad, rfl, hc0⟩ := h k (.string xs[k]) (by simp [hlt])
      have hblk := World.block_lt_of_cell? w _ hc0
      have hL := jn_take_len xs sp k
      have hX : xs[k].size ≤ 35184372088832 := by
        have h1 := total_take_succ xs k xs[k] (List.getElem?_eq_getElem hlt)
        have h2 := total_take_le xs (k + 1)
        omega
      have hsize := hb.size
      by_cases hk0 : k = 0
      · subst hk0
        have hj1 := jn_one xs sp xs[0] (List.getElem?_eq_getElem hlt)
        rw [jn_zero] at hown
        have hc : wr.cell? ad = some (.string xs[0]) := by have := (hb.cell hblk).trans hc0; simpa [Addr.add] using this
        have HJ := Lib.hid hj1
        clear hj1 hL hc0
        go_wp2_with (at_builtin; refine Lib.wpList_append_own_string _ rfl (.tmp 19) (.tmp 23) 50 9 rfl w.heap.size 5 i0 Tryd.underlying50 Tryd.underlying9 hi hz0 hz1 hz2 u5 _ _ rfl hown xs[0] rfl (by simp only [List.length_nil, maxLen]; omega) (by simp only [List.length_nil]; omega) hsize ?_; intro v' w1 hown1 hg1 _)
        have hb1 : Below w.heap.size w w1 := hb.grown hg1 hsize (fun g hg => (hown.lt g hg).1)
        have HO : Hid (w1.ownsRow w.heap.size 5 1 v' (jn (xs.take (0 + 1)) sp).length (bcells (jn (xs.take (0 + 1)) sp))) := by
          rw [show (0 + 1) = 1 from rfl, HJ.out, size_data]
          have e : bcells [] = [] := rfl
          simpa [bcells_str, e, Hid] using hown1
        clear hown1 hown
        go_wp2
        go_roundw
        case rel => exact ⟨0 + 1, by omega, by go_num, HO.out, hb1⟩
        case measure => simp [intOf]; omega
      · have hkp : 0 < k := by omega
        have hj1 := jn_more xs sp xs[k] k hkp (List.getElem?_eq_getElem hlt)
        have HJ := Lib.hid hj1
        clear hj1 hk0
        go_wp2_with (first
          | (at_builtin; refine Lib.wpList_append_own_string _ rfl (.tmp 16) (.tmp 17) 50 9 rfl w.heap.size 5 i0 Tryd.underlying50 Tryd.underlying9 hi hz0 hz1 hz2 u5 _ _ rfl hown sp rfl (by simp only [maxLen]; omega) (by omega) hsize ?_; intro v1 w1 hown1 hg1 _; have hb1 : Below w.heap.size w w1 := hb.grown hg1 hsize (fun g hg => (hown.lt g hg).1); have hsize1 := hb1.size; have hc : w1.cell? (ad.add k) = some (.string xs[k]) := (hb1.cell hblk).trans hc0)
          | (at_builtin; refine Lib.wpList_append_own_string _ rfl (.tmp 19) (.tmp 23) 50 9 rfl w.heap.size 5 i0 Tryd.underlying50 Tryd.underlying9 hi hz0 hz1 hz2 v1 _ _ rfl hown1 xs[k] rfl (by simp only [maxLen]; omega) (by omega) hsize1 ?_; intro v2 w2 hown2 hg2 _; have hb2 : Below w.heap.size w w2 := hb1.grown hg2 hsize1 (fun g hg => (hown1.lt g hg).1)))
        have HO : Hid (w2.ownsRow w.heap.size 5 1 v2 (jn (xs.take (k + 1)) sp).length (bcells (jn (xs.take (k + 1)) sp))) := by
          rw [HJ.out]
          simpa [bcells_str, bcells_app, size_data, Nat.add_assoc, Hid] using hown2
        clear hown1 hown2 hown hc0
        go_roundw
        case rel => exact ⟨k + 1, by omega, by go_num, HO.out, hb2⟩
        case measure => simp [intOf]; omega
    · have he : k = xs.length := by omega
      subst he
      rw [List.take_length] at hown
      have hcv := run_text_own hown
      have HO := Lib.hid hown
      clear hown
      go_wp2
      go_ret
      exact ⟨rfl, hb⟩
end Go.Proofs.YtckoookgjhngkaaDoor
