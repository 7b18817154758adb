/-
  The model's SizeOfTerm.
-/
import Derived.Test.YthcfgpjldhiinaaTe
import Derived.Test.YthcfgpjldhiinaaTySize
import Derived.Test.YthcfgpjldhiinaaBox8
namespace Go.Proofs.Ythcfgpjldhiinaa
open Go.RowKit
set_option maxHeartbeats 800000 in
theorem specSizeE_any : ∀ (t : Te) (w : World) (cs : List Value), RTe w t cs → t.size ≤ 1048577 → Calls Try.prog 11 #[.agg cs.toArray] w (Counts t.size w) := by
  refine Tr.ind ?_
  intro a ks ih w cs h hs
  obtain ⟨TL, tc, TA, td, L, c, A, d, rfl, hT, k1, k2, k6, _, hp⟩ := h.out
  rw [size_nodeE] at hs ⊢
  obtain ⟨W1, hW1⟩ : ∃ W1, w.alloc (.cells #[.int .i64 a.kind, .string a.name, .int .i64 a.num, .int .i64 a.type.top.kind, .slice TL a.type.top.labels.length tc, .slice TA a.type.kids.length td, .slice L a.labels.length c, .slice A ks.length d] 38) = W1 := ⟨_, rfl⟩
  have hb0 : Below w.heap.size w W1 := by rw [← hW1]; exact (Below.refl _ _).alloc (Nat.le_refl _) _
  have hbox : W1.cell? ⟨w.heap.size, 7, none⟩ = some (.slice A ks.length d) := by rw [← hW1]; exact cell_of_row _ _ 7 _ _ _ (heap_alloc_new w _)
  have HP := Lib.hid hp
  have HI := Lib.hid ih
  have HB0 := Lib.hid hb0
  have HBOX := Lib.hid hbox
  have HW1 := Lib.hid hW1
  clear hp ih hb0 hbox hW1 k1 k2 h hT
  go_enter Try.func11, Try.ntmps11
  go_wp2_with fail
  rw [HW1.out]
  go_loopw [3, 4] (fun n i wr => ∃ k : Nat, k ≤ ks.length ∧ i = .int .i64 k ∧ n = .int .i64 ((1 + ((ks.take k).map Tr.size).sum : Nat) : Int) ∧ Below W1.heap.size W1 wr) (fun _ i _ => ks.length - (intOf i).toNat)
  case atStart => exact ⟨0, Nat.zero_le _, rfl, rfl, Below.refl _ _⟩
  case round =>
    obtain ⟨k, hk, rfl, rfl, hb⟩ := hrel
    have hbw := HB0.out.trans (hb.mono HB0.out.size)
    have hbx : wr.cell? ⟨w.heap.size, 7, none⟩ = some (.slice A ks.length d) := (hb.cell (World.block_lt_of_cell? W1 _ HBOX.out)).trans HBOX.out
    by_cases hlt : k < ks.length
    · obtain ⟨ad, p, c0, c1, c2, c3, c4, c5, c6, c7, rfl, hpe, hr, q0, q1, q2, q3, q4, q5, q6, q7⟩ := tid_at HP.out hbw hlt
      have hst := sum_take_succ Tr.size ks k hlt
      have hsl := sum_take_le Tr.size ks (k + 1)
      have hc := HI.out ks[k] (List.getElem_mem hlt) wr [c0, c1, c2, c3, c4, c5, c6, c7] hr (by omega)
      obtain ⟨n, hn⟩ : ∃ n, ((ks.take k).map Tr.size).sum = n := ⟨_, rfl⟩
      obtain ⟨m, hm⟩ : ∃ m, ks[k].size = m := ⟨_, rfl⟩
      rw [hn, hm] at hst
      rw [hm] at hc
      rw [hn]
      have hmn : n + m ≤ 1048577 := by omega
      have HC := Lib.hid hc
      have HST := Lib.hid hst
      clear hc hr hst hsl hn hm
      go_wp2_with fail
      refine HC.out.mono ?_
      rintro e w2 ⟨rfl, hb2⟩
      have hb3 := hb.trans (hb2.mono hb.size)
      go_wp2_with fail
      go_roundw
      case rel => exact ⟨k + 1, hlt, by go_num, by rw [HST.out]; go_num, hb3⟩
      case measure => simp [intOf]; omega
    · have he : k = ks.length := by omega
      have HR : Hid (Counts ((1 + (ks.map Tr.size).sum : Nat) : Int) w (.returned (.int .i64 ((1 + ((ks.take k).map Tr.size).sum : Nat) : Int))) wr) := by
        rw [he, List.take_length]
        exact ⟨rfl, hbw⟩
      clear he
      go_wp2_with fail
      go_ret
      exact HR.out
end Go.Proofs.Ythcfgpjldhiinaa
