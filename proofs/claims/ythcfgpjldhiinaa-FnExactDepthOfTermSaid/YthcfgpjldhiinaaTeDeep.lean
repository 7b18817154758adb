/-
  The model's DepthOfTerm.
-/
import Derived.Test.YthcfgpjldhiinaaTe
import Derived.Test.YthcfgpjldhiinaaTyNum
namespace Go.Proofs.Ythcfgpjldhiinaa
open Go.RowKit

theorem size_nodeG {α : Type} (a : α) (ks : List (Tr α)) : (Tr.node a ks).size = 1 + (ks.map Tr.size).sum := Tr.sum_node _ a ks
theorem kid_size_ltG {α : Type} {a : α} {ks : List (Tr α)} {t : Tr α} (h : t ∈ ks) : t.size < (Tr.node a ks).size := by
  rw [size_nodeG]
  have := kid_sum_le Tr.size h
  omega
theorem deep_le_sizeG {α : Type} : ∀ t : Tr α, t.deep ≤ t.size := by
  refine Tr.ind ?_
  intro a ks ih
  rw [deep_node, size_nodeG]
  have := foldl_max_le (m := (ks.map Tr.size).sum) (ks.map Tr.deep) 0 (Nat.zero_le _) (by
    intro x hx
    obtain ⟨t, ht, rfl⟩ := List.mem_map.1 hx
    exact Nat.le_trans (ih t ht) (kid_sum_le Tr.size ht))
  omega

set_option maxHeartbeats 800000 in
theorem specDepthE_any : ∀ (t : Te) (w : World) (cs : List Value), RTe w t cs → t.size ≤ 1048577 → Calls Try.prog 15 #[.agg cs.toArray] w (Counts t.deep w) := by
  refine Tr.ind ?_
  intro a ks ih w cs h hs
  obtain ⟨TL, tc, TA, td, L, c, A, d, rfl, hT, k1, k2, k6, _, hp⟩ := h.out
  have hle := deep_le_sizeG (.node a ks)
  have hkd : ∀ k, k ≤ ks.length → deepTo ks k < 1048577 := by
    intro k hk
    have := foldl_max_le (m := (ks.map Tr.size).sum) ((ks.take k).map Tr.deep) 0 (Nat.zero_le _) (by
      intro x hx
      obtain ⟨t, ht, rfl⟩ := List.mem_map.1 hx
      exact Nat.le_trans (deep_le_sizeG t) (kid_sum_le Tr.size (List.mem_of_mem_take ht)))
    rw [size_nodeE] at hs
    unfold deepTo
    omega
  have hall := deepTo_all a ks
  obtain ⟨W1, hW1⟩ : ∃ W1, w.alloc (.cells #[.int .i64 a.kind, .string a.name, .int .i64 a.num, .int .i64 a.type.top.kind, .slice TL a.type.top.labels.length tc, .slice TA a.type.kids.length td, .slice L a.labels.length c, .slice A ks.length d] 38) = W1 := ⟨_, rfl⟩
  have hb0 : Below w.heap.size w W1 := by rw [← hW1]; exact (Below.refl _ _).alloc (Nat.le_refl _) _
  have hbox : W1.cell? ⟨w.heap.size, 7, none⟩ = some (.slice A ks.length d) := by rw [← hW1]; exact cell_of_row _ _ 7 _ _ _ (heap_alloc_new w _)
  have HP := Lib.hid hp
  have HI := Lib.hid ih
  have HB0 := Lib.hid hb0
  have HBOX := Lib.hid hbox
  have HW1 := Lib.hid hW1
  have HS := Lib.hid hs
  have HKD := Lib.hid hkd
  have HALL := Lib.hid hall
  clear hp ih hb0 hbox hW1 k1 k2 h hkd hall hle hs hT
  go_enter Try.func15, Try.ntmps15
  go_wp2_with fail
  rw [HW1.out]
  go_loopw [3, 4] (fun n i wr => ∃ k : Nat, k ≤ ks.length ∧ i = .int .i64 k ∧ n = .int .i64 ((deepTo ks k : Nat) : Int) ∧ Below W1.heap.size W1 wr) (fun _ i _ => ks.length - (intOf i).toNat)
  case atStart => exact ⟨0, Nat.zero_le _, rfl, rfl, Below.refl _ _⟩
  case round =>
    obtain ⟨k, hk, rfl, rfl, hb⟩ := hrel
    have hbw := HB0.out.trans (hb.mono HB0.out.size)
    have hbx : wr.cell? ⟨w.heap.size, 7, none⟩ = some (.slice A ks.length d) := (hb.cell (World.block_lt_of_cell? W1 _ HBOX.out)).trans HBOX.out
    by_cases hlt : k < ks.length
    · obtain ⟨ad, p, c0, c1, c2, c3, c4, c5, c6, c7, rfl, hpe, hr, q0, q1, q2, q3, q4, q5, q6, q7⟩ := tid_at HP.out hbw hlt
      have hst := deepTo_succ ks k hlt
      have hd1 := HKD.out k hk
      have hd2 := HKD.out (k + 1) hlt
      have hc := HI.out ks[k] (List.getElem_mem hlt) wr [c0, c1, c2, c3, c4, c5, c6, c7] hr (by have := kid_size_ltG (a := a) (List.getElem_mem hlt); have := HS.out; omega)
      obtain ⟨n, hn⟩ : ∃ n, deepTo ks k = n := ⟨_, rfl⟩
      obtain ⟨m, hm⟩ : ∃ m, ks[k].deep = m := ⟨_, rfl⟩
      rw [hst] at hd2
      rw [hn, hm] at hst hd2
      rw [hn] at hd1
      rw [hm] at hc
      rw [hn]
      have hmx := fun W => l1Max_any (w := W) (a := n) (b := m)
      have HC := Lib.hid hc
      have HST := Lib.hid hst
      have HMX := Lib.hid hmx
      have hmm : m < 1048577 := by omega
      clear hc hr hst hn hm hd2 hmx
      go_wp2_with fail
      refine HC.out.mono ?_
      rintro e w2 ⟨rfl, hb2⟩
      have hb3 := hb.trans (hb2.mono hb.size)
      go_wp2_with fail
      refine (HMX.out w2).mono ?_
      rintro e w3 ⟨rfl, hb4⟩
      have hb5 := hb3.trans (hb4.mono hb3.size)
      go_wp2_with fail
      go_roundw
      case rel => exact ⟨k + 1, hlt, by go_num, by rw [HST.out], hb5⟩
      case measure => simp [intOf]; omega
    · have he : k = ks.length := by omega
      have hd1 := HKD.out k hk
      have HR : Hid (Counts (((Tr.node a ks).deep : Nat) : Int) w (.returned (.int .i64 (((deepTo ks k : Nat) : Int) + 1))) wr) := by
        rw [HALL.out, he]
        exact ⟨by rw [Int.natCast_add]; rfl, hbw⟩
      obtain ⟨n, hn⟩ : ∃ n, deepTo ks k = n := ⟨_, rfl⟩
      rw [hn] at HR hd1 ⊢
      clear he hn
      go_wp2_with fail
      go_ret
      exact HR.out

end Go.Proofs.Ythcfgpjldhiinaa
