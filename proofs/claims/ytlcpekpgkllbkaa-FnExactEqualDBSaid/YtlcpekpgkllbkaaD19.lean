/-
  Merged by program: Kd4, TyEq.
-/
import Derived.Test.YtlcpekpgkllbkaaD9
import Derived.Test.YtlcpekpgkllbkaaD12
import Derived.Test.YtlcpekpgkllbkaaD1
import Derived.Test.YtlcpekpgkllbkaaD7
import Derived.Test.YtlcpekpgkllbkaaD5
import Derived.StillTailTactics

/-
  Lists of structs of 4 cells: the k-th one, and its store. Hangs on no program. Written by genat.py.
-/
namespace Go.Proofs.Ytlcpekpgkllbkaa
open Go.RowKit

theorem rl_at4 {α : Type} {a : Kd α} (hn : a.n = 4) {w wr : World} {A : Option Addr} {xs : List α} (hp : RL a w A xs) (hb : Below w.heap.size w wr) {k : Nat} (hk : k < xs.length) : ∃ (ad p : Addr) (c0 c1 c2 c3 : Value), A = some ad ∧ ad.add (k * 4) = p ∧ a.R wr xs[k] [c0, c1, c2, c3] ∧ wr.cell? p = some c0 ∧ wr.cell? ⟨p.block, p.off + 1, none⟩ = some c1 ∧ wr.cell? ⟨p.block, p.off + 2, none⟩ = some c2 ∧ wr.cell? ⟨p.block, p.off + 3, none⟩ = some c3 := by
  obtain ⟨ps, hp⟩ := hp
  obtain ⟨hr, ad, hA, hc⟩ := hp k xs[k] (List.getElem?_eq_getElem hk)
  have hl : (ps k).length = 4 := by rw [a.len hr, hn]
  rw [hn] at hc
  have hcell : ∀ i u, (ps k)[i]? = some u → wr.cell? (ad.add (k * 4 + i)) = some u := fun i u hi => (hb.cell (World.block_lt_of_cell? w _ (hc i u hi))).trans (hc i u hi)
  obtain ⟨c0, c1, c2, c3, he⟩ : ∃ c0 c1 c2 c3, ps k = [c0, c1, c2, c3] := by
    match ps k, hl with
    | [x0, x1, x2, x3], _ => exact ⟨x0, x1, x2, x3, rfl⟩
  rw [he] at hcell hr
  refine ⟨ad, _, c0, c1, c2, c3, hA, rfl, a.keep hr hb, hcell 0 _ rfl, ?_, ?_, ?_⟩
  · rw [← addr_next ad (k * 4) 1 (by omega)]; exact hcell 1 _ rfl
  · rw [← addr_next ad (k * 4) 2 (by omega)]; exact hcell 2 _ rfl
  · rw [← addr_next ad (k * 4) 3 (by omega)]; exact hcell 3 _ rfl
/-- the cells of the place k are stored -/
theorem tolinv_store4 {α : Type} {a : Kd α} (hn : a.n = 4) {e : TypeId} {xs : List α} {w wr w2 : World} {k : Nat} {cells : List Value} {fs : Nat → List Nat} {fp : List Nat} {r0 r1 r2 r3 : Value} {i : Value} (hk : k < xs.length) (hi : i = .int .i64 ((k + 1 : Nat) : Int))
    (hown : wr.ownsRow w.heap.size e a.n (.slice (some ⟨w.heap.size, 0, none⟩) xs.length xs.length) xs.length cells) (hkid : ∀ (j : Nat) (x : α), j < k → xs[j]? = some x → a.O wr x (partK a.n cells j) (fs j)) (hnd : ((List.range k).flatMap fs).Nodup)
    (hbd : ∀ j, j < k → ∀ b ∈ fs j, w.heap.size < b ∧ b < wr.heap.size) (hb : Below w.heap.size w wr) (hb2 : Below wr.heap.size wr w2) (hot : a.O w2 xs[k] [r0, r1, r2, r3] fp) (hfp : ∀ b ∈ fp, wr.heap.size ≤ b ∧ b < w2.heap.size) :
    ToLInv a e xs w i (store4 w2 w.heap.size k r0 r1 r2 r3) := by
  have hxl : cells.length = xs.length * 4 := by rw [← hn]; exact hown.1
  have ho2 : w2.ownsRow w.heap.size e a.n (.slice (some ⟨w.heap.size, 0, none⟩) xs.length xs.length) xs.length cells :=
    hown.kept (row := none) ⟨hb2.os, hb2.tape, hb2.output, hb2.size, fun i hi _ => hb2.block i hi⟩ (.inr (by simp [Value.ownBlock]))
  rw [hn] at ho2
  obtain ⟨h3, hg3⟩ := own_store4 ho2 k r0 r1 r2 r3
  rw [← hn] at h3
  refine tolinv_more hk hi hown hkid hnd hbd hb hb2 hot hfp h3 hg3 ?_ fun j hj => ?_
  · rw [hn]; exact put4_at cells k r0 r1 r2 r3 (by omega)
  · rw [hn]; exact put4_other cells k j r0 r1 r2 r3 hj
end Go.Proofs.Ytlcpekpgkllbkaa

/-
  The comparison of a type with itself, wherever the two lie: 'eqType', 'eqTypeS'.
-/
namespace Go.Proofs.Ytlcpekpgkllbkaa
open Go.RowKit

def EqK (t : Ty) : Prop := ∀ (w : World) (cs ds : List Value), RTy w t cs → RTy w t ds → Calls Try.prog 16 #[.agg cs.toArray, .agg ds.toArray] w (LawYes w)

set_option maxHeartbeats 800000 in
set_option maxRecDepth 100000 in
theorem eqTypeS_of (ks : List Ty) (ih : ∀ t ∈ ks, EqK t) (w : World) (A B : Option Addr) (c d : Nat) (hA : RKids w A ks) (hB : RKids w B ks) (hl : ks.length ≤ 9223372036854775807) :
    Calls Try.prog 51 #[.slice A ks.length c, .slice B ks.length d] w (LawYes w) := by
  have HA := Lib.hid hA
  have HB := Lib.hid hB
  have HI := Lib.hid ih
  clear hA hB ih
  go_enter Try.func51, Try.ntmps51
  go_wp2_with fail
  go_loopw [5] (fun i wr => ∃ k : Nat, k ≤ ks.length ∧ i = .int .i64 k ∧ Below w.heap.size w wr) (fun i _ => ks.length - (intOf i).toNat)
  case atStart => exact ⟨0, Nat.zero_le _, rfl, Below.refl _ _⟩
  case round =>
    obtain ⟨k, hk, rfl, hb⟩ := hrel
    by_cases hlt : k < ks.length
    · obtain ⟨ad, p, c0, c1, c2, rfl, hpe, hr, q0, q1, q2⟩ := kid_at HA.out hb hlt
      obtain ⟨bd, p', d0, d1, d2, rfl, hpe', hr', q0', q1', q2'⟩ := kid_at HB.out hb hlt
      have HR := Lib.hid hr
      have HR' := Lib.hid hr'
      have HBW := Lib.hid hb
      clear hr hr' hb
      go_wp2_with fail
      go_still_tail 8, (by kernel_rfl)
      change wpList _ _ _ _ _ wr.drew
      have hd : Below wr.heap.size wr wr.drew := (Below.refl _ _).drew
      have HC := Lib.hid (HI.out ks[k] (List.getElem_mem hlt) wr.drew [c0, c1, c2] [d0, d1, d2] (HR.out.keep hd) (HR'.out.keep hd))
      have HB2 := Lib.hid (HBW.out.trans (hd.mono HBW.out.size))
      clear hd
      go_wp2_with fail
      refine HC.out.mono ?_
      rintro e w2 ⟨rfl, hb2⟩
      have HB3 := Lib.hid (HB2.out.trans (hb2.mono HB2.out.size))
      clear hb2
      go_wp2_with fail
      go_roundw
      case rel => exact ⟨k + 1, hlt, by go_num, HB3.out⟩
      case measure => simp [intOf]; omega
    · go_wp2_with fail
      go_ret
      exact ⟨rfl, hb⟩

set_option maxHeartbeats 800000 in
set_option maxRecDepth 100000 in
theorem eqType_same : ∀ t : Ty, EqK t := by
  refine Tr.ind ?_
  intro a ks ih w cs ds h h'
  obtain ⟨L, c, A, d, rfl, k1, k2, k3, k4, k5, k6, hp⟩ := h.out
  obtain ⟨L', c', A', d', rfl, k1', _, _, _, _, _, hp'⟩ := h'.out
  obtain ⟨W1, hW1⟩ : ∃ W1, (w.alloc (.cells #[.int .i64 a.kind, .slice L a.labels.length c, .slice A ks.length d] 36)).alloc (.cells #[.int .i64 a.kind, .slice L' a.labels.length c', .slice A' ks.length d'] 36) = W1 := ⟨_, rfl⟩
  obtain ⟨H, hH⟩ : ∃ H, w.heap.size = H := ⟨_, rfl⟩
  have b0 : Box3 W1 H 36 (.int .i64 a.kind) (.slice L a.labels.length c) (.slice A ks.length d) := by rw [← hW1, ← hH]; exact (Box3.new w _ _ _ _).alloc _
  have b1 : Box3 W1 (H + 1) 36 (.int .i64 a.kind) (.slice L' a.labels.length c') (.slice A' ks.length d') := by
    rw [← hW1, ← hH]
    have := Box3.new (w.alloc (.cells #[.int .i64 a.kind, .slice L a.labels.length c, .slice A ks.length d] 36)) 36 (.int .i64 a.kind) (.slice L' a.labels.length c') (.slice A' ks.length d')
    simpa using this
  have hb1 : Below w.heap.size w W1 := by rw [← hW1]; exact ((Below.refl _ _).alloc (Nat.le_refl _) _).alloc (by simp) _
  have HW1 := Lib.hid hW1
  have HP := Lib.hid (hp.keep hb1)
  have HP' := Lib.hid (hp'.keep hb1)
  have HL := Lib.hid (k1.below hb1)
  have HL' := Lib.hid (k1'.below hb1)
  have HB1 := Lib.hid hb1
  have HI := Lib.hid ih
  have x0 := b0.c0
  have x1 := b0.c1
  have x2 := b0.c2
  have y0 := b1.c0
  have y1 := b1.c1
  have y2 := b1.c2
  have B0 := Lib.hid b0
  have B1 := Lib.hid b1
  clear hp hp' ih k1 k1' k5 h h' hW1 b0 b1 hb1
  go_enter Try.func16, Try.ntmps16
  go_wp2_with fail
  rw [HW1.out]
  refine (eqL_any _ _ _ _ a.labels W1 HL.out HL'.out k4).mono ?_
  rintro e w2 ⟨rfl, hb2⟩
  have hz : H + 1 < W1.heap.size := B1.out.lt
  have z2 := (B0.out.under hb2 (by omega)).c2
  have v2 := (B1.out.under hb2 (by omega)).c2
  have HP2 := Lib.hid (HP.out.keep hb2)
  have HP2' := Lib.hid (HP'.out.keep hb2)
  have HB2 := Lib.hid (HB1.out.trans (hb2.mono HB1.out.size))
  clear hb2 x0 x1 x2 y0 y1 y2
  go_wp2_with fail
  refine (eqTypeS_of ks HI.out w2 A A' d d' HP2.out HP2'.out k6).mono ?_
  rintro e w3 ⟨rfl, hb3⟩
  have HB3 := Lib.hid (HB2.out.trans (hb3.mono HB2.out.size))
  clear hb3 z2 v2
  go_wp2_with fail
  go_ret
  exact ⟨rfl, HB3.out⟩
end Go.Proofs.Ytlcpekpgkllbkaa
