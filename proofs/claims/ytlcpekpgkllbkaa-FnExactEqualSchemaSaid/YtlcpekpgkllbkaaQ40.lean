/-
  Merged by program: SEq, EqNode.
-/
import Derived.Test.YtlcpekpgkllbkaaQ27
import Derived.Deep.RegionHeld3

/-
  The library's slices.Equal at lists of strings.
-/
namespace Go.Proofs.Ytlcpekpgkllbkaa
open Go.RowKit

set_option maxHeartbeats 800000 in
set_option maxRecDepth 100000 in
theorem sEq_any (A B : Option Addr) (c d : Nat) (xs ys : List ByteArray) (w : World) (hA : Sl w A (xs.map Value.string)) (hB : Sl w B (ys.map Value.string)) (hn : xs.length ≤ 9223372036854775807) :
    Calls Try.prog 133 #[.slice A xs.length c, .slice B ys.length d] w (Tells (same xs ys) w) := by
  by_cases hl : xs.length = ys.length
  · have HL := Lib.hid hl
    rw [← hl]
    clear hl
    go_enter Try.func133, Try.ntmps133
    go_wp2_with fail
    go_loopw [13] (fun i wr => ∃ k : Nat, k ≤ xs.length ∧ i = .int .i64 k ∧ EqTo xs ys k ∧ ∃ n, wr = w.drewN n) (fun i _ => xs.length - (intOf i).toNat)
    case atStart => exact ⟨0, Nat.zero_le _, rfl, eqTo_zero _ _, 0, rfl⟩
    case round =>
      obtain ⟨k, hk, rfl, hno, n, rfl⟩ := hrel
      by_cases hlt : k < xs.length
      · have hlt2 : k < ys.length := by have := HL.out; omega
        obtain ⟨ad, rfl, hc⟩ := hA k (.string xs[k]) (by simp [hlt])
        obtain ⟨bd, rfl, hd⟩ := hB k (.string ys[k]) (by simp [hlt2])
        by_cases hx : xs[k] = ys[k]
        · have HN := Lib.hid (eqTo_succ hno hlt hlt2 hx)
          rw [← hx] at hd
          clear hx hno
          go_wp2
          go_quiet (fail)
          go_wp2
          go_roundw
          case rel => exact ⟨k + 1, by omega, by go_num, HN.out, _, rfl⟩
          case measure => simp [intOf]; omega
        · have HR := Lib.hid (same_no (ne_at hlt hlt2 hx))
          have hb := (Lib.bytes_beq_false_iff xs[k] ys[k]).2 hx
          clear hx hno
          go_wp2
          go_quiet (fail)
          go_wp2
          go_ret
          exact ⟨ret_bool HR.out.symm, _, World.drewN_drewN _ _ _⟩
      · have he : k = xs.length := by omega
        have HR := Lib.hid (same_yes (eqTo_all (he ▸ hno) HL.out))
        clear he hno
        go_wp2_with fail
        go_ret
        exact ⟨ret_bool HR.out.symm, n, rfl⟩
  · have HR := Lib.hid (same_no (x := xs) (y := ys) (fun e => hl (by rw [e])))
    go_enter Try.func133, Try.ntmps133
    go_wp2_with fail
    go_ret
    exact ⟨ret_bool HR.out.symm, 0, rfl⟩
end Go.Proofs.Ytlcpekpgkllbkaa

/-
  The program's isEqualNode.
-/
namespace Go.Proofs.Ytlcpekpgkllbkaa
open Go.RowKit

/-- are two nodes alike: their kinds, labels, and how many parts they have? -/
noncomputable def nodeB (t s : Ty) : Bool := decide (t.top.kind = s.top.kind) && (same t.top.labels s.top.labels && decide (t.kids.length = s.kids.length))

set_option maxHeartbeats 1600000 in
set_option maxRecDepth 100000 in
theorem node_any (t s : Ty) (w : World) (cs ds : List Value) (h : RTy w t cs) (h' : RTy w s ds) : Calls Try.prog 117 #[.agg cs.toArray, .agg ds.toArray] w (Truth (nodeB t s) w) := by
  obtain ⟨a, ks⟩ := t
  obtain ⟨b, js⟩ := s
  obtain ⟨L, c, A, d, rfl, k1, _, _, k4, _, k6, _⟩ := h.out
  obtain ⟨M, c', B, d', rfl, j1, _, _, j4, _, j6, _⟩ := h'.out
  obtain ⟨W1, hW1⟩ : ∃ W1, (w.alloc (.cells #[.int .i64 a.kind, .slice L a.labels.length c, .slice A ks.length d] 36)).alloc (.cells #[.int .i64 b.kind, .slice M b.labels.length c', .slice B js.length d'] 36) = W1 := ⟨_, rfl⟩
  obtain ⟨H, hH⟩ : ∃ H, w.heap.size = H := ⟨_, rfl⟩
  have b0 : Box3 W1 H 36 (.int .i64 a.kind) (.slice L a.labels.length c) (.slice A ks.length d) := by rw [← hW1, ← hH]; exact (Box3.new w _ _ _ _).alloc _
  have b1 : Box3 W1 (H + 1) 36 (.int .i64 b.kind) (.slice M b.labels.length c') (.slice B js.length d') := by
    rw [← hW1, ← hH]
    have := Box3.new (w.alloc (.cells #[.int .i64 a.kind, .slice L a.labels.length c, .slice A ks.length d] 36)) 36 (.int .i64 b.kind) (.slice M b.labels.length c') (.slice B js.length d')
    simpa using this
  have hb1 : Below w.heap.size w W1 := by rw [← hW1]; exact ((Below.refl _ _).alloc (Nat.le_refl _) _).alloc (by simp) _
  have HC := Lib.hid (sEq_any L M c c' a.labels b.labels W1 (k1.below hb1) (j1.below hb1) k4)
  have hnode : nodeB (.node a ks) (.node b js) = (decide (a.kind = b.kind) && (same a.labels b.labels && decide (ks.length = js.length))) := rfl
  generalize hnb : nodeB (.node a ks) (.node b js) = r at hnode ⊢
  generalize a.labels.length = n1 at HC hW1 b0 k4 ⊢
  generalize b.labels.length = n2 at HC hW1 b1 j4 ⊢
  generalize same a.labels b.labels = sl at HC hnode
  generalize ks.length = m1 at hW1 b0 hnode k6 ⊢
  generalize js.length = m2 at hW1 b1 hnode j6 ⊢
  generalize a.kind = q1 at hW1 b0 hnode ⊢
  generalize b.kind = q2 at hW1 b1 hnode ⊢
  have HW1 := Lib.hid hW1
  have HB1 := Lib.hid hb1
  have B0 := Lib.hid b0
  have B1 := Lib.hid b1
  have HN := Lib.hid hnode
  have x0 : W1.cell? ⟨H, 0, none⟩ = some (.int .i64 q1) := b0.c0
  have x1 : W1.cell? ⟨H, 1, none⟩ = some (.slice L n1 c) := b0.c1
  have x2 : W1.cell? ⟨H, 2, none⟩ = some (.slice A m1 d) := b0.c2
  have y0 : W1.cell? ⟨H + 1, 0, none⟩ = some (.int .i64 q2) := b1.c0
  have y1 : W1.cell? ⟨H + 1, 1, none⟩ = some (.slice M n2 c') := b1.c1
  have y2 : W1.cell? ⟨H + 1, 2, none⟩ = some (.slice B m2 d') := b1.c2
  clear h h' k1 j1 hW1 hb1 b0 b1 hnode hnb
  by_cases hk : q1 = q2
  · have ek : (q1 == q2) = true := beq_iff_eq.2 hk
    have HN2 : Hid (r = (sl && decide (m1 = m2))) := Lib.hid (by rw [HN.out, decide_eq_true hk, Bool.true_and])
    clear hk HN
    cases sl with
    | false =>
      have HF : Hid (∀ i, Truth r w (.returned (.bool false)) (World.drewN W1 i)) := fun i => ⟨by rw [HN2.out]; rfl, below_drewN HB1.out i⟩
      clear HN2
      go_enter Try.func117, Try.ntmps117
      go_wp2_with fail
      rw [HW1.out]
      refine HC.out.mono ?_
      rintro e w2 ⟨rfl, i, rfl⟩
      have u2 : (World.drewN W1 i).cell? ⟨H, 2, none⟩ = some (.slice A m1 d) := B0.out.c2
      have v2 : (World.drewN W1 i).cell? ⟨H + 1, 2, none⟩ = some (.slice B m2 d') := B1.out.c2
      go_wp2_with fail
      go_ret
      exact HF.out _
    | true =>
      have HE : Hid (r = ((m1 : Int) == (m2 : Int))) := Lib.hid (by
        rw [HN2.out, Bool.true_and]
        by_cases h : m1 = m2
        · subst h; simp
        · have h' : (m1 : Int) ≠ (m2 : Int) := by omega
          rw [decide_eq_false h, beq_eq_false_iff_ne.2 h'])
      have HF : Hid (∀ i, Truth r w (.returned (.bool ((m1 : Int) == (m2 : Int)))) (World.drewN W1 i)) := fun i => ⟨by rw [HE.out], below_drewN HB1.out i⟩
      clear HN2 HE
      go_enter Try.func117, Try.ntmps117
      go_wp2_with fail
      rw [HW1.out]
      refine HC.out.mono ?_
      rintro e w2 ⟨rfl, i, rfl⟩
      have u2 : (World.drewN W1 i).cell? ⟨H, 2, none⟩ = some (.slice A m1 d) := B0.out.c2
      have v2 : (World.drewN W1 i).cell? ⟨H + 1, 2, none⟩ = some (.slice B m2 d') := B1.out.c2
      go_wp2_with fail
      go_ret
      exact HF.out _
  · have ek : (q1 == q2) = false := beq_eq_false_iff_ne.2 hk
    have HF : Hid (Truth r w (.returned (.bool false)) W1) := Lib.hid ⟨by rw [HN.out, decide_eq_false hk]; rfl, HB1.out⟩
    clear hk HN HC
    go_enter Try.func117, Try.ntmps117
    go_wp2_with fail
    rw [HW1.out]
    go_wp2_with fail
    go_ret
    exact HF.out
end Go.Proofs.Ytlcpekpgkllbkaa
