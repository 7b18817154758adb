/-
  Merged by program: NodD.
-/
import Derived.Test.YtlcpekpgkllbkaaD38

/-
  slices.Compare of labels, and compareNodes.
-/
namespace Go.Proofs.Ytlcpekpgkllbkaa
open Go.RowKit

theorem lexC_step {xs ys : List ByteArray} {k : Nat} (h1 : k < xs.length) (h2 : k < ys.length) : lexC strC (xs.drop k) (ys.drop k) = orC (strC xs[k] ys[k]) (lexC strC (xs.drop (k + 1)) (ys.drop (k + 1))) := by
  rw [List.drop_eq_getElem_cons h1, List.drop_eq_getElem_cons h2, lexC]
set_option maxHeartbeats 800000 in
theorem cmpLab_any (A B : Option Addr) (c d : Nat) (xs ys : List ByteArray) (w : World) (h : Sl w A (xs.map Value.string)) (h' : Sl w B (ys.map Value.string)) (hn : xs.length ≤ 9223372036854775807) :
    Calls Try.prog 142 #[.slice A xs.length c, .slice B ys.length d] w (Num (lexC strC xs ys) w) := by
  have HX := Lib.hid h
  have HY := Lib.hid h'
  clear h h'
  obtain ⟨N, hN⟩ : ∃ N, lexC strC xs ys = N := ⟨_, rfl⟩
  rw [hN]
  go_enter Try.func142, Try.ntmps142
  go_wp2_with fail
  go_loopw [11] (fun i wr => ∃ k : Nat, i = .int .i64 (k : Int) ∧ k ≤ xs.length ∧ k ≤ ys.length ∧ lexC strC (xs.drop k) (ys.drop k) = N ∧ wr = w) (fun i _ => xs.length - (intOf i).toNat)
  case atStart => exact ⟨0, rfl, Nat.zero_le _, Nat.zero_le _, hN, rfl⟩
  case round =>
    obtain ⟨k, rfl, hk, hk', hz, rfl⟩ := hrel
    have HZ := Lib.hid hz
    clear hz hN
    by_cases hlt : k < xs.length
    · obtain ⟨ad, rfl, hc⟩ := HX.out k (.string (xs[k]'hlt)) (by simp [hlt])
      by_cases hlt' : k < ys.length
      · obtain ⟨bd, rfl, hc'⟩ := HY.out k (.string (ys[k]'hlt')) (by simp [hlt'])
        have hs := lexC_step hlt hlt'
        have HC := Lib.hid (cmpStr_any xs[k] ys[k] wr)
        obtain ⟨q, hq⟩ : ∃ q, strC xs[k] ys[k] = q := ⟨_, rfl⟩
        rw [HZ.out, hq] at hs
        rw [hq] at HC
        have hsg : Sgn q := by rw [← hq]; exact strC_sgn _ _
        have hq1 : -1 ≤ q ∧ q ≤ 1 := by unfold Sgn at hsg; omega
        clear hq hsg
        by_cases h0 : q = 0
        · have HS : Hid (lexC strC (xs.drop (k + 1)) (ys.drop (k + 1)) = N) := by
            show _ = _
            rw [hs, h0]; rfl
          subst h0
          clear hs
          go_wp2_with fail
          refine HC.out.mono ?_
          rintro e w' ⟨rfl, rfl⟩
          go_wp2_with fail
          go_roundw
          case rel => exact ⟨k + 1, by go_num, hlt, hlt', HS.out, trivial⟩
          case measure => simp [intOf]; omega
        · have HR : Hid (Num N wr (.returned (.int .i64 q)) wr) := ⟨by rw [hs]; unfold orC; rw [if_neg h0], rfl⟩
          clear hs
          go_wp2_with fail
          refine HC.out.mono ?_
          rintro e w' ⟨rfl, rfl⟩
          go_wp2_with fail
          go_ret
          exact HR.out
      · have hN : N = 1 := by
          have e : ys.drop k = [] := List.drop_eq_nil_of_le (by omega)
          rw [← HZ.out, e, List.drop_eq_getElem_cons hlt]
          rfl
        subst hN
        go_wp2_with fail
        go_ret
        exact ⟨rfl, rfl⟩
    · by_cases hlt' : xs.length < ys.length
      · have hN : N = -1 := by
          rw [← HZ.out, List.drop_eq_nil_of_le (by omega), List.drop_eq_getElem_cons (by omega : k < ys.length)]
          rfl
        subst hN
        go_wp2_with fail
        go_ret
        exact ⟨rfl, rfl⟩
      · have hN : N = 0 := by
          rw [← HZ.out, List.drop_eq_nil_of_le (by omega), List.drop_eq_nil_of_le (by omega)]
          rfl
        subst hN
        go_wp2_with fail
        go_ret
        exact ⟨rfl, rfl⟩

theorem sl_lit4 (w : World) (a b c d : Int) (t : TypeId) : Sl (w.alloc (.cells #[.int .i64 a, .int .i64 b, .int .i64 c, .int .i64 d] t)) (some ⟨w.heap.size, 0, none⟩) ([a, b, c, d].map (Value.int .i64)) := by
  intro j u hj
  have hx := Box4.new w t (.int .i64 a) (.int .i64 b) (.int .i64 c) (.int .i64 d)
  match j, hj with
  | 0, hj => simp at hj; subst hj; exact ⟨_, rfl, hx.c0⟩
  | 1, hj => simp at hj; subst hj; exact ⟨_, rfl, hx.c1⟩
  | 2, hj => simp at hj; subst hj; exact ⟨_, rfl, hx.c2⟩
  | 3, hj => simp at hj; subst hj; exact ⟨_, rfl, hx.c3⟩
  | j + 4, hj => simp at hj
/-- an answer that is a number; new blocks and draws at most -/
def NumL (n : Int) (w : World) (e : Ending) (w' : World) : Prop := e = .returned (.int .i64 n) ∧ Lays w w'
set_option maxRecDepth 100000 in
set_option maxHeartbeats 2000000 in
theorem cmpNode_any (a b : Va) (w : World) (cs ds : List Value) (h : RVa w a cs) (h' : RVa w b ds) : Calls Try.prog 135 #[.agg cs.toArray, .agg ds.toArray] w (NumL (nodeC a.top a.kids.length b.top b.kids.length) w) := by
  obtain ⟨L, c, A, d, rfl, k1, k2, k3, _⟩ := h.open
  obtain ⟨L', c', A', d', rfl, k1', k2', k3', _⟩ := h'.open
  obtain ⟨W1, hW1⟩ : ∃ W1, (w.alloc (.cells #[.int .i64 a.top.kind, .int .i64 a.top.num, .slice L a.top.labels.length c, .slice A a.kids.length d] 92)).alloc (.cells #[.int .i64 b.top.kind, .int .i64 b.top.num, .slice L' b.top.labels.length c', .slice A' b.kids.length d'] 92) = W1 := ⟨_, rfl⟩
  obtain ⟨H, hH⟩ : ∃ H, w.heap.size = H := ⟨_, rfl⟩
  have b0 : Box4 W1 H 92 (.int .i64 a.top.kind) (.int .i64 a.top.num) (.slice L a.top.labels.length c) (.slice A a.kids.length d) := by rw [← hW1, ← hH]; exact (Box4.new w _ _ _ _ _).alloc _
  have b1 : Box4 W1 (H + 1) 92 (.int .i64 b.top.kind) (.int .i64 b.top.num) (.slice L' b.top.labels.length c') (.slice A' b.kids.length d') := by
    rw [← hW1, ← hH]
    have := Box4.new (w.alloc (.cells #[.int .i64 a.top.kind, .int .i64 a.top.num, .slice L a.top.labels.length c, .slice A a.kids.length d] 92)) 92 (.int .i64 b.top.kind) (.int .i64 b.top.num) (.slice L' b.top.labels.length c') (.slice A' b.kids.length d')
    simpa using this
  have hl1 : Lays w W1 := by rw [← hW1]; exact ((Lays.refl w).alloc _).alloc _
  have HL1 := Lib.hid hl1
  have HW1 := Lib.hid hW1
  have HLab := Lib.hid (cmpLab_any L L' c c' a.top.labels b.top.labels W1.drew ((k1.below hl1.below).drew) ((k1'.below hl1.below).drew) k2.2.2.2.2.1)
  have hN : nodeC a.top a.kids.length b.top b.kids.length = firstC [numC a.top.kind b.top.kind, numC a.top.num b.top.num, numC a.kids.length b.kids.length, lexC strC a.top.labels b.top.labels] := by
    have e : ∀ x, orC x 0 = x := fun x => by unfold orC; split <;> simp_all
    show orC _ (orC _ (orC _ _)) = orC _ (orC _ (orC _ (orC _ 0)))
    rw [e]
    rfl
  rw [hN]
  obtain ⟨m, hm⟩ : ∃ m, a.kids.length = m := ⟨_, rfl⟩
  obtain ⟨n, hn⟩ : ∃ n, b.kids.length = n := ⟨_, rfl⟩
  obtain ⟨p, hp⟩ : ∃ p, a.top.labels.length = p := ⟨_, rfl⟩
  obtain ⟨q, hq⟩ : ∃ q, b.top.labels.length = q := ⟨_, rfl⟩
  obtain ⟨e0, he0⟩ : ∃ x, a.top.kind = x := ⟨_, rfl⟩
  obtain ⟨e1, he1⟩ : ∃ x, a.top.num = x := ⟨_, rfl⟩
  obtain ⟨f0, hf0⟩ : ∃ x, b.top.kind = x := ⟨_, rfl⟩
  obtain ⟨f1, hf1⟩ : ∃ x, b.top.num = x := ⟨_, rfl⟩
  obtain ⟨r, hr⟩ : ∃ x, lexC strC a.top.labels b.top.labels = x := ⟨_, rfl⟩
  rw [hp, hq, hr] at HLab
  rw [he0, he1, hp, hm] at b0 HW1 ⊢
  rw [hf0, hf1, hq, hn] at b1 HW1 ⊢
  rw [hr]
  have hm' : m ≤ 9223372036854775807 := by omega
  have hn' : n ≤ 9223372036854775807 := by omega
  have x0 := b0.c0
  have x1 := b0.c1
  have x2 := b0.c2
  have x3 := b0.c3
  have y0 := b1.c0
  have y1 := b1.c1
  have y2 := b1.c2
  have y3 := b1.c3
  clear hN hm hn hp hq he0 he1 hf0 hf1 hr h h' k1 k1' k2 k2' k3 k3' hW1 hl1 b0 b1
  have HOR := Lib.hid (cmpOr_any (some ⟨W1.heap.size, 0, none⟩) 4 [numC e0 f0, numC e1 f1, numC m n, r] (W1.drew.alloc (.cells #[.int .i64 (numC e0 f0), .int .i64 (numC e1 f1), .int .i64 (numC m n), .int .i64 r] 3)) (sl_lit4 W1.drew _ _ _ _ _) (by simp))
  have HPO : Hid (NumL (firstC [numC e0 f0, numC e1 f1, numC m n, r]) w (.returned (.int .i64 (firstC [numC e0 f0, numC e1 f1, numC m n, r]))) (W1.drew.alloc (.cells #[.int .i64 (numC e0 f0), .int .i64 (numC e1 f1), .int .i64 (numC m n), .int .i64 r] 3))) := ⟨rfl, HL1.out.drew.alloc _⟩
  go_enter Try.func135, Try.ntmps135
  go_wp2_with fail
  rw [HW1.out]
  go_region_held3 (fun W => W.cell? ⟨H, 0, none⟩ = some (.int .i64 e0) ∧ W.cell? ⟨H, 1, none⟩ = some (.int .i64 e1) ∧ W.cell? ⟨H, 2, none⟩ = some (.slice L p c) ∧ W.cell? ⟨H, 3, none⟩ = some (.slice A m d) ∧ W.cell? ⟨H + 1, 0, none⟩ = some (.int .i64 f0) ∧ W.cell? ⟨H + 1, 1, none⟩ = some (.int .i64 f1) ∧ W.cell? ⟨H + 1, 2, none⟩ = some (.slice L' q c') ∧ W.cell? ⟨H + 1, 3, none⟩ = some (.slice A' n d'))
    (first | (refine ⟨?_, ?_, ?_, ?_, ?_, ?_, ?_, ?_⟩ <;> assumption) | go_keep)
    (first
      | (go_at_call 141; refine (cmpInt_any _ _ _).mono ?_; rintro e w' ⟨rfl, rfl⟩)
      | (go_at_call 142; refine HLab.out.mono ?_; rintro e w' ⟨rfl, rfl⟩)
      | (go_at_call 140; refine HOR.out.mono ?_; rintro e w' ⟨rfl, rfl⟩))
  go_wp2_with fail
  go_ret
  exact HPO.out
end Go.Proofs.Ytlcpekpgkllbkaa
