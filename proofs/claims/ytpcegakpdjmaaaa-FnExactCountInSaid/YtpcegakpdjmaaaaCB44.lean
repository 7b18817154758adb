/-
  Merged by program: CntV.
-/
import Derived.Test.YtpcegakpdjmaaaaCB39
import Derived.Test.YtpcegakpdjmaaaaCB43
import Derived.StillTailTactics

/-
  CountIn, the program's and the model's.
-/
namespace Go.Proofs.Ytpcegakpdjmaaaa
open Go.RowKit

def cntTo (ks : List Va) (v : Va) (k : Nat) : Nat := ((ks.take k).filter fun x => sameB x v).length
theorem cntTo_more {ks : List Va} {v : Va} {k : Nat} (h : k < ks.length) : cntTo ks v (k + 1) = cntTo ks v k + (if sameB ks[k] v = true then 1 else 0) := by
  unfold cntTo
  rw [List.take_add_one, List.getElem?_eq_getElem h, Option.toList_some, List.filter_append, List.length_append]
  by_cases e : sameB ks[k] v = true
  · simp [e]
  · simp [e]
theorem cntTo_le (ks : List Va) (v : Va) (k : Nat) : cntTo ks v k ≤ k := by
  unfold cntTo
  exact Nat.le_trans (List.length_filter_le _ _) (by rw [List.length_take]; omega)
theorem countB_yes {b v : Va} (h : b.top.kind = 4) : countB b v = cntTo b.kids v b.kids.length := by
  unfold countB cntTo
  rw [if_pos h, List.take_length]
theorem countB_no {b v : Va} (h : b.top.kind ≠ 4) : countB b v = 0 := by
  unfold countB
  rw [if_neg h]
set_option maxRecDepth 100000 in
set_option maxHeartbeats 4000000 in
theorem specCnt_any (b v : Va) (w : World) (cs ds : List Value) (h : RVa w b cs) (h' : RVa w v ds) (hw : wv b ≤ 1048576) (hw' : wv v ≤ 1048576) : Calls Try.prog 27 #[.agg cs.toArray, .agg ds.toArray] w (Counts ((countB b v : Nat) : Int) w) := by
  have hkl := wv_kids b
  have hkw : ∀ k ∈ b.kids, wv k ≤ 1048576 := fun k hk => Nat.le_trans (wv_kid hk) hw
  have hyes := countB_yes (b := b) (v := v)
  have hno := countB_no (b := b) (v := v)
  obtain ⟨L, c, A, d, rfl, _, _, k3, hp⟩ := h.open
  obtain ⟨d0, d1, d2, d3, rfl⟩ := h'.four
  obtain ⟨N, hN⟩ : ∃ N, countB b v = N := ⟨_, rfl⟩
  rw [hN] at hyes hno ⊢
  obtain ⟨ks, hks⟩ : ∃ ks, b.kids = ks := ⟨_, rfl⟩
  rw [hks] at hkl hkw hyes hp k3 ⊢
  obtain ⟨p, hpk⟩ : ∃ p, b.top.kind = p := ⟨_, rfl⟩
  rw [hpk] at hyes hno ⊢
  obtain ⟨q, hq⟩ : ∃ q, b.top.num = q := ⟨_, rfl⟩
  rw [hq]
  obtain ⟨l, hl⟩ : ∃ l, b.top.labels.length = l := ⟨_, rfl⟩
  rw [hl]
  obtain ⟨m, hm⟩ : ∃ m, ks.length = m := ⟨_, rfl⟩
  rw [hm] at hkl hyes k3 ⊢
  obtain ⟨W1, hW1⟩ : ∃ W1, (w.alloc (.cells #[.int .i64 p, .int .i64 q, .slice L l c, .slice A m d] 30)).alloc (.cells #[d0, d1, d2, d3] 30) = W1 := ⟨_, rfl⟩
  obtain ⟨H, hH⟩ : ∃ H, w.heap.size = H := ⟨_, rfl⟩
  have b0 : Box4 W1 H 30 (.int .i64 p) (.int .i64 q) (.slice L l c) (.slice A m d) := by rw [← hW1, ← hH]; exact (Box4.new w _ _ _ _ _).alloc _
  have b1 : Box4 W1 (H + 1) 30 d0 d1 d2 d3 := by
    rw [← hW1, ← hH]
    have := Box4.new (w.alloc (.cells #[.int .i64 p, .int .i64 q, .slice L l c, .slice A m d] 30)) 30 d0 d1 d2 d3
    simpa using this
  have hb1 : Below w.heap.size w W1 := by rw [← hW1]; exact (below_alloc w _).alloc (by simp) _
  have HP := Lib.hid hp
  have HV := Lib.hid (fun W (hB : Below w.heap.size w W) => h'.keep hB)
  have HKW := Lib.hid hkw
  have HWV := Lib.hid hw'
  have HYES := Lib.hid hyes
  have HNO := Lib.hid hno
  have HM := Lib.hid hm
  have HW1 := Lib.hid hW1
  have HB1 := Lib.hid hb1
  have B0 := Lib.hid b0
  have B1 := Lib.hid b1
  have hmb : m ≤ 1048576 := by omega
  clear hp h h' hkw hyes hno hm hW1 hb1 b0 b1 hw hw' hkl hN hks hpk hq hl
  by_cases e4 : p = 4
  · subst e4
    go_enter Try.func27, Try.ntmps27
    go_wp2_with fail
    rw [HW1.out]
    go_loopw [5, 6] (fun n i wr => ∃ k : Nat, k ≤ m ∧ i = .int .i64 (k : Int) ∧ n = .int .i64 ((cntTo ks v k : Nat) : Int) ∧ Below W1.heap.size W1 wr) (fun _ i _ => m - (intOf i).toNat)
    case atStart => exact ⟨0, Nat.zero_le _, rfl, rfl, Below.refl _ _⟩
    case round =>
      obtain ⟨k, hk, rfl, rfl, hb⟩ := hrel
      have hbw := HB1.out.trans (hb.mono HB1.out.size)
      have bb := B0.out.under hb B0.out.lt
      have bv := B1.out.under hb B1.out.lt
      have z0 := bb.c0
      have z3 := bb.c3
      have y0 := bv.c0
      have y1 := bv.c1
      have y2 := bv.c2
      have y3 := bv.c3
      have hcl := cntTo_le ks v k
      clear bb bv
      by_cases hlt : k < m
      · have hlk : k < ks.length := by rw [HM.out]; exact hlt
        have hmore := cntTo_more (v := v) hlk
        obtain ⟨ad, r, c0, c1, c2, c3, rfl, hpe, hr, q0, q1, q2, q3⟩ := vid_at HP.out hbw hlk
        have hd : Below wr.heap.size wr wr.drew := (Below.refl _ _).drew
        have HC := Lib.hid (specSame_any ks[k] v wr.drew [c0, c1, c2, c3] [d0, d1, d2, d3] (hr.keep hd) (HV.out _ (hbw.trans (hd.mono hbw.size))) (HKW.out _ (List.getElem_mem hlk)) HWV.out)
        have HBR := Lib.hid (hb.trans (hd.mono hb.size))
        obtain ⟨s, hs⟩ : ∃ s, sameB ks[k] v = s := ⟨_, rfl⟩
        obtain ⟨cn, hcn⟩ : ∃ cn, cntTo ks v k = cn := ⟨_, rfl⟩
        rw [hs] at HC hmore
        rw [hcn] at hmore hcl ⊢
        have HMORE := Lib.hid hmore
        clear hr hd hb hbw hs hcn hmore
        have hw1 : IntKind.i64.wrap ((cn : Int) + 1) = (cn : Int) + 1 := by rw [IntKind.wrap_i64]; omega
        have hw0 : IntKind.i64.wrap (cn : Int) = (cn : Int) := by rw [IntKind.wrap_i64]; omega
        cases s with
        | true =>
          have HNX : Hid (Value.int .i64 ((cn : Int) + 1) = .int .i64 ((cntTo ks v (k + 1) : Nat) : Int)) := by show _ = _; rw [HMORE.out]; simp
          go_wp2_with fail
          go_region_held3 (fun W => W.cell? ⟨H, 3, none⟩ = some (.slice (some ad) m d) ∧ W.cell? r = some c0 ∧ W.cell? ⟨r.block, r.off + 1, none⟩ = some c1 ∧ W.cell? ⟨r.block, r.off + 2, none⟩ = some c2 ∧ W.cell? ⟨r.block, r.off + 3, none⟩ = some c3 ∧ W.cell? ⟨H + 1, 0, none⟩ = some d0 ∧ W.cell? ⟨H + 1, 1, none⟩ = some d1 ∧ W.cell? ⟨H + 1, 2, none⟩ = some d2 ∧ W.cell? ⟨H + 1, 3, none⟩ = some d3)
            (first | (refine ⟨?_, ?_, ?_, ?_, ?_, ?_, ?_, ?_, ?_⟩ <;> assumption) | go_keep)
            (first
              | (go_at_call 56; refine (bit_any w3 _).mono ?_; rintro e w4 ⟨rfl, rfl⟩; rw [if_pos rfl])
              | (go_at_call 25; refine HC.out.mono ?_; rintro e w3 ⟨rfl, hb3⟩; have HBR3 := Lib.hid (HBR.out.trans (hb3.mono HBR.out.size)); have z3' := (hb3.cell (World.block_lt_of_cell? wr.drew _ z3)).trans z3; have q0' := (hb3.cell (World.block_lt_of_cell? wr.drew _ q0)).trans q0; have q1' := (hb3.cell (World.block_lt_of_cell? wr.drew _ q1)).trans q1; have q2' := (hb3.cell (World.block_lt_of_cell? wr.drew _ q2)).trans q2; have q3' := (hb3.cell (World.block_lt_of_cell? wr.drew _ q3)).trans q3; have y0' := (hb3.cell (World.block_lt_of_cell? wr.drew _ y0)).trans y0; have y1' := (hb3.cell (World.block_lt_of_cell? wr.drew _ y1)).trans y1; have y2' := (hb3.cell (World.block_lt_of_cell? wr.drew _ y2)).trans y2; have y3' := (hb3.cell (World.block_lt_of_cell? wr.drew _ y3)).trans y3; clear hb3))
          go_wp2_with fail
          go_roundw
          case rel => exact ⟨k + 1, hlt, by go_num, by first | exact HNX.out | (rw [hw1]; exact HNX.out) | (rw [hw0]; exact HNX.out), HBR3.out⟩
          case measure => simp [intOf]; omega
        | false =>
          have HNX : Hid (Value.int .i64 (cn : Int) = .int .i64 ((cntTo ks v (k + 1) : Nat) : Int)) := by show _ = _; rw [HMORE.out]; simp
          go_wp2_with fail
          go_region_held3 (fun W => W.cell? ⟨H, 3, none⟩ = some (.slice (some ad) m d) ∧ W.cell? r = some c0 ∧ W.cell? ⟨r.block, r.off + 1, none⟩ = some c1 ∧ W.cell? ⟨r.block, r.off + 2, none⟩ = some c2 ∧ W.cell? ⟨r.block, r.off + 3, none⟩ = some c3 ∧ W.cell? ⟨H + 1, 0, none⟩ = some d0 ∧ W.cell? ⟨H + 1, 1, none⟩ = some d1 ∧ W.cell? ⟨H + 1, 2, none⟩ = some d2 ∧ W.cell? ⟨H + 1, 3, none⟩ = some d3)
            (first | (refine ⟨?_, ?_, ?_, ?_, ?_, ?_, ?_, ?_, ?_⟩ <;> assumption) | go_keep)
            (first
              | (go_at_call 56; refine (bit_any w3 _).mono ?_; rintro e w4 ⟨rfl, rfl⟩; rw [if_neg (by decide)])
              | (go_at_call 25; refine HC.out.mono ?_; rintro e w3 ⟨rfl, hb3⟩; have HBR3 := Lib.hid (HBR.out.trans (hb3.mono HBR.out.size)); have z3' := (hb3.cell (World.block_lt_of_cell? wr.drew _ z3)).trans z3; have q0' := (hb3.cell (World.block_lt_of_cell? wr.drew _ q0)).trans q0; have q1' := (hb3.cell (World.block_lt_of_cell? wr.drew _ q1)).trans q1; have q2' := (hb3.cell (World.block_lt_of_cell? wr.drew _ q2)).trans q2; have q3' := (hb3.cell (World.block_lt_of_cell? wr.drew _ q3)).trans q3; have y0' := (hb3.cell (World.block_lt_of_cell? wr.drew _ y0)).trans y0; have y1' := (hb3.cell (World.block_lt_of_cell? wr.drew _ y1)).trans y1; have y2' := (hb3.cell (World.block_lt_of_cell? wr.drew _ y2)).trans y2; have y3' := (hb3.cell (World.block_lt_of_cell? wr.drew _ y3)).trans y3; clear hb3))
          go_wp2_with fail
          go_roundw
          case rel => exact ⟨k + 1, hlt, by go_num, by first | exact HNX.out | (rw [hw1]; exact HNX.out) | (rw [hw0]; exact HNX.out), HBR3.out⟩
          case measure => simp [intOf]; omega
      · have he : k = m := by omega
        have HR : Hid (Counts ((N : Nat) : Int) w (.returned (.int .i64 ((cntTo ks v k : Nat) : Int))) wr) := by
          refine ⟨?_, hbw⟩
          rw [HYES.out (by first | rfl | trivial), he]
        clear he hb hbw
        go_wp2_with fail
        go_ret
        exact HR.out
  · have hN0 := HNO.out e4
    subst hN0
    have hkb : (p == 4) = false := by simp [e4]
    go_enter Try.func27, Try.ntmps27
    go_wp2_with fail
    rw [HW1.out]
    go_loopw [5, 6] (fun n i wr => i = .int .i64 0 ∧ n = .int .i64 0 ∧ Below W1.heap.size W1 wr) (fun _ i _ => 0)
    case atStart => exact ⟨rfl, rfl, Below.refl _ _⟩
    case round =>
      obtain ⟨rfl, rfl, hb⟩ := hrel
      have hbw := HB1.out.trans (hb.mono HB1.out.size)
      have bb := B0.out.under hb B0.out.lt
      have z0 := bb.c0
      have z3 := bb.c3
      have HR : Hid (Counts ((0 : Nat) : Int) w (.returned (.int .i64 0)) wr) := ⟨rfl, hbw⟩
      clear bb hb hbw
      by_cases hm0 : (0 : Int) < (m : Int)
      · go_wp2_with fail
        go_ret
        exact HR.out
      · go_wp2_with fail
        go_ret
        exact HR.out
set_option maxRecDepth 100000 in
set_option maxHeartbeats 4000000 in
theorem implCnt_any (b v : Va) (w : World) (cs ds : List Value) (h : RVa w b cs) (h' : RVa w v ds) (hw : wv b ≤ 1048576) (hw' : wv v ≤ 1048576) : Calls Try.prog 28 #[.agg cs.toArray, .agg ds.toArray] w (Counts ((countB b v : Nat) : Int) w) := by
  have hkl := wv_kids b
  have hkw : ∀ k ∈ b.kids, wv k ≤ 1048576 := fun k hk => Nat.le_trans (wv_kid hk) hw
  have hyes := countB_yes (b := b) (v := v)
  have hno := countB_no (b := b) (v := v)
  obtain ⟨L, c, A, d, rfl, _, _, k3, hp⟩ := h.open
  obtain ⟨d0, d1, d2, d3, rfl⟩ := h'.four
  obtain ⟨N, hN⟩ : ∃ N, countB b v = N := ⟨_, rfl⟩
  rw [hN] at hyes hno ⊢
  obtain ⟨ks, hks⟩ : ∃ ks, b.kids = ks := ⟨_, rfl⟩
  rw [hks] at hkl hkw hyes hp k3 ⊢
  obtain ⟨p, hpk⟩ : ∃ p, b.top.kind = p := ⟨_, rfl⟩
  rw [hpk] at hyes hno ⊢
  obtain ⟨q, hq⟩ : ∃ q, b.top.num = q := ⟨_, rfl⟩
  rw [hq]
  obtain ⟨l, hl⟩ : ∃ l, b.top.labels.length = l := ⟨_, rfl⟩
  rw [hl]
  obtain ⟨m, hm⟩ : ∃ m, ks.length = m := ⟨_, rfl⟩
  rw [hm] at hkl hyes k3 ⊢
  obtain ⟨Tv, hTv⟩ : ∃ T, canV v = T := ⟨_, rfl⟩
  obtain ⟨W1, hW1⟩ : ∃ W1, (w.alloc (.cells #[.int .i64 p, .int .i64 q, .slice L l c, .slice A m d] 30)).alloc (.cells #[d0, d1, d2, d3] 30) = W1 := ⟨_, rfl⟩
  obtain ⟨H, hH⟩ : ∃ H, w.heap.size = H := ⟨_, rfl⟩
  have b0 : Box4 W1 H 30 (.int .i64 p) (.int .i64 q) (.slice L l c) (.slice A m d) := by rw [← hW1, ← hH]; exact (Box4.new w _ _ _ _ _).alloc _
  have b1 : Box4 W1 (H + 1) 30 d0 d1 d2 d3 := by
    rw [← hW1, ← hH]
    have := Box4.new (w.alloc (.cells #[.int .i64 p, .int .i64 q, .slice L l c, .slice A m d] 30)) 30 d0 d1 d2 d3
    simpa using this
  have hb1 : Below w.heap.size w W1 := by rw [← hW1]; exact (below_alloc w _).alloc (by simp) _
  have hcv := implCanV_any v W1 _ (h'.keep hb1) hw'
  rw [hTv] at hcv
  have HCV := Lib.hid hcv
  have HP := Lib.hid hp
  have HKW := Lib.hid hkw
  have HYES := Lib.hid hyes
  have HNO := Lib.hid hno
  have HM := Lib.hid hm
  have HTV := Lib.hid hTv
  have HW1 := Lib.hid hW1
  have HB1 := Lib.hid hb1
  have B0 := Lib.hid b0
  have x0 := b0.c0
  have y0 := b1.c0
  have y1 := b1.c1
  have y2 := b1.c2
  have y3 := b1.c3
  have hmb : m ≤ 1048576 := by omega
  clear hp h h' hkw hyes hno hm hW1 hb1 b0 b1 hw hw' hkl hN hks hpk hq hl hcv hTv
  by_cases e4 : p = 4
  · subst e4
    go_enter Try.func28, Try.ntmps28
    go_wp2_with fail
    rw [HW1.out]
    go_wp2_with fail
    refine HCV.out.mono ?_
    rintro e w2 ⟨L2, A2, l2, n2, fp2, rfl, ho2, hf2, hb2⟩
    obtain ⟨t0, ht0⟩ : ∃ t0, Tv.top.kind = t0 := ⟨_, rfl⟩
    obtain ⟨t1, ht1⟩ : ∃ t0, Tv.top.num = t0 := ⟨_, rfl⟩
    obtain ⟨t2, ht2⟩ : ∃ t0, Tv.top.labels.length = t0 := ⟨_, rfl⟩
    obtain ⟨t3, ht3⟩ : ∃ t0, Tv.kids.length = t0 := ⟨_, rfl⟩
    rw [ht0, ht1, ht2, ht3] at ho2 ⊢
    obtain ⟨W3, hW3⟩ : ∃ W3, w2.alloc (.cells #[.int .i64 t0, .int .i64 t1, .slice L2 t2 l2, .slice A2 t3 n2] 30) = W3 := ⟨_, rfl⟩
    obtain ⟨G, hG⟩ : ∃ G, w2.heap.size = G := ⟨_, rfl⟩
    have hb3 : Below w2.heap.size w2 W3 := by rw [← hW3]; exact below_alloc w2 _
    have hx3 : Box4 W3 G 30 (.int .i64 t0) (.int .i64 t1) (.slice L2 t2 l2) (.slice A2 t3 n2) := by rw [← hW3, ← hG]; exact Box4.new w2 _ _ _ _ _
    have hb13 := hb2.trans (hb3.mono hb2.size)
    have R3 := Lib.hid (ho2.reads.keep hb3)
    have HB3 := Lib.hid (HB1.out.trans (hb13.mono HB1.out.size))
    have B3 := Lib.hid (B0.out.under hb13 B0.out.lt)
    have X3 := Lib.hid hx3
    have z3 : (w2.alloc (.cells #[.int .i64 t0, .int .i64 t1, .slice L2 t2 l2, .slice A2 t3 n2] 30)).cell? ⟨H, 3, none⟩ = some (.slice A m d) := by rw [hW3]; exact B3.out.c3
    have HW3 := Lib.hid hW3
    clear ho2 hf2 hb2 hb3 hx3 hb13 hW3 x0 y0 y1 y2 y3 ht0 ht1 ht2 ht3
    go_wp2_with fail
    try rw [hG]
    rw [HW3.out]
    clear z3
    go_loopw [5, 17] (fun n i wr => ∃ k : Nat, k ≤ m ∧ i = .int .i64 (k : Int) ∧ n = .int .i64 ((cntTo ks v k : Nat) : Int) ∧ Below W3.heap.size W3 wr) (fun _ i _ => m - (intOf i).toNat)
    case atStart => exact ⟨0, Nat.zero_le _, rfl, rfl, Below.refl _ _⟩
    case round =>
      obtain ⟨k, hk, rfl, rfl, hb⟩ := hrel
      have hbw := HB3.out.trans (hb.mono HB3.out.size)
      have hcl := cntTo_le ks v k
      by_cases hlt : k < m
      · have hlk : k < ks.length := by rw [HM.out]; exact hlt
        have hmore := cntTo_more (v := v) hlk
        obtain ⟨ad, r, c0, c1, c2, c3, rfl, hpe, hr, q0, q1, q2, q3⟩ := vid_at HP.out hbw hlk
        obtain ⟨f0, f1, f2, f3, f4, f5, f6, f7, rfl, rfl, rfl, rfl⟩ := hr.shape
        obtain ⟨W5, hW5⟩ : ∃ W5, wr.alloc (.cells #[.int .i64 f0, .int .i64 f1, .slice f2 f3 f4, .slice f5 f6 f7] 30) = W5 := ⟨_, rfl⟩
        obtain ⟨K, hK⟩ : ∃ K, wr.heap.size = K := ⟨_, rfl⟩
        have hb5 : Below wr.heap.size wr W5 := by rw [← hW5]; exact below_alloc wr _
        have hx5 : Box4 W5 K 30 (.int .i64 f0) (.int .i64 f1) (.slice f2 f3 f4) (.slice f5 f6 f7) := by rw [← hW5, ← hK]; exact Box4.new wr _ _ _ _ _
        have hd : Below W5.heap.size W5 W5.drew := (Below.refl _ _).drew
        have hb5d := hb5.trans (hd.mono hb5.size)
        have hb35 := hb.trans (hb5d.mono hb.size)
        have g4 : Box4 W5.drew G 30 (.int .i64 t0) (.int .i64 t1) (.slice L2 t2 l2) (.slice A2 t3 n2) := X3.out.under hb35 X3.out.lt
        obtain ⟨Te, hTe⟩ : ∃ T, canV ks[k] = T := ⟨_, rfl⟩
        have hcan := implCanV_any ks[k] W5.drew _ (hr.keep hb5d) (HKW.out _ (List.getElem_mem hlk))
        rw [hTe] at hcan
        have hsz : Te.size ≤ 1048577 := by rw [← hTe, canV_size]; have := size_wv ks[k]; have := HKW.out _ (List.getElem_mem hlk); omega
        obtain ⟨s, hs⟩ : ∃ s, sameB ks[k] v = s := ⟨_, rfl⟩
        have hsd : s = decide (cmpV Te Tv = 0) := by rw [← hs, ← hTe, ← HTV.out]; rfl
        obtain ⟨cn, hcn⟩ : ∃ cn, cntTo ks v k = cn := ⟨_, rfl⟩
        rw [hs] at hmore
        rw [hcn] at hmore hcl ⊢
        have HMORE := Lib.hid hmore
        have HCC := Lib.hid hcan
        have HB35 := Lib.hid hb35
        have X5 := Lib.hid (show Box4 W5.drew K 30 (.int .i64 f0) (.int .i64 f1) (.slice f2 f3 f4) (.slice f5 f6 f7) from hx5)
        have G4 := Lib.hid g4
        have HCM := Lib.hid (fun (W : World) (cs : List Value) (h1 : RVa W Te cs) (hB : Below W3.heap.size W3 W) => (implCmp_any Te Tv W cs _ h1 (R3.out.keep hB) hsz).mono fun _ _ hq => (⟨hq.1, hq.2.below⟩ : Counts (cmpV Te Tv) W _ _))
        have u0 := hx5.c0
        have u1 := hx5.c1
        have u2 := hx5.c2
        have u3 := hx5.c3
        have v0 := g4.c0
        have v1 := g4.c1
        have v2 := g4.c2
        have v3 := g4.c3
        have v0' : W5.cell? ⟨G, 0, none⟩ = some (.int .i64 t0) := v0
        have v1' : W5.cell? ⟨G, 1, none⟩ = some (.int .i64 t1) := v1
        have v2' : W5.cell? ⟨G, 2, none⟩ = some (.slice L2 t2 l2) := v2
        have v3' : W5.cell? ⟨G, 3, none⟩ = some (.slice A2 t3 n2) := v3
        have HW5 := Lib.hid hW5
        have hw1 : IntKind.i64.wrap ((cn : Int) + 1) = (cn : Int) + 1 := by rw [IntKind.wrap_i64]; omega
        clear hr hd hb5 hx5 hb5d hb35 g4 hcan hsz hs hcn hmore hTe hW5 hb hbw
        go_wp2_with fail
        try rw [hK]
        rw [HW5.out]
        go_wp2_with fail
        go_region_held3 (fun W => W.cell? ⟨K, 0, none⟩ = some (.int .i64 f0) ∧ W.cell? ⟨K, 1, none⟩ = some (.int .i64 f1) ∧ W.cell? ⟨K, 2, none⟩ = some (.slice f2 f3 f4) ∧ W.cell? ⟨K, 3, none⟩ = some (.slice f5 f6 f7) ∧ W.cell? ⟨G, 0, none⟩ = some (.int .i64 t0) ∧ W.cell? ⟨G, 1, none⟩ = some (.int .i64 t1) ∧ W.cell? ⟨G, 2, none⟩ = some (.slice L2 t2 l2) ∧ W.cell? ⟨G, 3, none⟩ = some (.slice A2 t3 n2))
          (first | (refine ⟨?_, ?_, ?_, ?_, ?_, ?_, ?_, ?_⟩ <;> assumption) | go_keep)
          (first
            | (go_at_call 20; refine HC.out.mono ?_; rintro e w7 ⟨rfl, hb7⟩; have HB7 := Lib.hid (HB6.out.trans (hb7.mono HB6.out.size)); have A7 := A6.out.under hb7 A6.out.lt; have G7 := G6.out.under hb7 G6.out.lt; have i0 := A7.c0; have i1 := A7.c1; have i2 := A7.c2; have i3 := A7.c3; have j0 := G7.c0; have j1 := G7.c1; have j2 := G7.c2; have j3 := G7.c3; clear hb7 HC A7 G7)
            | (go_at_call 22; refine HCC.out.mono ?_; rintro e w6 ⟨L6, M6, l6, m6, fp6, rfl, ho6, hf6, hb6⟩; have HB6 := Lib.hid (HB35.out.trans (hb6.mono HB35.out.size)); have A6 := Lib.hid (X5.out.under hb6 X5.out.lt); have G6 := Lib.hid (G4.out.under hb6 G4.out.lt); have HC := Lib.hid (HCM.out w6 _ ho6.reads HB6.out); have a0 := A6.out.c0; have a1 := A6.out.c1; have a2 := A6.out.c2; have a3 := A6.out.c3; have b0 := G6.out.c0; have b1 := G6.out.c1; have b2 := G6.out.c2; have b3 := G6.out.c3; clear ho6 hf6 hb6; generalize Te.top.kind = e0 at HC ⊢; generalize Te.top.num = e1 at HC ⊢; generalize Te.top.labels.length = e2 at HC ⊢; generalize Te.kids.length = e3 at HC ⊢))
        by_cases hz : cmpV Te Tv = 0
        · have HNX : Hid (Value.int .i64 ((cn : Int) + 1) = .int .i64 ((cntTo ks v (k + 1) : Nat) : Int)) := by
            show _ = _
            rw [HMORE.out, hsd, hz]
            simp
          rw [hz]
          clear hsd hz
          go_wp2_with fail
          go_roundw
          case rel => exact ⟨k + 1, hlt, by go_num, by first | exact HNX.out | (rw [hw1]; exact HNX.out), HB7.out⟩
          case measure => simp [intOf]; omega
        · have HNX : Hid (Value.int .i64 (cn : Int) = .int .i64 ((cntTo ks v (k + 1) : Nat) : Int)) := by
            show _ = _
            rw [HMORE.out, hsd]
            simp [hz]
          have hzb : (cmpV Te Tv == 0) = false := by simp [hz]
          generalize cmpV Te Tv = N0 at hz hzb ⊢
          clear hsd
          go_wp2_with fail
          go_roundw
          case rel => exact ⟨k + 1, hlt, by go_num, HNX.out, HB7.out⟩
          case measure => simp [intOf]; omega
      · have he : k = m := by omega
        have HR : Hid (Counts ((N : Nat) : Int) w (.returned (.int .i64 ((cntTo ks v k : Nat) : Int))) wr) := by
          refine ⟨?_, hbw⟩
          rw [HYES.out (by first | rfl | trivial), he]
        clear he hb hbw
        go_wp2_with fail
        go_ret
        exact HR.out
  · have hN0 := HNO.out e4
    subst hN0
    have hkb : (p == 4) = false := by simp [e4]
    have HR : Hid (Counts ((0 : Nat) : Int) w (.returned (.int .i64 0)) W1) := ⟨rfl, HB1.out⟩
    go_enter Try.func28, Try.ntmps28
    go_wp2_with fail
    rw [HW1.out]
    go_wp2_with fail
    go_ret
    exact HR.out
end Go.Proofs.Ytpcegakpdjmaaaa
