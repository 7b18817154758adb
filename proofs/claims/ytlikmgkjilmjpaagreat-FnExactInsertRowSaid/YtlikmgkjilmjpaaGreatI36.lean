/-
  Merged by program: HasE, SEq, ValLim, RecLab, PartsR.
-/
import Derived.Test.YtlikmgkjilmjpaaGreatI35
import Derived.Test.YtlikmgkjilmjpaaGreatI30
import Derived.StillTailTactics
import Derived.Test.YtlikmgkjilmjpaaGreatI18
import Derived.Deep.RegionHeld3
import Derived.Test.YtlikmgkjilmjpaaGreatI32
import Derived.Test.YtlikmgkjilmjpaaGreatI16

/-
  The library's slices.EqualFunc at a list of values and one of types; the program's every, at a list of values.
-/
namespace Go.Proofs.YtlikmgkjilmjpaaGreat
open Go.RowKit

/-- the program's isOfType, at a value -/
def OfK (v : Va) : Prop := ∀ (t : Ty) (w : World) (cs ds : List Value), DatT t → RVa w v cs → RTy w t ds → Calls Tryz.prog 104 #[.agg cs.toArray, .agg ds.toArray] w (Truth (hasT t v) w)

theorem RTy.shape3 {w : World} {t : Ty} {c0 c1 c2 : Value} (h : RTy w t [c0, c1, c2]) : ∃ q L n c A m d, c0 = .int .i64 q ∧ c1 = .slice L n c ∧ c2 = .slice A m d := by
  cases t with
  | node a ks =>
    obtain ⟨L, c, A, d, he, _⟩ := h.out
    injection he with e0 he
    injection he with e1 he
    injection he with e2 _
    exact ⟨_, _, _, _, _, _, _, e0, e1, e2⟩

set_option maxHeartbeats 1600000 in
set_option maxRecDepth 100000 in
theorem eqFuncV_any (ks : List Va) (js : List Ty) (ih : ∀ x ∈ ks, OfK x) (hd : ∀ t ∈ js, DatT t) (w : World) (A B : Option Addr) (c d : Nat) (h : RVas w A ks) (h' : RKids w B js) (hl : ks.length ≤ 9223372036854775807) :
    Calls Tryz.prog 120 #[.slice A ks.length c, .slice B js.length d, .func (.func 104) #[] #[]] w (Truth (hasTs js ks) w) := by
  obtain ⟨N, hN⟩ : ∃ N, hasTs js ks = N := ⟨_, rfl⟩
  by_cases hlen : ks.length = js.length
  · have HP := Lib.hid h
    have HQ := Lib.hid h'
    have HL := Lib.hid hlen
    have HI := Lib.hid ih
    have HD := Lib.hid hd
    have HREST : Hid (N = hasTs js ks) := hN.symm
    rw [← hlen, hN]
    clear h h' hlen ih hd hN
    go_enter Tryz.func120, Tryz.ntmps120
    go_wp2_with fail
    go_loopw [17] (fun i wr => ∃ k : Nat, k ≤ ks.length ∧ i = .int .i64 k ∧ N = hasTs (js.drop k) (ks.drop k) ∧ Below w.heap.size w wr) (fun i _ => ks.length - (intOf i).toNat)
    case atStart => exact ⟨0, Nat.zero_le _, rfl, HREST.out, Below.refl _ _⟩
    case round =>
      obtain ⟨k, hk, rfl, hno, hb⟩ := hrel
      have HB := Lib.hid hb
      by_cases hlt : k < ks.length
      · have hlt2 : k < js.length := by have := HL.out; omega
        obtain ⟨ad, p, c0, c1, c2, c3, rfl, hpe, hr, q0, q1, q2, q3⟩ := vid_at HP.out hb hlt
        obtain ⟨bd, p', d0, d1, d2, rfl, hpe', hr', q0', q1', q2'⟩ := kid_at HQ.out hb hlt2
        obtain ⟨u0, u1, u2, u3, u4, u5, u6, u7, rfl, rfl, rfl, rfl⟩ := hr.shape
        obtain ⟨v0, v1, v2, v3, v4, v5, v6, rfl, rfl, rfl⟩ := hr'.shape3
        obtain ⟨W5, hW5⟩ : ∃ W5, (wr.alloc (.cells #[.int .i64 u0, .int .i64 u1, .slice u2 u3 u4, .slice u5 u6 u7] 47)).alloc (.cells #[.int .i64 v0, .slice v1 v2 v3, .slice v4 v5 v6] 96) = W5 := ⟨_, rfl⟩
        have hb5 : Below wr.heap.size wr W5 := by rw [← hW5]; exact (below_box _ _ _).alloc (by simp) _
        have HC := Lib.hid (HI.out ks[k] (List.getElem_mem hlt) js[k] W5 _ _ (HD.out _ (List.getElem_mem hlt2)) (hr.keep hb5) (RTy.keep hr' hb5))
        have HW5 := Lib.hid hW5
        have HB5 := Lib.hid (hb.trans (hb5.mono hb.size))
        have HNO : Hid (N = (hasT js[k] ks[k] && hasTs (js.drop (k + 1)) (ks.drop (k + 1)))) := by rw [hasTs_step hlt2 hlt] at hno; exact hno
        obtain ⟨v, hv⟩ : ∃ v, hasT js[k] ks[k] = v := ⟨_, rfl⟩
        rw [hv] at HNO HC
        have hbA : Below wr.heap.size wr (wr.alloc (.cells #[.int .i64 u0, .int .i64 u1, .slice u2 u3 u4, .slice u5 u6 u7] 47)) := below_box _ _ _
        have s0 := (hbA.cell (World.block_lt_of_cell? wr _ q0')).trans q0'
        have s1 := (hbA.cell (World.block_lt_of_cell? wr _ q1')).trans q1'
        have s2 := (hbA.cell (World.block_lt_of_cell? wr _ q2')).trans q2'
        clear hr hr' hb5 hW5 hv hlt2 hbA q0' q1' q2' hno hb HB
        go_wp2_with fail
        rw [HW5.out]
        refine HC.out.mono ?_
        rintro e w6 ⟨rfl, hb6⟩
        have HB6 := Lib.hid (HB5.out.trans (hb6.mono HB5.out.size))
        clear hb6 HC
        cases v with
        | false =>
          have HF : Hid (Truth N w (.returned (.bool false)) w6) := truth_iff (by rw [HNO.out]; rfl) HB6.out
          go_wp2_with fail
          go_ret
          exact HF.out
        | true =>
          have HT : Hid (N = hasTs (js.drop (k + 1)) (ks.drop (k + 1))) := by show _ = _; rw [HNO.out]; rfl
          clear HNO
          go_wp2_with fail
          go_roundw
          case rel => exact ⟨k + 1, hlt, by go_num, HT.out, HB6.out⟩
          case measure => simp [intOf]; omega
      · have he : k = ks.length := by omega
        have HF : Hid (Truth N w (.returned (.bool true)) wr) := truth_iff (by rw [hno, hasTs_end (by have := HL.out; omega) (by omega)]) hb
        clear he hno hb
        go_wp2_with fail
        go_ret
        exact HF.out
  · have hNF : hasTs js ks = false := Bool.eq_false_iff.2 (fun h => hlen (hasTs_len h).symm)
    have HF : Hid (Truth (hasTs js ks) w (.returned (.bool false)) w) := truth_iff hNF (Below.refl _ _)
    have hne : ((ks.length : Int) == (js.length : Int)) = false := by
      have : (ks.length : Int) ≠ (js.length : Int) := by omega
      exact beq_eq_false_iff_ne.2 this
    clear hNF hN
    generalize ks.length = n1 at hlen hne hl ⊢
    generalize js.length = n2 at hlen hne ⊢
    clear hlen h h' ih hd
    go_enter Tryz.func120, Tryz.ntmps120
    go_wp2_with fail
    go_ret
    exact HF.out

set_option maxHeartbeats 800000 in
set_option maxRecDepth 100000 in
/-- the closure, over a variable at block P that holds the bag's type -/
theorem ofType1_any (x : Va) (j : Ty) (ih : OfK x) (hd : DatT j) (w : World) (P : Nat) (cs : List Value) (u0 u1 : Value) (B : Option Addr) (d : Nat) (h : RVa w x cs) (h' : RKids w B [j]) (hbx : Box3 w P 155 u0 u1 (.slice B 1 d)) :
    Calls Tryz.prog 122 #[.agg cs.toArray, .pointer (some ⟨P, 0, none⟩)] w (Truth (hasT j x) w) := by
  obtain ⟨c0, c1, c2, c3, rfl⟩ := h.four
  obtain ⟨W1, hW1⟩ : ∃ W1, w.alloc (.cells #[c0, c1, c2, c3] 47) = W1 := ⟨_, rfl⟩
  obtain ⟨H, hH⟩ : ∃ H, w.heap.size = H := ⟨_, rfl⟩
  have hb1 : Below w.heap.size w W1 := by rw [← hW1]; exact below_box _ _ _
  have b0 : Box4 W1 H 47 c0 c1 c2 c3 := by rw [← hW1, ← hH]; exact Box4.new w _ _ _ _ _
  obtain ⟨bd, p2, d0, d1, d2, rfl, hpe, hr', q0', q1', q2'⟩ := kid_at h' hb1 (k := 0) (by simp)
  rw [Nat.zero_mul] at hpe
  have hpe2 : bd = p2 := by rw [← hpe]; rfl
  subst hpe2
  have hdr : Below W1.heap.size W1 W1.drew := (Below.refl _ _).drew
  have HC := Lib.hid (ih j W1.drew _ _ hd (h.keep (hb1.trans (hdr.mono hb1.size))) (RTy.keep hr' hdr))
  have HB1 := Lib.hid (hb1.trans (hdr.mono hb1.size))
  have HW1 := Lib.hid hW1
  have x0 := b0.c0
  have x1 := b0.c1
  have x2 := b0.c2
  have x3 := b0.c3
  have y2 := (hbx.under hb1 hbx.lt).c2
  clear h h' ih hd hr' hpe hb1 hdr b0 hbx hW1
  go_enter Tryz.func122, Tryz.ntmps122
  go_wp2_with fail
  rw [HW1.out]
  go_wp2_with fail
  go_still_tail 5, (by kernel_rfl)
  change wpList _ _ _ _ _ W1.drew
  go_wp2_with fail
  refine HC.out.mono ?_
  rintro e w3 ⟨rfl, hb3⟩
  have HR : Hid (Truth (hasT j x) w (.returned (.bool (hasT j x))) w3) := truth_iff rfl (HB1.out.trans (hb3.mono HB1.out.size))
  clear hb3
  go_wp2_with fail
  go_ret
  exact HR.out

set_option maxHeartbeats 800000 in
set_option maxRecDepth 100000 in
theorem everyV_any (ks : List Va) (j : Ty) (ih : ∀ x ∈ ks, OfK x) (hd : DatT j) (w : World) (P : Nat) (u0 u1 : Value) (A B : Option Addr) (c d : Nat) (h : RVas w A ks) (h' : RKids w B [j]) (hbx : Box3 w P 155 u0 u1 (.slice B 1 d)) (hl : ks.length ≤ 9223372036854775807) :
    Calls Tryz.prog 94 #[.slice A ks.length c, .func (.func 122) #[] #[.pointer (some ⟨P, 0, none⟩)]] w (Truth (ks.all fun x => hasT j x) w) := by
  obtain ⟨N, hN⟩ : ∃ N, (ks.all fun x => hasT j x) = N := ⟨_, rfl⟩
  have HP := Lib.hid h
  have HQ := Lib.hid h'
  have HI := Lib.hid ih
  have HD := Lib.hid hd
  have HX := Lib.hid hbx
  have HREST : Hid (N = ks.all fun x => hasT j x) := hN.symm
  rw [hN]
  clear h h' ih hd hN hbx
  go_enter Tryz.func94, Tryz.ntmps94
  go_wp2_with fail
  go_loopw [9] (fun i wr => ∃ k : Nat, k ≤ ks.length ∧ i = .int .i64 k ∧ N = (ks.drop k).all (fun x => hasT j x) ∧ Below w.heap.size w wr) (fun i _ => ks.length - (intOf i).toNat)
  case atStart => exact ⟨0, Nat.zero_le _, rfl, HREST.out, Below.refl _ _⟩
  case round =>
    obtain ⟨k, hk, rfl, hno, hb⟩ := hrel
    by_cases hlt : k < ks.length
    · obtain ⟨ad, p, c0, c1, c2, c3, rfl, hpe, hr, q0, q1, q2, q3⟩ := vid_at HP.out hb hlt
      obtain ⟨e0, e1, e2, e3, e4, e5, e6, e7, rfl, rfl, rfl, rfl⟩ := hr.shape
      obtain ⟨W5, hW5⟩ : ∃ W5, wr.alloc (.cells #[.int .i64 e0, .int .i64 e1, .slice e2 e3 e4, .slice e5 e6 e7] 47) = W5 := ⟨_, rfl⟩
      have hb5 : Below wr.heap.size wr W5 := by rw [← hW5]; exact below_box _ _ _
      have hbb := hb.trans (hb5.mono hb.size)
      have hx5 := Box4.new wr 47 (.int .i64 e0) (.int .i64 e1) (.slice e2 e3 e4) (.slice e5 e6 e7)
      rw [hW5] at hx5
      have HC := Lib.hid (ofType1_any ks[k] j (HI.out _ (List.getElem_mem hlt)) HD.out W5 P _ u0 u1 B d (hr.keep hb5) (HQ.out.keep hbb) (HX.out.under hbb HX.out.lt))
      have HW5 := Lib.hid hW5
      have HB5 := Lib.hid hbb
      have HNO : Hid (N = (hasT j ks[k] && (ks.drop (k + 1)).all (fun x => hasT j x))) := by
        show _ = _
        rw [hno, List.drop_eq_getElem_cons hlt, List.all_cons]
      obtain ⟨v, hv⟩ : ∃ v, hasT j ks[k] = v := ⟨_, rfl⟩
      rw [hv] at HNO HC
      have y0 := hx5.c0
      have y1 := hx5.c1
      have y2 := hx5.c2
      have y3 := hx5.c3
      clear hr hb5 hbb hW5 hv hno hb hx5
      go_wp2_with fail
      rw [HW5.out]
      go_wp2_with fail
      refine HC.out.mono ?_
      rintro e w6 ⟨rfl, hb6⟩
      have HB6 := Lib.hid (HB5.out.trans (hb6.mono HB5.out.size))
      clear hb6 HC y0 y1 y2 y3
      cases v with
      | false =>
        have HF : Hid (Truth N w (.returned (.bool false)) w6) := truth_iff (by rw [HNO.out]; rfl) HB6.out
        go_wp2_with fail
        go_ret
        exact HF.out
      | true =>
        have HT : Hid (N = (ks.drop (k + 1)).all (fun x => hasT j x)) := by show _ = _; rw [HNO.out]; rfl
        clear HNO
        go_wp2_with fail
        go_roundw
        case rel => exact ⟨k + 1, hlt, by go_num, HT.out, HB6.out⟩
        case measure => simp [intOf]; omega
    · have he : k = ks.length := by omega
      have HF : Hid (Truth N w (.returned (.bool true)) wr) := truth_iff (by rw [hno, List.drop_eq_nil_of_le (by omega)]; rfl) hb
      clear he hno hb
      go_wp2_with fail
      go_ret
      exact HF.out
end Go.Proofs.YtlikmgkjilmjpaaGreat

/-
  The library's slices.Equal at lists of strings.
-/
namespace Go.Proofs.YtlikmgkjilmjpaaGreat
open Go.RowKit

set_option maxHeartbeats 800000 in
set_option maxRecDepth 100000 in
theorem sEq_any (A B : Option Addr) (c d : Nat) (xs ys : List ByteArray) (w : World) (hA : Sl w A (xs.map Value.string)) (hB : Sl w B (ys.map Value.string)) (hn : xs.length ≤ 9223372036854775807) :
    Calls Tryz.prog 119 #[.slice A xs.length c, .slice B ys.length d] w (Tells (same xs ys) w) := by
  by_cases hl : xs.length = ys.length
  · have HL := Lib.hid hl
    rw [← hl]
    clear hl
    go_enter Tryz.func119, Tryz.ntmps119
    go_wp2_with fail
    go_loopw [13] (fun i wr => ∃ k : Nat, k ≤ xs.length ∧ i = .int .i64 k ∧ EqTo xs ys k ∧ ∃ n, wr = w.drewN n) (fun i _ => xs.length - (intOf i).toNat)
    case atStart => exact ⟨0, Nat.zero_le _, rfl, eqTo_zero _ _, 0, rfl⟩
    case round =>
      obtain ⟨k, hk, rfl, hno, n, rfl⟩ := hrel
      by_cases hlt : k < xs.length
      · have hlt2 : k < ys.length := by have := HL.out; omega
        obtain ⟨ad, rfl, hc⟩ := hA k (.string xs[k]) (by simp [hlt])
        obtain ⟨bd, rfl, hd⟩ := hB k (.string ys[k]) (by simp [hlt2])
        by_cases hx : xs[k] = ys[k]
        · have HN := Lib.hid (eqTo_succ hno hlt hlt2 hx)
          rw [← hx] at hd
          clear hx hno
          go_wp2
          go_quiet (fail)
          go_wp2
          go_roundw
          case rel => exact ⟨k + 1, by omega, by go_num, HN.out, _, rfl⟩
          case measure => simp [intOf]; omega
        · have HR := Lib.hid (same_no (ne_at hlt hlt2 hx))
          have hb := (Lib.bytes_beq_false_iff xs[k] ys[k]).2 hx
          clear hx hno
          go_wp2
          go_quiet (fail)
          go_wp2
          go_ret
          exact ⟨ret_bool HR.out.symm, _, World.drewN_drewN _ _ _⟩
      · have he : k = xs.length := by omega
        have HR := Lib.hid (same_yes (eqTo_all (he ▸ hno) HL.out))
        clear he hno
        go_wp2_with fail
        go_ret
        exact ⟨ret_bool HR.out.symm, n, rfl⟩
  · have HR := Lib.hid (same_no (x := xs) (y := ys) (fun e => hl (by rw [e])))
    go_enter Tryz.func119, Tryz.ntmps119
    go_wp2_with fail
    go_ret
    exact ⟨ret_bool HR.out.symm, 0, rfl⟩
end Go.Proofs.YtlikmgkjilmjpaaGreat

/-
  The program's isWithinMaxValue.
-/
namespace Go.Proofs.YtlikmgkjilmjpaaGreat
open Go.RowKit Go.Shelf

attribute [local go_sem] Oper.semAt_some

/-- between two rounds: H + 1 holds the answer, H + 2 how many nodes were given, H + 3 the value -/
def LimV (w : World) (H M : Nat) (S : Stk) (F : Nat → Prop) (W : World) : Prop :=
  F = (fun b => b = H + 1 ∨ b = H + 2) ∧ H + 2 < W.heap.size ∧ Below w.heap.size w W ∧ StkR w (H + 3) S W ∧ Boxed W (H + 1) 4 (.bool false) ∧ ∃ q, q + sizesS S = M ∧ q ≤ 2000 ∧ Boxed W (H + 2) 3 (.int .i64 (q : Int))
/-- a round has left -/
def LimVX (w : World) (H M : Nat) (W : World) : Prop := H + 2 < W.heap.size ∧ Below w.heap.size w W ∧ Boxed W (H + 1) 4 (.bool false) ∧ 2000 < M
theorem LimV.keep {w : World} {H M : Nat} {S : Stk} {F : Nat → Prop} {lo : Nat} (hw : w.heap.size ≤ H) (hlo : H + 4 ≤ lo) {A B : World} (h : LimV w H M S F A) (hH : Held (fun i => i < lo ∨ F i) A B) : LimV w H M S F B := by
  obtain ⟨rfl, h1, h2, h3, h4, q, h5, h6, h7⟩ := h
  refine ⟨rfl, Nat.lt_of_lt_of_le h1 hH.size, h2.trans (hH.below h2.size fun i hi => .inl (by omega)), h3.held hH fun b hb => .inl (by omega), ?_, q, h5, h6, ?_⟩
  · exact (hH.block (H + 1) (by omega) (.inl (by omega))).trans h4
  · exact (hH.block (H + 2) (by omega) (.inl (by omega))).trans h7
theorem LimVX.keep {w : World} {H M D : Nat} (hD : H + 1 ≠ D) (hD' : w.heap.size ≤ D) {A B : World} (h : LimVX w H M A) (hH : Held (fun i => i ≠ D) A B) : LimVX w H M B := by
  obtain ⟨h1, h2, h3, h4⟩ := h
  refine ⟨Nat.lt_of_lt_of_le h1 hH.size, h2.trans (hH.below h2.size fun i hi => by show i ≠ D; omega), ?_, h4⟩
  exact (hH.block (H + 1) (by omega) hD).trans h3

set_option maxRecDepth 100000 in
set_option maxHeartbeats 2000000 in
theorem implMaxV_any (t : Va) (w : World) (cs : List Value) (h : RVa w t cs) (hs : t.size ≤ 1048577) : Calls Tryz.prog 103 #[.agg cs.toArray] w (Truth (decide (t.size ≤ 2000)) w) := by
  obtain ⟨c0, c1, c2, c3, rfl⟩ := h.four
  obtain ⟨H, hH⟩ : ∃ H, w.heap.size = H := ⟨_, rfl⟩
  obtain ⟨W0, hW0⟩ : ∃ W0, ((((w.alloc (.cells #[c0, c1, c2, c3] 47)).alloc (.cells #[.bool false] 4)).alloc (.cells #[.int .i64 0] 3)).alloc (.cells #[c0, c1, c2, c3] 47)) = W0 := ⟨_, rfl⟩
  obtain ⟨W2, hW2⟩ : ∃ W2, (W0.alloc (.cells #[.slice (some ⟨H + 3, 0, none⟩) 1 1] 45)).alloc (.cells #[.func (.func 106) #[] #[]] 142) = W2 := ⟨_, rfl⟩
  have hz0 : W0.heap.size = H + 4 := by rw [← hW0, ← hH]; simp
  have hz2 : W2.heap.size = H + 6 := by rw [← hW2]; simp; omega
  have hb0 : Below w.heap.size w W0 := by rw [← hW0]; exact ((((Below.refl _ _).alloc (Nat.le_refl _) _).alloc (by simp) _).alloc (by simp; omega) _).alloc (by simp; omega) _
  have hb2 : Below w.heap.size w W2 := by rw [← hW2]; exact (hb0.alloc hb0.size _).alloc (by have := hb0.size; simp; omega) _
  have hbx : Boxed W2 (H + 4) 45 (.slice (some ⟨H + 3, 0, none⟩) 1 1) := by rw [← hW2, ← hz0]; exact (Boxed.new W0 _ _).alloc _
  have hbf : Boxed W2 (H + 5) 142 (.func (.func 106) #[] #[]) := by
    rw [← hW2, show H + 5 = W0.heap.size + 1 by omega]
    have := Boxed.new (W0.alloc (.cells #[.slice (some ⟨H + 3, 0, none⟩) 1 1] 45)) 142 (.func (.func 106) #[] #[])
    rw [World.size_alloc] at this
    exact this
  have hrow : Box4 W2 (H + 3) 47 c0 c1 c2 c3 := by
    rw [← hW2, ← hW0, ← hH]
    have := (Box4.new (((w.alloc (.cells #[c0, c1, c2, c3] 47)).alloc (.cells #[.bool false] 4)).alloc (.cells #[.int .i64 0] 3)) 47 c0 c1 c2 c3).alloc (.cells #[.slice (some ⟨w.heap.size + 3, 0, none⟩) 1 1] 45)
    simpa using this.alloc (.cells #[.func (.func 106) #[] #[]] 142)
  have hr0 : Boxed W2 (H + 1) 4 (.bool false) := by
    rw [← hW2, ← hW0, ← hH]
    have := (((Boxed.new (w.alloc (.cells #[c0, c1, c2, c3] 47)) 4 (.bool false)).alloc (.cells #[.int .i64 0] 3)).alloc (.cells #[c0, c1, c2, c3] 47)).alloc (.cells #[.slice (some ⟨w.heap.size + 3, 0, none⟩) 1 1] 45)
    simpa using this.alloc (.cells #[.func (.func 106) #[] #[]] 142)
  have hi0 : Boxed W2 (H + 2) 3 (.int .i64 0) := by
    rw [← hW2, ← hW0, ← hH]
    have := ((Boxed.new ((w.alloc (.cells #[c0, c1, c2, c3] 47)).alloc (.cells #[.bool false] 4)) 3 (.int .i64 0)).alloc (.cells #[c0, c1, c2, c3] 47)).alloc (.cells #[.slice (some ⟨w.heap.size + 3, 0, none⟩) 1 1] 45)
    simpa using this.alloc (.cells #[.func (.func 106) #[] #[]] 142)
  have hI0 : LimV w H t.size [([t], .slice (some ⟨H + 3, 0, none⟩) 1 1)] (fun b => b = H + 1 ∨ b = H + 2) W2 :=
    ⟨rfl, by omega, hb2, stkR_one h hrow, hr0, 0, by simp [sizesS, sizesV_one], by omega, hi0⟩
  have hL := valueLists_any W0 (some ⟨H + 3, 0, none⟩) 1 1
  rw [hz0] at hL
  have HL := Lib.hid hL
  have HW0 := Lib.hid hW0
  have HW2 := Lib.hid hW2
  have HB2 := Lib.hid hb2
  have HI0 := Lib.hid hI0
  have HH := Lib.hid hH
  have HZ2 := Lib.hid hz2
  have HT := Lib.hid h
  have HS := Lib.hid hs
  have HBX := Lib.hid hbx
  have HBF := Lib.hid hbf
  clear hL hW0 hW2 hb0 hb2 hI0 hi0 hr0 hH hz0 hz2 h hs hbx hbf hrow
  refine (callsIn_wide (n := 9)).1 ?_
  refine callsIn_of_wp_marks Tryz.func103 rfl trivial ?_ rfl
  simp only [Tryz.ntmps103, List.size_toArray, List.length_cons, List.length_nil, Nat.reduceAdd, Nat.reduceSub, Array.replicate_succ, Array.replicate_zero, List.push_toArray, List.append_toArray, List.nil_append, List.cons_append]
  have hHz := HH.out
  gi_wp2_with (refine ⟨trivial, ?_⟩; gi_at_call 95; rw [HW0.out]; refine (callsIn_wide.2 HL.out).mono ?_; rintro e W3 ⟨rfl, rfl⟩; rw [HW2.out])
  have hDz := HZ2.out
  refine wpIn_givesV (n := 9) (w := W2) rfl (by decide) (gf := 123) (lb := #[.pointer (some ⟨H + 4, 0, none⟩), .pointer (some ⟨H + 5, 0, none⟩)]) rfl trivial (enters_of Tryz.func123 (by kernel_rfl) rfl)
    (S0 := [([t], .slice (some ⟨H + 3, 0, none⟩) 1 1)]) (lo := H + 6) (Keep := fun q => q = H + 5) (by omega) (fun b hb => by omega) (fun W hW hz => ?gives)
    (LimV w H t.size) (LimVX w H t.size) (fun S F A C hi hh => hi.keep (by omega) (by omega) hh) (fun S F A hi b hb => by obtain ⟨rfl, h1, _⟩ := hi; have e : b = H + 1 ∨ b = H + 2 := hb; exact ⟨fun hk => by omega, by omega⟩) (fun A C hx hh => hx.keep (by omega) (by omega) hh) _ HI0.out
    (fun v => { tmps := #[.agg #[c0, c1, c2, c3], .pointer (some ⟨H, 0, none⟩), .pointer (some ⟨H + 1, 0, none⟩), .pointer (some ⟨H + 2, 0, none⟩), v, .agg #[c0, c1, c2, c3], .slice (some ⟨H + 3, 0, none⟩) 1 1, .func (.func 123) #[] #[.pointer (some ⟨H + 4, 0, none⟩), .pointer (some ⟨H + 5, 0, none⟩)], v, undef, undef, undef, undef, undef, undef], defers := [] }) ?assign ?body ?done ?stop
  case gives =>
    refine valueLists1_gives [t] _ 1 (H + 6) (9 - 1) (H + 4) (by decide) W (by have := hW.size; omega) (fun q => q = H + 5) rfl ((hW.block _ (by omega)).trans HBX.out) ((hW.block _ (by omega)).trans HBF.out) ?_
    have hss := HS.out
    rw [wS_cons]
    show 2 * sizesV [t] + 1 + wS [] ≤ _
    rw [sizesV_one]
    simp [wS]
    omega
  case assign =>
    intro l v W K hK
    gi_wp2
    exact hK
  case body =>
    rintro l ts s S F W ⟨rfl, hC, hB, hR, hbf, q, hq, hq2, hi⟩ _ _ _
    obtain ⟨A, c, hse, hts, _⟩ := hR _ (List.mem_cons_self ..)
    simp only at hse hts
    subst hse
    have hpush := sizesS_push ts (fun _ => undef) S (.slice A ts.length c)
    have hqm : q + ts.length ≤ 1048577 := by have := HS.out; omega
    obtain ⟨m, hmm⟩ : ∃ m, ts.length = m := ⟨_, rfl⟩
    have hc := hi.cell
    have hf := hi.frozen
    have hc1 := hbf.cell
    have hf1 := hbf.frozen
    have HF : Hid (q + m ≤ 2000 → ∀ v, v = Value.int .i64 ((q + m : Nat) : Int) → givesPostV (H + 6) (LimV w H t.size) (LimVX w H t.size) ts (.slice A m c) S (fun b => b = H + 1 ∨ b = H + 2) W .normal { tmps := #[], defers := [] } (W.setCell ⟨H + 2, 0, none⟩ v)) := by
      rintro hle v rfl
      have hset : Held (fun i => ¬ (i = H + 1 ∨ i = H + 2)) W (W.setCell ⟨H + 2, 0, none⟩ (.int .i64 ((q + m : Nat) : Int))) := Held.set W (fun h => h (.inr rfl)) _
      have hB' : Below w.heap.size w (W.setCell ⟨H + 2, 0, none⟩ (.int .i64 ((q + m : Nat) : Int))) := hB.setCell (p := ⟨H + 2, 0, none⟩) (by show w.heap.size ≤ H + 2; omega) _
      obtain ⟨As, hrow, hst⟩ := stkR_next (lo := H + 6) (F := fun b => b = H + 1 ∨ b = H + 2) (hR.held hset (fun b hb => by omega)) hB' (by omega) (by omega)
      rw [hmm] at hrow
      refine ⟨hset, As, fun b => b = H + 1 ∨ b = H + 2, fun b hb => .inl hb, hrow, rfl, by simpa [World.setCell] using hC, hB', hst, hbf.other (by omega) _, q + m, ?_, hle, hi.set _⟩
      have := sizesS_push ts As S (.slice A ts.length c)
      omega
    have HX : Hid (2000 < q + m → ∀ v, givesPostV (H + 6) (LimV w H t.size) (LimVX w H t.size) ts (.slice A m c) S (fun b => b = H + 1 ∨ b = H + 2) W .ret { tmps := #[], defers := [] } ((W.setCell ⟨H + 2, 0, none⟩ v).setCell ⟨H + 1, 0, none⟩ (.bool false))) := by
      intro hlt v
      refine ⟨(Held.set W (fun h => h (.inr rfl)) _).trans (Held.set _ (fun h => h (.inl rfl)) _), by simpa [World.setCell] using hC, ?_, ?_, by omega⟩
      · exact (hB.setCell (p := ⟨H + 2, 0, none⟩) (by show w.heap.size ≤ H + 2; omega) _).setCell (p := ⟨H + 1, 0, none⟩) (by show w.heap.size ≤ H + 1; omega) _
      · exact (hbf.other (by omega) _).set _
    rw [hmm] at hqm ⊢
    clear hi hR hq hpush hB hmm hts hbf
    by_cases hgt : (2000 : Int) < (q : Int) + (m : Int)
    · have HX2 := Lib.hid (HX.out (by omega))
      clear HX HF
      gi_wp2
      exact HX2.out _
    · have HF2 := Lib.hid (HF.out (by omega))
      clear HX HF
      gi_wp2
      exact HF2.out (.int .i64 ((q : Int) + (m : Int))) (by go_num)
  case done =>
    rintro F W ⟨rfl, hC, hB, hR, hbf, q, hq, hq2, hi⟩ hK
    have hqe : q = t.size := by simpa [sizesS] using hq
    have hTrue : decide (t.size ≤ 2000) = true := decide_eq_true (by omega)
    have hc := hbf.cell
    have hf := hbf.frozen
    have H3 := Lib.hid (hbf.set (.bool true))
    have HB := Lib.hid hB
    have hD : (W.setCell ⟨H + 1, 0, none⟩ (.bool true)).heap[W2.heap.size]? = some (.deferred (some [])) := (Below.heap_setCell _ _ _ _ (by show W2.heap.size ≠ H + 1; omega)).trans hK
    have HD := Lib.hid hD
    have HT2 := Lib.hid hTrue
    clear hi hR hq hB hbf hq2 hqe hTrue hD
    gi_wp2
    refine ⟨by simp, .inl ⟨_, _, rfl, run_takeDeferred HD.out, ?_⟩⟩
    have hb4 := (boxed_below H3.out (below_put (B := W2.heap.size) _ (l := W2.heap.size) (o := .deferred none) (Nat.le_refl _)) (by omega)).cell
    refine ⟨.bool true, ?_, by rw [HT2.out], (HB.out.setCell (p := ⟨H + 1, 0, none⟩) (by show w.heap.size ≤ H + 1; omega) _).trans (below_put _ (by omega))⟩
    simp [results, Tryz.f103, go_sem, hb4]
  case stop =>
    rintro W ⟨hC, hB, hbf, hor⟩ hK
    have hFalse : decide (t.size ≤ 2000) = false := decide_eq_false (by omega)
    have hb4 := (boxed_below hbf (below_put (B := W2.heap.size) _ (l := W2.heap.size) (o := .deferred none) (Nat.le_refl _)) (by omega)).cell
    have HB := Lib.hid hB
    have HT2 := Lib.hid hFalse
    have HC4 := Lib.hid hb4
    clear hbf hB hor hFalse hb4
    gi_wp2
    refine ⟨by simp, .inl ⟨_, _, rfl, run_takeDeferred hK, ?_⟩⟩
    have hb4 := HC4.out
    refine ⟨.bool false, ?_, by rw [HT2.out], HB.out.trans (below_put _ (by omega))⟩
    simp [results, Tryz.f103, go_sem, hb4]
end Go.Proofs.YtlikmgkjilmjpaaGreat

/-
  The program's areRecordLabels.
-/
namespace Go.Proofs.YtlikmgkjilmjpaaGreat
open Go.RowKit

theorem labB_no {ls : List ByteArray} (h : ls.length = 0 ∨ 4 < ls.length) : labB ls = false := by
  unfold labB
  rcases h with h | h
  · rw [decide_eq_false (p := 1 ≤ ls.length) (by omega)]; simp
  · rw [decide_eq_false (p := ls.length ≤ 4) (by omega)]; simp
theorem labB_yes {ls : List ByteArray} (h1 : 1 ≤ ls.length) (h4 : ls.length ≤ 4) : labB ls = (ascL ls && ls.all nameB) := by
  unfold labB
  rw [decide_eq_true h1, decide_eq_true h4, Bool.true_and, Bool.true_and, Bool.and_comm]

set_option maxRecDepth 100000 in
set_option maxHeartbeats 800000 in
theorem recLabels_any (L : Option Addr) (ls : List ByteArray) (c : Nat) (w : World) (h : Sl w L (ls.map Value.string)) (hn : ls.length ≤ 1048576) (hx : ∀ x ∈ ls, x.size ≤ 1048576) :
    Calls Tryz.prog 146 #[.slice L ls.length c] w (Truth (labB ls) w) := by
  have HA := Lib.hid (implAsc_any L c ls w h hn)
  have HE := Lib.hid (fun W (hB : Below w.heap.size w W) => everyName_any L c ls W (h.below hB) hn hx)
  obtain ⟨n, hnn⟩ : ∃ n, ls.length = n := ⟨_, rfl⟩
  clear h hx
  by_cases hno : ls.length = 0 ∨ 4 < ls.length
  · have HF : Hid (Truth (labB ls) w (.returned (.bool false)) w) := by rw [labB_no hno]; exact ⟨rfl, Below.refl _ _⟩
    rw [hnn] at hno ⊢
    clear hnn hn HA HE
    go_enter Tryz.func146, Tryz.ntmps146
    by_cases h0 : n = 0
    · subst h0
      clear hno
      go_wp2_with fail
      go_ret
      exact HF.out
    · have e0 : (0 : Int) < (n : Int) := by omega
      have e4 : ¬ (n : Int) ≤ 4 := by omega
      clear hno h0
      go_wp2_with fail
      go_ret
      exact HF.out
  · have h1 : 1 ≤ ls.length := by omega
    have h4 : ls.length ≤ 4 := by omega
    have hY := labB_yes h1 h4
    rw [hnn] at h1 h4 HA HE ⊢
    have e0 : (0 : Int) < (n : Int) := by omega
    have e4 : (n : Int) ≤ 4 := by omega
    have HY := Lib.hid hY
    clear hno h1 h4 hnn hn hY
    go_enter Tryz.func146, Tryz.ntmps146
    go_wp2_with fail
    refine HA.out.mono ?_
    rintro e w2 ⟨rfl, i, rfl⟩
    have hb2 : Below w.heap.size w (w.drewN i) := below_drewN (Below.refl _ _) i
    have HB2 := Lib.hid hb2
    clear hb2
    cases ha : ascL ls with
    | false =>
      have HF : Hid (Truth (labB ls) w (.returned (.bool false)) (w.drewN i)) := by rw [HY.out, ha]; exact ⟨rfl, HB2.out⟩
      clear ha
      go_wp2_with fail
      go_ret
      exact HF.out
    | true =>
      have HC := Lib.hid (HE.out (w.drewN i) HB2.out)
      have HF : Hid (labB ls = ls.all nameB) := by rw [HY.out, ha]; exact Bool.true_and _
      clear ha
      go_wp2_with fail
      refine HC.out.mono ?_
      rintro e w3 ⟨rfl, hb3⟩
      have HR : Hid (Truth (labB ls) w (.returned (.bool (ls.all nameB))) w3) := by rw [HF.out]; exact ⟨rfl, HB2.out.trans (hb3.mono HB2.out.size)⟩
      clear hb3
      generalize ls.all nameB = b at HR ⊢
      go_wp2_with fail
      go_ret
      exact HR.out
end Go.Proofs.YtlikmgkjilmjpaaGreat

/-
  The program's hasItsParts for records, over areRecordLabels.
-/
namespace Go.Proofs.YtlikmgkjilmjpaaGreat
open Go.RowKit

def recB (ls : List ByteArray) (m : Nat) : Bool := decide (m = ls.length) && labB ls

set_option maxRecDepth 100000 in
set_option maxHeartbeats 800000 in
theorem recParts (c0 : Value) (L A : Option Addr) (ls : List ByteArray) (c m d : Nat) (w : World) (h : Sl w L (ls.map Value.string)) (hn : ls.length ≤ 1048576) (hx : ∀ x ∈ ls, x.size ≤ 1048576) :
    Calls Tryz.prog 145 #[.agg #[c0, .slice L ls.length c, .slice A m d]] w (Truth (recB ls m) w) := by
  obtain ⟨W1, hW1⟩ : ∃ W1, w.alloc (.cells #[c0, .slice L ls.length c, .slice A m d] 145) = W1 := ⟨_, rfl⟩
  obtain ⟨H, hH⟩ : ∃ H, w.heap.size = H := ⟨_, rfl⟩
  have hb0 : Below w.heap.size w W1 := by rw [← hW1]; exact (Below.refl _ _).alloc (Nat.le_refl _) _
  have hbox : Box3 W1 H 145 c0 (.slice L ls.length c) (.slice A m d) := by rw [← hW1, ← hH]; exact Box3.new w _ _ _ _
  have HC := Lib.hid (recLabels_any L ls c W1 (h.below hb0) hn hx)
  have hrec : recB ls m = (labB ls && decide (ls.length = m)) := by
    unfold recB
    rw [Bool.and_comm]
    congr 1
    by_cases e : m = ls.length
    · rw [decide_eq_true e, decide_eq_true e.symm]
    · rw [decide_eq_false e, decide_eq_false (fun e2 => e e2.symm)]
  have HW1 := Lib.hid hW1
  have HB1 := Lib.hid hb0
  have BX := Lib.hid hbox
  have x1 := hbox.c1
  have x2 := hbox.c2
  generalize recB ls m = r at hrec ⊢
  generalize labB ls = lb at HC hrec
  generalize ls.length = n at HC hrec hW1 x1 BX HW1 hn ⊢
  have HN := Lib.hid hrec
  clear h hx hb0 hbox hW1 hrec hn
  cases lb with
  | false =>
    go_enter Tryz.func145, Tryz.ntmps145
    go_wp2_with fail
    rw [HW1.out]
    go_wp2_with fail
    refine HC.out.mono ?_
    rintro e w2 ⟨rfl, hb2⟩
    have HF : Hid (Truth r w (.returned (.bool false)) w2) := Lib.hid ⟨by rw [HN.out]; rfl, HB1.out.trans (hb2.mono HB1.out.size)⟩
    clear hb2 x1 x2
    go_wp2_with fail
    go_ret
    exact HF.out
  | true =>
    have HE : Hid (r = ((n : Int) == (m : Int))) := Lib.hid (by
      rw [HN.out, Bool.true_and]
      by_cases h : n = m
      · subst h; simp
      · have h' : (n : Int) ≠ (m : Int) := by omega
        rw [decide_eq_false h, beq_eq_false_iff_ne.2 h'])
    go_enter Tryz.func145, Tryz.ntmps145
    go_wp2_with fail
    rw [HW1.out]
    go_wp2_with fail
    refine HC.out.mono ?_
    rintro e w2 ⟨rfl, hb2⟩
    have HF : Hid (Truth r w (.returned (.bool ((n : Int) == (m : Int)))) w2) := Lib.hid ⟨by rw [HE.out], HB1.out.trans (hb2.mono HB1.out.size)⟩
    have b2 := BX.out.under hb2 BX.out.lt
    clear hb2 x1 x2
    have x1 := b2.c1
    have x2 := b2.c2
    clear b2
    go_wp2_with fail
    go_ret
    exact HF.out
end Go.Proofs.YtlikmgkjilmjpaaGreat
