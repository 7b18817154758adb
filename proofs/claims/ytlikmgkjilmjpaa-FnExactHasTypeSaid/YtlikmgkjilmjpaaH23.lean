/-
  Merged by program: HasE, SEq.
-/
import Derived.Test.YtlikmgkjilmjpaaH19
import Derived.Test.YtlikmgkjilmjpaaH22
import Derived.Test.YtlikmgkjilmjpaaH18
import Derived.StillTailTactics
import Derived.Test.YtlikmgkjilmjpaaH11
import Derived.Deep.RegionHeld3

/-
  The library's slices.EqualFunc at a list of values and one of types; the program's every, at a list of values.
-/
namespace Go.Proofs.Ytlikmgkjilmjpaa
open Go.RowKit

/-- the program's isOfType, at a value -/
def OfK (v : Va) : Prop := ∀ (t : Ty) (w : World) (cs ds : List Value), DatT t → RVa w v cs → RTy w t ds → Calls Try.prog 49 #[.agg cs.toArray, .agg ds.toArray] w (Truth (hasT t v) w)

theorem RTy.shape3 {w : World} {t : Ty} {c0 c1 c2 : Value} (h : RTy w t [c0, c1, c2]) : ∃ q L n c A m d, c0 = .int .i64 q ∧ c1 = .slice L n c ∧ c2 = .slice A m d := by
  cases t with
  | node a ks =>
    obtain ⟨L, c, A, d, he, _⟩ := h.out
    injection he with e0 he
    injection he with e1 he
    injection he with e2 _
    exact ⟨_, _, _, _, _, _, _, e0, e1, e2⟩

set_option maxHeartbeats 1600000 in
set_option maxRecDepth 100000 in
theorem eqFuncV_any (ks : List Va) (js : List Ty) (ih : ∀ x ∈ ks, OfK x) (hd : ∀ t ∈ js, DatT t) (w : World) (A B : Option Addr) (c d : Nat) (h : RVas w A ks) (h' : RKids w B js) (hl : ks.length ≤ 9223372036854775807) :
    Calls Try.prog 82 #[.slice A ks.length c, .slice B js.length d, .func (.func 49) #[] #[]] w (Truth (hasTs js ks) w) := by
  obtain ⟨N, hN⟩ : ∃ N, hasTs js ks = N := ⟨_, rfl⟩
  by_cases hlen : ks.length = js.length
  · have HP := Lib.hid h
    have HQ := Lib.hid h'
    have HL := Lib.hid hlen
    have HI := Lib.hid ih
    have HD := Lib.hid hd
    have HREST : Hid (N = hasTs js ks) := hN.symm
    rw [← hlen, hN]
    clear h h' hlen ih hd hN
    go_enter Try.func82, Try.ntmps82
    go_wp2_with fail
    go_loopw [17] (fun i wr => ∃ k : Nat, k ≤ ks.length ∧ i = .int .i64 k ∧ N = hasTs (js.drop k) (ks.drop k) ∧ Below w.heap.size w wr) (fun i _ => ks.length - (intOf i).toNat)
    case atStart => exact ⟨0, Nat.zero_le _, rfl, HREST.out, Below.refl _ _⟩
    case round =>
      obtain ⟨k, hk, rfl, hno, hb⟩ := hrel
      have HB := Lib.hid hb
      by_cases hlt : k < ks.length
      · have hlt2 : k < js.length := by have := HL.out; omega
        obtain ⟨ad, p, c0, c1, c2, c3, rfl, hpe, hr, q0, q1, q2, q3⟩ := vid_at HP.out hb hlt
        obtain ⟨bd, p', d0, d1, d2, rfl, hpe', hr', q0', q1', q2'⟩ := kid_at HQ.out hb hlt2
        obtain ⟨u0, u1, u2, u3, u4, u5, u6, u7, rfl, rfl, rfl, rfl⟩ := hr.shape
        obtain ⟨v0, v1, v2, v3, v4, v5, v6, rfl, rfl, rfl⟩ := hr'.shape3
        obtain ⟨W5, hW5⟩ : ∃ W5, (wr.alloc (.cells #[.int .i64 u0, .int .i64 u1, .slice u2 u3 u4, .slice u5 u6 u7] 30)).alloc (.cells #[.int .i64 v0, .slice v1 v2 v3, .slice v4 v5 v6] 41) = W5 := ⟨_, rfl⟩
        have hb5 : Below wr.heap.size wr W5 := by rw [← hW5]; exact (below_box _ _ _).alloc (by simp) _
        have HC := Lib.hid (HI.out ks[k] (List.getElem_mem hlt) js[k] W5 _ _ (HD.out _ (List.getElem_mem hlt2)) (hr.keep hb5) (RTy.keep hr' hb5))
        have HW5 := Lib.hid hW5
        have HB5 := Lib.hid (hb.trans (hb5.mono hb.size))
        have HNO : Hid (N = (hasT js[k] ks[k] && hasTs (js.drop (k + 1)) (ks.drop (k + 1)))) := by rw [hasTs_step hlt2 hlt] at hno; exact hno
        obtain ⟨v, hv⟩ : ∃ v, hasT js[k] ks[k] = v := ⟨_, rfl⟩
        rw [hv] at HNO HC
        have hbA : Below wr.heap.size wr (wr.alloc (.cells #[.int .i64 u0, .int .i64 u1, .slice u2 u3 u4, .slice u5 u6 u7] 30)) := below_box _ _ _
        have s0 := (hbA.cell (World.block_lt_of_cell? wr _ q0')).trans q0'
        have s1 := (hbA.cell (World.block_lt_of_cell? wr _ q1')).trans q1'
        have s2 := (hbA.cell (World.block_lt_of_cell? wr _ q2')).trans q2'
        clear hr hr' hb5 hW5 hv hlt2 hbA q0' q1' q2' hno hb HB
        go_wp2_with fail
        rw [HW5.out]
        refine HC.out.mono ?_
        rintro e w6 ⟨rfl, hb6⟩
        have HB6 := Lib.hid (HB5.out.trans (hb6.mono HB5.out.size))
        clear hb6 HC
        cases v with
        | false =>
          have HF : Hid (Truth N w (.returned (.bool false)) w6) := truth_iff (by rw [HNO.out]; rfl) HB6.out
          go_wp2_with fail
          go_ret
          exact HF.out
        | true =>
          have HT : Hid (N = hasTs (js.drop (k + 1)) (ks.drop (k + 1))) := by show _ = _; rw [HNO.out]; rfl
          clear HNO
          go_wp2_with fail
          go_roundw
          case rel => exact ⟨k + 1, hlt, by go_num, HT.out, HB6.out⟩
          case measure => simp [intOf]; omega
      · have he : k = ks.length := by omega
        have HF : Hid (Truth N w (.returned (.bool true)) wr) := truth_iff (by rw [hno, hasTs_end (by have := HL.out; omega) (by omega)]) hb
        clear he hno hb
        go_wp2_with fail
        go_ret
        exact HF.out
  · have hNF : hasTs js ks = false := Bool.eq_false_iff.2 (fun h => hlen (hasTs_len h).symm)
    have HF : Hid (Truth (hasTs js ks) w (.returned (.bool false)) w) := truth_iff hNF (Below.refl _ _)
    have hne : ((ks.length : Int) == (js.length : Int)) = false := by
      have : (ks.length : Int) ≠ (js.length : Int) := by omega
      exact beq_eq_false_iff_ne.2 this
    clear hNF hN
    generalize ks.length = n1 at hlen hne hl ⊢
    generalize js.length = n2 at hlen hne ⊢
    clear hlen h h' ih hd
    go_enter Try.func82, Try.ntmps82
    go_wp2_with fail
    go_ret
    exact HF.out

set_option maxHeartbeats 800000 in
set_option maxRecDepth 100000 in
/-- the closure, over a variable at block P that holds the bag's type -/
theorem ofType1_any (x : Va) (j : Ty) (ih : OfK x) (hd : DatT j) (w : World) (P : Nat) (cs : List Value) (u0 u1 : Value) (B : Option Addr) (d : Nat) (h : RVa w x cs) (h' : RKids w B [j]) (hbx : Box3 w P 105 u0 u1 (.slice B 1 d)) :
    Calls Try.prog 85 #[.agg cs.toArray, .pointer (some ⟨P, 0, none⟩)] w (Truth (hasT j x) w) := by
  obtain ⟨c0, c1, c2, c3, rfl⟩ := h.four
  obtain ⟨W1, hW1⟩ : ∃ W1, w.alloc (.cells #[c0, c1, c2, c3] 30) = W1 := ⟨_, rfl⟩
  obtain ⟨H, hH⟩ : ∃ H, w.heap.size = H := ⟨_, rfl⟩
  have hb1 : Below w.heap.size w W1 := by rw [← hW1]; exact below_box _ _ _
  have b0 : Box4 W1 H 30 c0 c1 c2 c3 := by rw [← hW1, ← hH]; exact Box4.new w _ _ _ _ _
  obtain ⟨bd, p2, d0, d1, d2, rfl, hpe, hr', q0', q1', q2'⟩ := kid_at h' hb1 (k := 0) (by simp)
  rw [Nat.zero_mul] at hpe
  have hpe2 : bd = p2 := by rw [← hpe]; rfl
  subst hpe2
  have hdr : Below W1.heap.size W1 W1.drew := (Below.refl _ _).drew
  have HC := Lib.hid (ih j W1.drew _ _ hd (h.keep (hb1.trans (hdr.mono hb1.size))) (RTy.keep hr' hdr))
  have HB1 := Lib.hid (hb1.trans (hdr.mono hb1.size))
  have HW1 := Lib.hid hW1
  have x0 := b0.c0
  have x1 := b0.c1
  have x2 := b0.c2
  have x3 := b0.c3
  have y2 := (hbx.under hb1 hbx.lt).c2
  clear h h' ih hd hr' hpe hb1 hdr b0 hbx hW1
  go_enter Try.func85, Try.ntmps85
  go_wp2_with fail
  rw [HW1.out]
  go_wp2_with fail
  go_still_tail 5, (by kernel_rfl)
  change wpList _ _ _ _ _ W1.drew
  go_wp2_with fail
  refine HC.out.mono ?_
  rintro e w3 ⟨rfl, hb3⟩
  have HR : Hid (Truth (hasT j x) w (.returned (.bool (hasT j x))) w3) := truth_iff rfl (HB1.out.trans (hb3.mono HB1.out.size))
  clear hb3
  go_wp2_with fail
  go_ret
  exact HR.out

set_option maxHeartbeats 800000 in
set_option maxRecDepth 100000 in
theorem everyV_any (ks : List Va) (j : Ty) (ih : ∀ x ∈ ks, OfK x) (hd : DatT j) (w : World) (P : Nat) (u0 u1 : Value) (A B : Option Addr) (c d : Nat) (h : RVas w A ks) (h' : RKids w B [j]) (hbx : Box3 w P 105 u0 u1 (.slice B 1 d)) (hl : ks.length ≤ 9223372036854775807) :
    Calls Try.prog 84 #[.slice A ks.length c, .func (.func 85) #[] #[.pointer (some ⟨P, 0, none⟩)]] w (Truth (ks.all fun x => hasT j x) w) := by
  obtain ⟨N, hN⟩ : ∃ N, (ks.all fun x => hasT j x) = N := ⟨_, rfl⟩
  have HP := Lib.hid h
  have HQ := Lib.hid h'
  have HI := Lib.hid ih
  have HD := Lib.hid hd
  have HX := Lib.hid hbx
  have HREST : Hid (N = ks.all fun x => hasT j x) := hN.symm
  rw [hN]
  clear h h' ih hd hN hbx
  go_enter Try.func84, Try.ntmps84
  go_wp2_with fail
  go_loopw [9] (fun i wr => ∃ k : Nat, k ≤ ks.length ∧ i = .int .i64 k ∧ N = (ks.drop k).all (fun x => hasT j x) ∧ Below w.heap.size w wr) (fun i _ => ks.length - (intOf i).toNat)
  case atStart => exact ⟨0, Nat.zero_le _, rfl, HREST.out, Below.refl _ _⟩
  case round =>
    obtain ⟨k, hk, rfl, hno, hb⟩ := hrel
    by_cases hlt : k < ks.length
    · obtain ⟨ad, p, c0, c1, c2, c3, rfl, hpe, hr, q0, q1, q2, q3⟩ := vid_at HP.out hb hlt
      obtain ⟨e0, e1, e2, e3, e4, e5, e6, e7, rfl, rfl, rfl, rfl⟩ := hr.shape
      obtain ⟨W5, hW5⟩ : ∃ W5, wr.alloc (.cells #[.int .i64 e0, .int .i64 e1, .slice e2 e3 e4, .slice e5 e6 e7] 30) = W5 := ⟨_, rfl⟩
      have hb5 : Below wr.heap.size wr W5 := by rw [← hW5]; exact below_box _ _ _
      have hbb := hb.trans (hb5.mono hb.size)
      have hx5 := Box4.new wr 30 (.int .i64 e0) (.int .i64 e1) (.slice e2 e3 e4) (.slice e5 e6 e7)
      rw [hW5] at hx5
      have HC := Lib.hid (ofType1_any ks[k] j (HI.out _ (List.getElem_mem hlt)) HD.out W5 P _ u0 u1 B d (hr.keep hb5) (HQ.out.keep hbb) (HX.out.under hbb HX.out.lt))
      have HW5 := Lib.hid hW5
      have HB5 := Lib.hid hbb
      have HNO : Hid (N = (hasT j ks[k] && (ks.drop (k + 1)).all (fun x => hasT j x))) := by
        show _ = _
        rw [hno, List.drop_eq_getElem_cons hlt, List.all_cons]
      obtain ⟨v, hv⟩ : ∃ v, hasT j ks[k] = v := ⟨_, rfl⟩
      rw [hv] at HNO HC
      have y0 := hx5.c0
      have y1 := hx5.c1
      have y2 := hx5.c2
      have y3 := hx5.c3
      clear hr hb5 hbb hW5 hv hno hb hx5
      go_wp2_with fail
      rw [HW5.out]
      go_wp2_with fail
      refine HC.out.mono ?_
      rintro e w6 ⟨rfl, hb6⟩
      have HB6 := Lib.hid (HB5.out.trans (hb6.mono HB5.out.size))
      clear hb6 HC y0 y1 y2 y3
      cases v with
      | false =>
        have HF : Hid (Truth N w (.returned (.bool false)) w6) := truth_iff (by rw [HNO.out]; rfl) HB6.out
        go_wp2_with fail
        go_ret
        exact HF.out
      | true =>
        have HT : Hid (N = (ks.drop (k + 1)).all (fun x => hasT j x)) := by show _ = _; rw [HNO.out]; rfl
        clear HNO
        go_wp2_with fail
        go_roundw
        case rel => exact ⟨k + 1, hlt, by go_num, HT.out, HB6.out⟩
        case measure => simp [intOf]; omega
    · have he : k = ks.length := by omega
      have HF : Hid (Truth N w (.returned (.bool true)) wr) := truth_iff (by rw [hno, List.drop_eq_nil_of_le (by omega)]; rfl) hb
      clear he hno hb
      go_wp2_with fail
      go_ret
      exact HF.out
end Go.Proofs.Ytlikmgkjilmjpaa

/-
  The library's slices.Equal at lists of strings.
-/
namespace Go.Proofs.Ytlikmgkjilmjpaa
open Go.RowKit

set_option maxHeartbeats 800000 in
set_option maxRecDepth 100000 in
theorem sEq_any (A B : Option Addr) (c d : Nat) (xs ys : List ByteArray) (w : World) (hA : Sl w A (xs.map Value.string)) (hB : Sl w B (ys.map Value.string)) (hn : xs.length ≤ 9223372036854775807) :
    Calls Try.prog 81 #[.slice A xs.length c, .slice B ys.length d] w (Tells (same xs ys) w) := by
  by_cases hl : xs.length = ys.length
  · have HL := Lib.hid hl
    rw [← hl]
    clear hl
    go_enter Try.func81, Try.ntmps81
    go_wp2_with fail
    go_loopw [13] (fun i wr => ∃ k : Nat, k ≤ xs.length ∧ i = .int .i64 k ∧ EqTo xs ys k ∧ ∃ n, wr = w.drewN n) (fun i _ => xs.length - (intOf i).toNat)
    case atStart => exact ⟨0, Nat.zero_le _, rfl, eqTo_zero _ _, 0, rfl⟩
    case round =>
      obtain ⟨k, hk, rfl, hno, n, rfl⟩ := hrel
      by_cases hlt : k < xs.length
      · have hlt2 : k < ys.length := by have := HL.out; omega
        obtain ⟨ad, rfl, hc⟩ := hA k (.string xs[k]) (by simp [hlt])
        obtain ⟨bd, rfl, hd⟩ := hB k (.string ys[k]) (by simp [hlt2])
        by_cases hx : xs[k] = ys[k]
        · have HN := Lib.hid (eqTo_succ hno hlt hlt2 hx)
          rw [← hx] at hd
          clear hx hno
          go_wp2
          go_quiet (fail)
          go_wp2
          go_roundw
          case rel => exact ⟨k + 1, by omega, by go_num, HN.out, _, rfl⟩
          case measure => simp [intOf]; omega
        · have HR := Lib.hid (same_no (ne_at hlt hlt2 hx))
          have hb := (Lib.bytes_beq_false_iff xs[k] ys[k]).2 hx
          clear hx hno
          go_wp2
          go_quiet (fail)
          go_wp2
          go_ret
          exact ⟨ret_bool HR.out.symm, _, World.drewN_drewN _ _ _⟩
      · have he : k = xs.length := by omega
        have HR := Lib.hid (same_yes (eqTo_all (he ▸ hno) HL.out))
        clear he hno
        go_wp2_with fail
        go_ret
        exact ⟨ret_bool HR.out.symm, n, rfl⟩
  · have HR := Lib.hid (same_no (x := xs) (y := ys) (fun e => hl (by rw [e])))
    go_enter Try.func81, Try.ntmps81
    go_wp2_with fail
    go_ret
    exact ⟨ret_bool HR.out.symm, 0, rfl⟩
end Go.Proofs.Ytlikmgkjilmjpaa
