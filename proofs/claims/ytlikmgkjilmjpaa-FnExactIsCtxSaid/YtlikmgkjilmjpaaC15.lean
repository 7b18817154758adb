/-
  Merged by program: SzTg.
-/
import Derived.Test.YtlikmgkjilmjpaaC14
import Derived.Test.YtlikmgkjilmjpaaC13

/-
  How great a Typing is, as the laws reckon it. Written by genpair.py.
-/
namespace Go.Proofs.Ytlikmgkjilmjpaa
open Go.RowKit

set_option maxHeartbeats 800000 in
theorem szTg_any (x : Tg) (w : World) (cs : List Value) (left : Int) (h : kTg.R w x cs) (h0 : 0 ≤ left) (h1 : left ≤ 1048576) : Calls Try.prog 65 #[.agg cs.toArray, .int .i64 left] w (SzV (wTg x) left w) := by
  obtain ⟨tk, TL, TA, tl, tc, ta, td, rfl, hs, hy⟩ := kTg_open h
  obtain ⟨W1, hW1⟩ : ∃ W1, w.alloc (.cells #[.string x.1, .int .i64 tk, .slice TL tl tc, .slice TA ta td] 86) = W1 := ⟨_, rfl⟩
  obtain ⟨H, hH⟩ : ∃ H, w.heap.size = H := ⟨_, rfl⟩
  have hbox : Box4 W1 H 86 (.string x.1) (.int .i64 tk) (.slice TL tl tc) (.slice TA ta td) := by rw [← hW1, ← hH]; exact Box4.new w _ _ _ _ _
  have hb0 : Below w.heap.size w W1 := by rw [← hW1]; exact (Below.refl _ _).alloc (Nat.le_refl _) _
  have HC := Lib.hid (fun (l : Int) (g0 : 0 ≤ l) (g1 : l ≤ 1048576) => szTy_K x.2 W1 _ l (kTy.keep hy hb0) g0 g1)
  have HW1 := Lib.hid hW1
  have HB0 := Lib.hid hb0
  have x0 := hbox.c0
  have x1 := hbox.c1
  have x2 := hbox.c2
  have x3 := hbox.c3
  have HWX : Hid (wTg x = x.1.size + wt x.2) := Lib.hid rfl
  generalize wTg x = wx at HWX ⊢
  generalize wt x.2 = wy at HWX HC
  generalize x.1 = nm at HWX HW1 hs x0 ⊢
  clear h hy hW1 hbox hb0
  by_cases hneg : left - nm.size < 0
  · go_enter Try.func65, Try.ntmps65
    go_wp2_with fail
    rw [HW1.out]
    go_wp2_with fail
    go_ret
    exact ⟨-1, rfl, by omega, by omega, by omega, HB0.out⟩
  · have HC1 := Lib.hid (HC.out (left - nm.size) (by omega) (by omega))
    go_enter Try.func65, Try.ntmps65
    go_wp2_with fail
    rw [HW1.out]
    go_wp2_with fail
    refine HC1.out.mono ?_
    rintro e w2 ⟨r, rfl, hs1, hs2, hs3, hb2⟩
    have HS3 := Lib.hid hs3
    have HB2 := Lib.hid (HB0.out.trans (hb2.mono HB0.out.size))
    clear hs3 hb2
    by_cases hz : r < 0
    · go_wp2_with fail
      go_ret
      exact ⟨-1, rfl, by omega, by omega, by omega, HB2.out⟩
    · go_wp2_with fail
      go_ret
      refine ⟨r, rfl, by omega, by omega, fun _ => ?_, HB2.out⟩
      have e2 := HS3.out (by omega)
      have e3 := HWX.out
      omega

set_option maxHeartbeats 800000 in
theorem szTgS_any (xs : List Tg) (w : World) (A : Option Addr) (d : Nat) (left : Int) (hp : RL kTg w A xs) (hl : xs.length ≤ 9223372036854775807) (h0 : 0 ≤ left) (h1 : left ≤ 1048576) :
    Calls Try.prog 30 #[.slice A xs.length d, .int .i64 left] w (SzV (wL wTg xs) left w) := by
  have HP := Lib.hid hp
  clear hp
  by_cases hneg : left - xs.length < 0
  · go_enter Try.func30, Try.ntmps30
    go_wp2_with fail
    go_ret
    exact ⟨-1, rfl, by omega, by omega, by omega, Below.refl _ _⟩
  · go_enter Try.func30, Try.ntmps30
    go_wp2_with fail
    go_loopw [1, 5] (fun l i wr => ∃ k : Nat, k ≤ xs.length ∧ i = .int .i64 k ∧ ∃ r : Int, l = .int .i64 r ∧ 0 ≤ r ∧ r + xs.length + ((xs.take k).map wTg).sum = left ∧ Below w.heap.size w wr) (fun _ i _ => xs.length - (intOf i).toNat)
    case atStart => exact ⟨0, Nat.zero_le _, rfl, _, rfl, by omega, by simp, Below.refl _ _⟩
    case round =>
      obtain ⟨k, hk, rfl, r, rfl, hr0, hr, hb⟩ := hrel
      have hr1 : r ≤ 1048576 := by omega
      have HR := Lib.hid hr
      clear hr
      by_cases hlt : k < xs.length
      · obtain ⟨ad, p, c0, c1, c2, c3, rfl, hpe, hrt, q0, q1, q2, q3⟩ := rl_at4 kTg_n HP.out hb hlt
        have hst := sum_take_succ wTg xs k hlt
        have hc := szTg_any xs[k] wr [c0, c1, c2, c3] r hrt hr0 hr1
        obtain ⟨m, hm⟩ : ∃ m, wTg xs[k] = m := ⟨_, rfl⟩
        rw [hm] at hst hc
        have HC := Lib.hid hc
        have HST := Lib.hid hst
        clear hc hrt hst hm
        go_wp2_with fail
        refine HC.out.mono ?_
        rintro e w2 ⟨r', rfl, hr2, hr3, hr4, hb2⟩
        have HB3 := Lib.hid (hb.trans (hb2.mono hb.size))
        have HR4 := Lib.hid hr4
        clear hr4 hb2
        by_cases hz : r' < 0
        · go_wp2_with fail
          go_ret
          exact ⟨-1, rfl, by omega, by omega, by omega, HB3.out⟩
        · go_wp2_with fail
          go_roundw
          case rel => exact ⟨k + 1, hlt, by go_num, r', rfl, by omega, by have h1 := HR4.out (by omega); have h2 := HR.out; have h3 := HST.out; omega, HB3.out⟩
          case measure => simp [intOf]; omega
      · have he : k = xs.length := by omega
        have HS : Hid (r + wL wTg xs = left) := by
          have h := HR.out
          rw [he, List.take_length] at h
          show _ = _
          unfold wL
          omega
        clear he
        go_wp2_with fail
        go_ret
        exact ⟨r, rfl, by have := HR.out; omega, by omega, fun _ => HS.out, hb⟩
end Go.Proofs.Ytlikmgkjilmjpaa
