/-
  Merged by program: EvTg, CtxI, CtxLaw.
-/
import Derived.Test.YtlikmgkjilmjpaaC29
import Derived.Test.YtlikmgkjilmjpaaC25
import Derived.Test.YtlikmgkjilmjpaaC30
import Derived.Test.YtlikmgkjilmjpaaC42
import Derived.Test.YtlikmgkjilmjpaaC15
import Derived.Test.YtlikmgkjilmjpaaC16
import Derived.Test.YtlikmgkjilmjpaaC17

/-
  The program's isTyping, and every over it.
-/
namespace Go.Proofs.Ytlikmgkjilmjpaa
open Go.RowKit

set_option maxRecDepth 100000 in
set_option maxHeartbeats 1600000 in
theorem isTyping_any (x : Tg) (w : World) (cs : List Value) (h : kTg.R w x cs) (h1 : x.1.size ≤ 1048576) (h2 : wt x.2 ≤ 1048576) : Calls Try.prog 70 #[.agg cs.toArray] w (Truth (tgB x) w) := by
  obtain ⟨tk, TL, TA, tl, tc, ta, td, rfl, hs, hy⟩ := kTg_open h
  obtain ⟨W1, hW1⟩ : ∃ W1, w.alloc (.cells #[.string x.1, .int .i64 tk, .slice TL tl tc, .slice TA ta td] 89) = W1 := ⟨_, rfl⟩
  obtain ⟨H, hH⟩ : ∃ H, w.heap.size = H := ⟨_, rfl⟩
  have hb1 : Below w.heap.size w W1 := by rw [← hW1]; exact (Below.refl _ _).alloc (Nat.le_refl _) _
  have hx := Box4.new w 89 (.string x.1) (.int .i64 tk) (.slice TL tl tc) (.slice TA ta td)
  rw [hW1, hH] at hx
  have HN := Lib.hid (implName_any x.1 W1 h1)
  have HR := Lib.hid (fun (W : World) (hB : Below w.heap.size w W) => implValid_any x.2 W _ (kTy.keep hy hB) h2)
  have HX := Lib.hid hx
  have HB1 := Lib.hid hb1
  have HW1 := Lib.hid hW1
  have HT : Hid (∀ b W, b = tgB x → Below w.heap.size w W → Truth (tgB x) w (.returned (.bool b)) W) := Lib.hid (fun b W hb hB => ⟨by rw [hb], hB⟩)
  have HD : Hid (tgB x = (nameB x.1 && validB x.2)) := Lib.hid rfl
  have y0 := hx.c0
  generalize tgB x = dB at HT HD ⊢
  generalize x.1 = nm at *
  generalize x.2 = ty at *
  clear h hs hy hx hW1 hb1 h1 h2
  cases hn : nameB nm
  · rw [hn] at HN HD
    have HF := Lib.hid (fun W hB => HT.out false W (by rw [HD.out]; rfl) hB)
    clear HT hn HR
    go_enter Try.func70, Try.ntmps70
    go_wp2_with fail
    rw [HW1.out]
    go_wp2_with fail
    refine HN.out.mono ?_
    rintro e w2 ⟨rfl, hb2⟩
    have HB2 := Lib.hid (HB1.out.trans (hb2.mono HB1.out.size))
    clear hb2 y0
    go_wp2_with fail
    go_ret
    exact HF.out _ HB2.out
  · rw [hn] at HN HD
    have HF := Lib.hid (fun W hB => HT.out (validB ty) W (by rw [HD.out]; rfl) hB)
    clear HT hn
    go_enter Try.func70, Try.ntmps70
    go_wp2_with fail
    rw [HW1.out]
    go_wp2_with fail
    refine HN.out.mono ?_
    rintro e w2 ⟨rfl, hb2⟩
    have HB2 := Lib.hid (HB1.out.trans (hb2.mono HB1.out.size))
    have x2 := HX.out.under hb2 HX.out.lt
    have z1 := x2.c1
    have z2 := x2.c2
    have z3 := x2.c3
    have HC := Lib.hid (HR.out w2 HB2.out)
    clear hb2 x2 y0
    go_wp2_with fail
    refine HC.out.mono ?_
    rintro e w3 ⟨rfl, hb3⟩
    have HB3 := Lib.hid (HB2.out.trans (hb3.mono HB2.out.size))
    clear hb3 HC z1 z2 z3
    go_wp2_with fail
    go_ret
    exact HF.out _ HB3.out

set_option maxRecDepth 100000 in
set_option maxHeartbeats 1600000 in
theorem everyTg_any (t : Cx) (w : World) (A : Option Addr) (d : Nat) (hp : RL kTg w A t) (hl : t.length ≤ 9223372036854775807) (hw : wL wTg t ≤ 1048576) :
    Calls Try.prog 69 #[.slice A t.length d, .func (.func 70) #[] #[]] w (Truth (t.all tgB) w) := by
  have HP := Lib.hid hp
  have HW := Lib.hid hw
  clear hp hw
  go_enter Try.func69, Try.ntmps69
  go_wp2_with fail
  go_loopw [9] (fun i wr => ∃ k : Nat, k ≤ t.length ∧ i = .int .i64 k ∧ (t.take k).all tgB = true ∧ Below w.heap.size w wr) (fun i _ => t.length - (intOf i).toNat)
  case atStart => exact ⟨0, Nat.zero_le _, rfl, by simp, Below.refl _ _⟩
  case round =>
    obtain ⟨k, hk, rfl, hto, hb⟩ := hrel
    have HTO := Lib.hid hto
    have HB := Lib.hid hb
    clear hto
    by_cases hlt : k < t.length
    · obtain ⟨ad, p, c0, c1, c2, c3, rfl, hpe, hr, q0, q1, q2, q3⟩ := rl_at4 kTg_n HP.out hb hlt
      obtain ⟨tk, TL, TA, tl, tc, ta, td, hcs, hs, hy⟩ := kTg_open hr
      obtain ⟨hn1, hn2, _⟩ := tg_bounds hlt HW.out
      injection hcs with e0 hcs
      injection hcs with e1 hcs
      injection hcs with e2 hcs
      injection hcs with e3 hcs
      subst e0 e1 e2 e3
      obtain ⟨W5, hW5⟩ : ∃ W5, wr.alloc (.cells #[.string t[k].1, .int .i64 tk, .slice TL tl tc, .slice TA ta td] 89) = W5 := ⟨_, rfl⟩
      have hb5 : Below wr.heap.size wr W5 := by rw [← hW5]; exact (Below.refl _ _).alloc (Nat.le_refl _) _
      have hx5 := Box4.new wr 89 (.string t[k].1) (.int .i64 tk) (.slice TL tl tc) (.slice TA ta td)
      rw [hW5] at hx5
      have HC := Lib.hid (isTyping_any t[k] W5 _ (kTg.keep hr hb5) hn1 hn2)
      have HW5 := Lib.hid hW5
      have HB5 := Lib.hid (HB.out.trans (hb5.mono HB.out.size))
      have y0 := hx5.c0
      have y1 := hx5.c1
      have y2 := hx5.c2
      have y3 := hx5.c3
      have HS := Lib.hid (fun hf => all_take (f := tgB) HTO.out hlt hf)
      have HN := Lib.hid (fun hf => all_no (f := tgB) hlt hf)
      obtain ⟨v, hv⟩ : ∃ v, tgB t[k] = v := ⟨_, rfl⟩
      rw [hv] at HS HN HC
      generalize t[k].1 = nm at *
      clear hr hcs hs hy hb hb5 hW5 hx5 hv hn1 hn2
      go_wp2_with fail
      rw [HW5.out]
      go_wp2_with fail
      refine HC.out.mono ?_
      rintro e w6 ⟨rfl, hb6⟩
      have HB6 := Lib.hid (HB5.out.trans (hb6.mono HB5.out.size))
      clear hb6 y0 y1 y2 y3 HC
      cases v with
      | false =>
        have HF : Hid (Truth (t.all tgB) w (.returned (.bool false)) w6) := by rw [HN.out rfl]; exact ⟨rfl, HB6.out⟩
        go_wp2_with fail
        go_ret
        exact HF.out
      | true =>
        have HT := Lib.hid (HS.out rfl)
        clear HS HN
        go_wp2_with fail
        go_roundw
        case rel => exact ⟨k + 1, hlt, by go_num, HT.out, HB6.out⟩
        case measure => simp [intOf]; omega
    · have he : k = t.length := by omega
      have HF : Hid (Truth (t.all tgB) w (.returned (.bool true)) wr) := by
        have h1 := HTO.out
        rw [he, List.take_length] at h1
        rw [h1]
        exact ⟨rfl, HB.out⟩
      clear he hb
      go_wp2_with fail
      go_ret
      exact HF.out
end Go.Proofs.Ytlikmgkjilmjpaa

/-
  The program's IsCtx.
-/
namespace Go.Proofs.Ytlikmgkjilmjpaa
open Go.RowKit

set_option maxRecDepth 100000 in
set_option maxHeartbeats 3200000 in
theorem implCtx_any (t : Cx) (w : World) (A : Option Addr) (d : Nat) (hp : RL kTg w A t) (hw : wL wTg t ≤ 1048576) : Calls Try.prog 33 #[.slice A t.length d] w (Truth (ctxB t) w) := by
  have hlen : t.length ≤ 1048576 := by unfold wL at hw; omega
  have HE := Lib.hid (everyTg_any t w A d hp (by omega) hw)
  have HD : Hid (ctxB t = (decide (t.length ≤ 16) && t.all tgB)) := Lib.hid rfl
  clear hp hw
  generalize ctxB t = cb at HD ⊢
  by_cases h4 : (t.length : Int) ≤ 16
  · have HF : Hid (∀ W, Below w.heap.size w W → Truth cb w (.returned (.bool (t.all tgB))) W) := Lib.hid (fun W hB => ⟨by rw [HD.out, decide_eq_true (by omega)]; simp, hB⟩)
    generalize t.all tgB = al at HE HF
    go_enter Try.func33, Try.ntmps33
    go_wp2_with fail
    refine HE.out.mono ?_
    rintro e w2 ⟨rfl, hb2⟩
    have HY := Lib.hid (HF.out w2 hb2)
    clear hb2
    go_wp2_with fail
    go_ret
    exact HY.out
  · have HF : Hid (Truth cb w (.returned (.bool false)) w) := Lib.hid ⟨by rw [HD.out, decide_eq_false (by omega)]; simp, Below.refl _ _⟩
    go_enter Try.func33, Try.ntmps33
    go_wp2_with fail
    go_ret
    exact HF.out
end Go.Proofs.Ytlikmgkjilmjpaa

/-
  The walk of laws.FnExactIsCtx.
-/
namespace Go.Proofs.Ytlikmgkjilmjpaa
open Go.RowKit

set_option maxRecDepth 100000 in
set_option maxHeartbeats 2000000 in
theorem ctx_law (A : Option Addr) (c : Nat) (t : Cx) (w : World) (hn : t.length ≤ 9223372036854775807) (h : RL kTg w A t) : Calls Try.prog 9 #[.slice A t.length c] w (LawYes w) := by
  have HSZ := Lib.hid (szTgS_any t w A c 1048576 h hn (by decide) (by decide))
  have HT := Lib.hid (fun W (hB : Below w.heap.size w W) => h.keep hB)
  have HN := Lib.hid hn
  clear h
  go_enter Try.func9, Try.ntmps9
  go_wp2_with fail
  refine HSZ.out.mono ?_
  rintro e w1 ⟨r, rfl, r1, r2, r3, hb1⟩
  have HB1 := Lib.hid hb1
  clear hb1 HSZ
  by_cases hr : r < 0
  · have HY : Hid (LawYes w (.returned (.bool true)) w1) := ⟨rfl, HB1.out⟩
    clear r3
    go_wp2_with fail
    go_ret
    exact HY.out
  have hw : wL wTg t ≤ 1048576 := by have := r3 (by omega); omega
  have hrr : 0 ≤ r := by omega
  have TO := Lib.hid (fun W (hB : Below w.heap.size w W) => toTgS_any t W A c (HT.out W hB) hw)
  have SP := Lib.hid (fun (W : World) (B : Option Addr) (d : Nat) (h : RL kTg W B t) => specCtx_any t W B d h hw)
  have IM := Lib.hid (fun (W : World) (B : Option Addr) (d : Nat) (h : RL kTg W B t) => implCtx_any t W B d h hw)
  have EQ := Lib.hid (fun (W : World) (B D : Option Addr) (b d : Nat) (h : RL kTg W B t) (h' : RL kTg W D t) => eqTgS_same t W B D b d h h' HN.out)
  clear r3 hw hr r1 r2 HT hn
  go_wp2_with fail
  refine (TO.out w1 HB1.out).mono ?_
  rintro e w2 ⟨A2, d2, fp2, rfl, ho2, hf2, hb2⟩
  have HB2 := Lib.hid (HB1.out.trans (hb2.mono HB1.out.size))
  have HC := Lib.hid (SP.out w2 A2 d2 (ol_rl ho2))
  clear ho2 hf2 hb2
  go_wp2_with fail
  refine HC.out.mono ?_
  rintro e w3 ⟨rfl, hb3⟩
  have HB3 := Lib.hid (HB2.out.trans (hb3.mono HB2.out.size))
  clear hb3 HC
  go_wp2_with fail
  refine (TO.out w3 HB3.out).mono ?_
  rintro e w4 ⟨A4, d4, fp4, rfl, ho4, hf4, hb4⟩
  have HB4 := Lib.hid (HB3.out.trans (hb4.mono HB3.out.size))
  have HC := Lib.hid (IM.out w4 A4 d4 (ol_rl ho4))
  have HO4 := Lib.hid (ol_rl ho4)
  clear ho4 hf4 hb4
  go_wp2_with fail
  refine HC.out.mono ?_
  rintro e w5 ⟨rfl, hb5⟩
  have HB5 := Lib.hid (HB4.out.trans (hb5.mono HB4.out.size))
  have HO5 := Lib.hid (HO4.out.keep hb5)
  clear hb5 HC
  go_wp2_with fail
  refine (TO.out w5 HB5.out).mono ?_
  rintro e w6 ⟨A6, d6, fp6, rfl, ho6, hf6, hb6⟩
  have HB6 := Lib.hid (HB5.out.trans (hb6.mono HB5.out.size))
  have HC := Lib.hid (EQ.out w6 A4 A6 d4 d6 (HO5.out.keep hb6) (ol_rl ho6))
  clear ho6 hf6 hb6
  go_wp2_with fail
  refine HC.out.mono ?_
  rintro e w7 ⟨rfl, hb7⟩
  have HY : Hid (LawYes w (.returned (.bool true)) w7) := ⟨rfl, HB6.out.trans (hb7.mono HB6.out.size)⟩
  clear hb7 HC
  go_wp2_with fail
  go_ret
  exact HY.out
end Go.Proofs.Ytlikmgkjilmjpaa
