/-
  Merged by program: EvDc, SchI.
-/
import Derived.Test.YtlcpekpgkllbkaaGreatN18
import Derived.Test.YtlcpekpgkllbkaaGreatN15
import Derived.Test.YtlcpekpgkllbkaaGreatN38
import Derived.Test.YtlcpekpgkllbkaaGreatN21
import Derived.Test.YtlcpekpgkllbkaaGreatN39
import Derived.Test.YtlcpekpgkllbkaaGreatN22

/-
  The program's isTableDecl, and every over it.
-/
namespace Go.Proofs.YtlcpekpgkllbkaaGreat
open Go.RowKit

set_option maxRecDepth 100000 in
set_option maxHeartbeats 1600000 in
theorem isDecl_any (x : Dc) (w : World) (cs : List Value) (h : kDc.R w x cs) (h1 : x.1.size ≤ 1048576) (h2 : wt x.2 ≤ 1048576) : Calls Tryz.prog 79 #[.agg cs.toArray] w (Truth (declB x) w) := by
  obtain ⟨tk, TL, TA, tl, tc, ta, td, rfl, hs, hy⟩ := kDc_open h
  obtain ⟨W1, hW1⟩ : ∃ W1, w.alloc (.cells #[.string x.1, .int .i64 tk, .slice TL tl tc, .slice TA ta td] 103) = W1 := ⟨_, rfl⟩
  obtain ⟨H, hH⟩ : ∃ H, w.heap.size = H := ⟨_, rfl⟩
  have hb1 : Below w.heap.size w W1 := by rw [← hW1]; exact (Below.refl _ _).alloc (Nat.le_refl _) _
  have hx := Box4.new w 103 (.string x.1) (.int .i64 tk) (.slice TL tl tc) (.slice TA ta td)
  rw [hW1, hH] at hx
  have HN := Lib.hid (implName_any x.1 W1 h1)
  have HR := Lib.hid (fun (W : World) (hB : Below w.heap.size w W) => implRow_any x.2 W _ (kTy.keep hy hB) h2)
  have HX := Lib.hid hx
  have HB1 := Lib.hid hb1
  have HW1 := Lib.hid hW1
  have HT : Hid (∀ b W, b = declB x → Below w.heap.size w W → Truth (declB x) w (.returned (.bool b)) W) := Lib.hid (fun b W hb hB => ⟨by rw [hb], hB⟩)
  have HD : Hid (declB x = (nameB x.1 && rowB x.2)) := Lib.hid rfl
  have y0 := hx.c0
  generalize declB x = dB at HT HD ⊢
  generalize x.1 = nm at *
  generalize x.2 = ty at *
  clear h hs hy hx hW1 hb1 h1 h2
  cases hn : nameB nm
  · rw [hn] at HN HD
    have HF := Lib.hid (fun W hB => HT.out false W (by rw [HD.out]; rfl) hB)
    clear HT hn HR
    go_enter Tryz.func79, Tryz.ntmps79
    go_wp2_with fail
    rw [HW1.out]
    go_wp2_with fail
    refine HN.out.mono ?_
    rintro e w2 ⟨rfl, hb2⟩
    have HB2 := Lib.hid (HB1.out.trans (hb2.mono HB1.out.size))
    clear hb2 y0
    go_wp2_with fail
    go_ret
    exact HF.out _ HB2.out
  · rw [hn] at HN HD
    have HF := Lib.hid (fun W hB => HT.out (rowB ty) W (by rw [HD.out]; rfl) hB)
    clear HT hn
    go_enter Tryz.func79, Tryz.ntmps79
    go_wp2_with fail
    rw [HW1.out]
    go_wp2_with fail
    refine HN.out.mono ?_
    rintro e w2 ⟨rfl, hb2⟩
    have HB2 := Lib.hid (HB1.out.trans (hb2.mono HB1.out.size))
    have x2 := HX.out.under hb2 HX.out.lt
    have z1 := x2.c1
    have z2 := x2.c2
    have z3 := x2.c3
    have HC := Lib.hid (HR.out w2 HB2.out)
    clear hb2 x2 y0
    go_wp2_with fail
    refine HC.out.mono ?_
    rintro e w3 ⟨rfl, hb3⟩
    have HB3 := Lib.hid (HB2.out.trans (hb3.mono HB2.out.size))
    clear hb3 HC z1 z2 z3
    go_wp2_with fail
    go_ret
    exact HF.out _ HB3.out

set_option maxRecDepth 100000 in
set_option maxHeartbeats 1600000 in
theorem everyDecl_any (t : Sc) (w : World) (A : Option Addr) (d : Nat) (hp : RL kDc w A t) (hl : t.length ≤ 9223372036854775807) (hw : wSc t ≤ 1048576) :
    Calls Tryz.prog 78 #[.slice A t.length d, .func (.func 79) #[] #[]] w (Truth (t.all declB) w) := by
  have HP := Lib.hid hp
  have HW := Lib.hid hw
  clear hp hw
  go_enter Tryz.func78, Tryz.ntmps78
  go_wp2_with fail
  go_loopw [9] (fun i wr => ∃ k : Nat, k ≤ t.length ∧ i = .int .i64 k ∧ (t.take k).all declB = true ∧ Below w.heap.size w wr) (fun i _ => t.length - (intOf i).toNat)
  case atStart => exact ⟨0, Nat.zero_le _, rfl, by simp, Below.refl _ _⟩
  case round =>
    obtain ⟨k, hk, rfl, hto, hb⟩ := hrel
    have HTO := Lib.hid hto
    have HB := Lib.hid hb
    clear hto
    by_cases hlt : k < t.length
    · obtain ⟨ad, p, c0, c1, c2, c3, rfl, hpe, hr, q0, q1, q2, q3⟩ := rl_at4 kDc_n HP.out hb hlt
      obtain ⟨tk, TL, TA, tl, tc, ta, td, hcs, hs, hy⟩ := kDc_open hr
      obtain ⟨hn1, hn2, _⟩ := dnm_bounds hlt HW.out
      injection hcs with e0 hcs
      injection hcs with e1 hcs
      injection hcs with e2 hcs
      injection hcs with e3 hcs
      subst e0 e1 e2 e3
      obtain ⟨W5, hW5⟩ : ∃ W5, wr.alloc (.cells #[.string t[k].1, .int .i64 tk, .slice TL tl tc, .slice TA ta td] 103) = W5 := ⟨_, rfl⟩
      have hb5 : Below wr.heap.size wr W5 := by rw [← hW5]; exact (Below.refl _ _).alloc (Nat.le_refl _) _
      have hx5 := Box4.new wr 103 (.string t[k].1) (.int .i64 tk) (.slice TL tl tc) (.slice TA ta td)
      rw [hW5] at hx5
      have HC := Lib.hid (isDecl_any t[k] W5 _ (kDc.keep hr hb5) hn1 hn2)
      have HW5 := Lib.hid hW5
      have HB5 := Lib.hid (HB.out.trans (hb5.mono HB.out.size))
      have y0 := hx5.c0
      have y1 := hx5.c1
      have y2 := hx5.c2
      have y3 := hx5.c3
      have HS := Lib.hid (fun hf => all_take (f := declB) HTO.out hlt hf)
      have HN := Lib.hid (fun hf => all_no (f := declB) hlt hf)
      obtain ⟨v, hv⟩ : ∃ v, declB t[k] = v := ⟨_, rfl⟩
      rw [hv] at HS HN HC
      generalize t[k].1 = nm at *
      clear hr hcs hs hy hb hb5 hW5 hx5 hv hn1 hn2
      go_wp2_with fail
      rw [HW5.out]
      go_wp2_with fail
      refine HC.out.mono ?_
      rintro e w6 ⟨rfl, hb6⟩
      have HB6 := Lib.hid (HB5.out.trans (hb6.mono HB5.out.size))
      clear hb6 y0 y1 y2 y3 HC
      cases v with
      | false =>
        have HF : Hid (Truth (t.all declB) w (.returned (.bool false)) w6) := by rw [HN.out rfl]; exact ⟨rfl, HB6.out⟩
        go_wp2_with fail
        go_ret
        exact HF.out
      | true =>
        have HT := Lib.hid (HS.out rfl)
        clear HS HN
        go_wp2_with fail
        go_roundw
        case rel => exact ⟨k + 1, hlt, by go_num, HT.out, HB6.out⟩
        case measure => simp [intOf]; omega
    · have he : k = t.length := by omega
      have HF : Hid (Truth (t.all declB) w (.returned (.bool true)) wr) := by
        have h1 := HTO.out
        rw [he, List.take_length] at h1
        rw [h1]
        exact ⟨rfl, HB.out⟩
      clear he hb
      go_wp2_with fail
      go_ret
      exact HF.out
end Go.Proofs.YtlcpekpgkllbkaaGreat

/-
  The program's IsSchema.
-/
namespace Go.Proofs.YtlcpekpgkllbkaaGreat
open Go.RowKit

set_option maxRecDepth 100000 in
set_option maxHeartbeats 3200000 in
theorem implSch_any (t : Sc) (w : World) (cs : List Value) (h : RSc w t cs) (hw : wSc t ≤ 1048576) : Calls Tryz.prog 25 #[.agg cs.toArray] w (Truth (schB t) w) := by
  obtain ⟨A, d, rfl, hl, hld, hp⟩ := h.open
  have hlen : t.length ≤ 1048576 := Nat.le_trans (len_wSc t) hw
  obtain ⟨W1, hW1⟩ : ∃ W1, w.alloc (.cells #[.slice A t.length d] 26) = W1 := ⟨_, rfl⟩
  obtain ⟨H, hH⟩ : ∃ H, w.heap.size = H := ⟨_, rfl⟩
  have hbox : Box1 W1 H 26 (.slice A t.length d) := by rw [← hW1, ← hH]; exact Box1.new w _ _
  have hb1 : Below w.heap.size w W1 := by rw [← hW1]; exact (Below.refl _ _).alloc (Nat.le_refl _) _
  have HN := Lib.hid (implDecl_any t W1 _ (h.keep hb1) hw)
  have HE := Lib.hid (fun (W : World) (hB : Below w.heap.size w W) => everyDecl_any t W A d (hp.keep hB) hl hw)
  have HT : Hid (∀ b W, b = (t.all declB && (decide (t.length ≤ 4) && ascL (namesOf t))) → Below w.heap.size w W → Truth (schB t) w (.returned (.bool b)) W) := Lib.hid (fun b W hb hB => ⟨by rw [hb]; rfl, hB⟩)
  have HB1 := Lib.hid hb1
  have HX := Lib.hid hbox
  have HW1 := Lib.hid hW1
  have HAS := Lib.hid (fun (V : Option Addr) (lc : Nat) (W : World) (h : Sl W V ((namesOf t).map Value.string)) => implAsc_any V lc (namesOf t) W h (by rw [namesOf_len]; omega))
  have x0 := hbox.c0
  clear h hp hld hW1 hbox hb1 hw
  by_cases h4 : (t.length : Int) ≤ 4
  rotate_left
  · have HF := Lib.hid (HT.out false W1 (by rw [decide_eq_false (by omega)]; simp) HB1.out)
    clear HT HE HN HAS
    go_enter Tryz.func25, Tryz.ntmps25
    go_wp2_with fail
    rw [HW1.out]
    go_wp2_with fail
    go_ret
    exact HF.out
  have HT4 := Lib.hid (fun b W (hb : b = (t.all declB && ascL (namesOf t))) hB => HT.out b W (by rw [hb, decide_eq_true (by omega)]; simp) hB)
  clear HT
  go_enter Tryz.func25, Tryz.ntmps25
  go_wp2_with fail
  rw [HW1.out]
  go_wp2_with fail
  refine HN.out.mono ?_
  rintro e w2 ⟨V, lc, rfl, hown, hb2⟩
  have hsl := Sl.of_own hown
  have HB2 := Lib.hid (HB1.out.trans (hb2.mono HB1.out.size))
  have HX2 := Lib.hid (HX.out.under hb2 HX.out.lt)
  have HC := Lib.hid (HAS.out V lc w2 hsl)
  generalize ascL (namesOf t) = asc at HC HT4
  generalize (namesOf t).length = nl at HC ⊢
  clear hown hsl hb2 x0 HAS HN
  cases asc
  · have HF := Lib.hid (fun W hB => HT4.out false W (by simp) hB)
    clear HT4 HE
    go_wp2_with fail
    refine HC.out.mono ?_
    rintro e w3 ⟨rfl, n, rfl⟩
    go_wp2_with fail
    go_ret
    exact HF.out _ (below_drewN HB2.out n)
  · have HF := Lib.hid (fun W hB => HT4.out (t.all declB) W (by simp) hB)
    clear HT4
    go_wp2_with fail
    refine HC.out.mono ?_
    rintro e w3 ⟨rfl, n, rfl⟩
    have hb3 : Below w.heap.size w (w2.drewN n) := below_drewN HB2.out n
    have x3 : (w2.drewN n).cell? ⟨H, 0, none⟩ = some (.slice A t.length d) := (HX2.out.under (below_drewN (Below.refl _ _) n) HX2.out.lt).c0
    have HC4 := Lib.hid (HE.out (w2.drewN n) hb3)
    have HB3 := Lib.hid hb3
    clear hb3 HC HE
    go_wp2_with fail
    refine HC4.out.mono ?_
    rintro e w4 ⟨rfl, hb4⟩
    have HB4 := Lib.hid (HB3.out.trans (hb4.mono HB3.out.size))
    clear hb4
    go_wp2_with fail
    go_ret
    exact HF.out _ HB4.out
end Go.Proofs.YtlcpekpgkllbkaaGreat
