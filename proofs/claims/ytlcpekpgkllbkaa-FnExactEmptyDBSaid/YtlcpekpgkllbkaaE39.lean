/-
  Merged by program: EmpI, SzDc.
-/
import Derived.Test.YtlcpekpgkllbkaaE37
import Derived.Test.YtlcpekpgkllbkaaE38
import Derived.Test.YtlcpekpgkllbkaaE12
import Derived.Test.YtlcpekpgkllbkaaE11

/-
  The program's EmptyDB.
-/
namespace Go.Proofs.Ytlcpekpgkllbkaa
open Go.RowKit

/-- what the loop keeps -/
def EmpInv (t : Sc) (W0 w2 : World) (g b0 : Nat) (i : Value) (wr : World) : Prop :=
  ∃ (k : Nat) (A : Option Addr) (d : Nat) (cells : List Value) (fs : Nat → List Nat) (fp : List Nat), k ≤ t.length ∧ i = .int .i64 (k : Int) ∧ ApF kDd 86 51 (emptyD t) W0 g k A d cells fs fp wr ∧ (∀ b ∈ fp, b0 ≤ b) ∧ Held (fun i => i < b0 ∧ i ≠ g) w2 wr

set_option maxRecDepth 100000 in
set_option maxHeartbeats 4000000 in
theorem implEmpty_any (t : Sc) (w : World) (cs : List Value) (h : RSc w t cs) (hw : wSc t ≤ 1048576) : Calls Try.prog 30 #[.agg cs.toArray] w (MadeDb (emptyD t) w) := by
  obtain ⟨i1, hi1, hy0, hy1, hy2⟩ := info_parts infoDd
  obtain ⟨A, c, rfl, hl, hld, hp⟩ := h.open
  have hlen : t.length ≤ 1048576 := Nat.le_trans (len_wSc t) hw
  obtain ⟨W0, hW0⟩ : ∃ W0, (w.alloc (.cells #[.slice A t.length c] 29)).alloc (.cells #[.slice none 0 0] 51) = W0 := ⟨_, rfl⟩
  obtain ⟨W1, hW1⟩ : ∃ W1, W0.alloc (.cells #[.slice none 0 0] 51) = W1 := ⟨_, rfl⟩
  obtain ⟨H, hH⟩ : ∃ H, w.heap.size = H := ⟨_, rfl⟩
  have b0 : Box1 W0 H 29 (.slice A t.length c) := by rw [← hW0, ← hH]; exact (Box1.new w _ _).alloc _
  have b1 : Box1 W0 (H + 1) 51 (.slice none 0 0) := by
    rw [← hW0, ← hH]
    have := Box1.new (w.alloc (.cells #[.slice A t.length c] 29)) 51 (.slice none 0 0)
    simpa using this
  have hs0 : W0.heap.size = H + 1 + 1 := by rw [← hW0, ← hH]; simp
  have hs1 : W1.heap.size = H + 1 + 1 + 1 := by rw [← hW1]; simp; omega
  have b2 : Box1 W1 (H + 1 + 1) 51 (.slice none 0 0) := by rw [← hW1, ← hs0]; exact Box1.new W0 _ _
  have hb0 : Below w.heap.size w W0 := by rw [← hW0]; exact ((Below.refl _ _).alloc (Nat.le_refl _) _).alloc (by simp) _
  have hb01 : Below W0.heap.size W0 W1 := by rw [← hW1]; exact (Below.refl _ _).alloc (Nat.le_refl _) _
  have hb1 := hb0.trans (hb01.mono hb0.size)
  have HR1 := Lib.hid (fun (W : World) (hB : Below W0.heap.size W0 W) => b1.under hB b1.lt)
  have HB0 := Lib.hid hb0
  have HB01 := Lib.hid hb01
  have HS0 := Lib.hid hs0
  have HS1 := Lib.hid hs1
  have HH := Lib.hid hH
  have HWT := Lib.hid hw
  have HW0 := Lib.hid hW0
  have HW1 := Lib.hid hW1
  have B2 := Lib.hid b2
  have HN := Lib.hid (implDecl_any t W1 _ (h.keep hb1) hw)
  have x0 := (b0.under hb01 b0.lt).c0
  clear h hp hW0 hW1 b0 b1 b2 hb0 hb01 hb1 hs0 hs1 hw hld
  go_enter Try.func30, Try.ntmps30
  go_wp2_with fail
  rw [HW0.out, HW1.out]
  refine HN.out.mono ?_
  rintro e w2 ⟨V, lc, rfl, hown, hb2⟩
  rw [namesOf_len] at hown ⊢
  have hV : ∀ b, (Value.slice V t.length lc).ownBlock = some b → W1.heap.size ≤ b ∧ b < w2.heap.size := fun b hb => hown.lt b hb
  obtain ⟨bb, hbb⟩ : ∃ bb, w2.heap.size = bb := ⟨_, rfl⟩
  have HOWN := Lib.hid hown
  have HV := Lib.hid hV
  have HB2 := Lib.hid (HB01.out.trans (hb2.mono HB01.out.size))
  have HBB := Lib.hid hbb
  have HI0 : Hid (EmpInv t W0 w2 (H + 1 + 1) bb (.int .i64 0) w2) := Lib.hid ⟨0, none, 0, [], fun _ => [], [], Nat.zero_le _, rfl, apF_zero kDd _ _ _ (B2.out.under hb2 B2.out.lt) (by have := HS0.out; omega) HB2.out, fun b hb => by simp at hb, Held.refl _ _⟩
  have HLT : Hid (H + 1 + 1 < bb) := Lib.hid (by have := hb2.size; have := HS1.out; omega)
  clear hown hV hb2 x0 HN hbb
  go_wp2_with fail
  go_loopw [9] (fun i wr => EmpInv t W0 w2 (H + 1 + 1) bb i wr) (fun i _ => t.length - (intOf i).toNat)
  case atStart => exact HI0.out
  case round =>
    obtain ⟨k, A', d', cells, fs, fp, hk, rfl, hap, hge, hheld⟩ := hrel
    have hb := hap.2.2.2.2
    have HAP := Lib.hid hap
    have HBX := Lib.hid hap.1
    by_cases hlt : k < t.length
    · have hrow : wr.ownsRow W1.heap.size 9 1 (.slice V t.length lc) t.length ((namesOf t).map Value.string) := own_heldK HOWN.out hheld (fun q hm => by have hq := HV.out q ((blk_own _ _ _ _).2 hm); have := HBB.out; have := HS1.out; exact ⟨by omega, by omega⟩)
      obtain ⟨ad, rfl, q0⟩ := (Sl.of_own hrow) k (.string t[k].1) (by simp [namesOf, hlt])
      have hs : t[k].1.size ≤ 9223372036854775807 := by have := (dnm_bounds hlt HWT.out).1; omega
      have g0 := hap.1.c0
      have hlt2 : k < (emptyD t).length := by rw [emptyD_len]; exact hlt
      have HROW : Hid ((wr.alloc (.cells #[.string t[k].1, .slice none 0 0] 86)).ownsRow 0 86 2 (.slice A' k d') k cells) := Lib.hid (own_keep (hap.row (Nat.le_of_lt hlt2)) (row := none) (grown_none ((Below.refl _ _).alloc (Nat.le_refl _) _)) (fun b _ => by simp))
      have HBOX : Hid (Box1 (wr.alloc (.cells #[.string t[k].1, .slice none 0 0] 86)) (H + 1 + 1) 51 (.slice A' k d')) := Lib.hid (hap.1.alloc _)
      have HNX : Hid (∀ (i : Value) (A4 : Option Addr) (d4 : Nat) (w4 : World), i = .int .i64 ((k + 1 : Nat) : Int) → w4.ownsRow 0 86 2 (.slice A4 (k + 1) d4) (k + 1) (cells ++ [.string t[k].1, .slice none 0 0]) →
          (wr.alloc (.cells #[.string t[k].1, .slice none 0 0] 86)).grownBy w4 (Value.slice A' k d').ownBlock → ((Value.slice A4 (k + 1) d4).ownBlock = (Value.slice A' k d').ownBlock ∨ (Value.slice A4 (k + 1) d4).ownBlock = some (wr.alloc (.cells #[.string t[k].1, .slice none 0 0] 86)).heap.size) →
          EmpInv t W0 w2 (H + 1 + 1) bb i (w4.setCell ⟨H + 1 + 1, 0, none⟩ (.slice A4 (k + 1) d4))) := Lib.hid (fun i A4 d4 w4 hii h1 h2 h3 => by
        obtain ⟨fs', fp', h4, h5, h6⟩ := apF_step (a := kDd) (w2 := wr) (fx := []) hlt2 (by rw [emptyD_len]; omega) hap (Below.refl _ _) (by rw [emptyD_at t k hlt]; exact kDd_omake hs (vas_zero _ _)) (fun b hm => by simp at hm) _ h1 h2 h3
        have hw2 := hheld.size
        have hbb := HBB.out
        refine ⟨k + 1, A4, d4, _, fs', fp', hlt, hii, h4, fun b hm => ?_, hheld.trans (h6.mono fun i _ hi => ⟨hi.2, fun hm => by have := hge i hm; omega⟩)⟩
        rcases h5 b hm with h | h
        · exact hge b h
        · omega)
      have HNW := Lib.hid (news2 wr (.string t[k].1) (.slice none 0 0) 86)
      have HAPT := Lib.hid hap.apart
      generalize t[k].1 = nm at *
      clear hrow hs hk hap hb hlt2 hge hheld
      go_wp2_with (at_builtin; refine wpList_append_at _ rfl (.tmp 14) (.tmp 17) 49 rfl 0 86 i1 _ 2 40 Try.underlying49 hi1 hy0 hy1 hy2 (by rfl) (by omega) (.slice A' k d') k cells (by rfl) HROW.out ⟨wr.heap.size, 0, none⟩ 1 1 [.string nm, .slice none 0 0] (by rfl) (by rfl) HNW.out (one2s _ _ _ _) (by unfold maxLen; omega) (by omega) (Nat.zero_le _) ?_; intro A4 d4 w4 hown4 hgr4 hor4; have bx4 := HBOX.out.grown hgr4 HAPT.out; have g4 := bx4.c0; have f4 := bx4.free 0; have HNW4 := Lib.hid (fun i hi => HNX.out i A4 d4 w4 hi hown4 hgr4 hor4); clear hown4 hgr4 hor4 bx4)
      go_roundw
      case rel => exact HNW4.out _ (by go_num)
      case measure => simp [intOf]; omega
    · have he : k = t.length := by omega
      subst he
      have bg := hap.1
      have g0 := bg.c0
      have br := HR1.out wr hb
      have r0 := br.c0
      have s0 := br.free 0
      have BR := Lib.hid br
      clear hb hk hap bg br hge hheld
      go_wp2_with fail
      generalize hU : wr.setCell ⟨H + 1, 0, none⟩ (.slice A' t.length d') = U
      have hgU : wr.grownBy U (some (H + 1)) := by rw [← hU]; exact grown_set (World.grownBy.refl _ _) _
      have u1 : Box1 U (H + 1) 51 (.slice A' t.length d') := by
        rw [← hU]
        exact BR.out.set0 _
      have HRR : Hid (MadeDb (emptyD t) w (.returned (.agg #[.slice A' t.length d'])) U) := Lib.hid (by
        have hap := HAP.out
        rw [← emptyD_len t] at hap ⊢
        obtain ⟨fp', h1, h2, h3⟩ := apF_done (w := w) hap HB0.out (by have := HS0.out; omega) (by have := HH.out; omega) hgU
        exact ⟨A', d', fp', rfl, ODb.ol.2 h1, h2, h3⟩)
      have t0 := u1.c0
      clear hU hgU u1 r0 s0 g0
      exact bodyPost_ret (v := .agg #[.slice A' t.length d']) (by simp [results, Try.results30, go_sem, t0]) rfl HRR.out
end Go.Proofs.Ytlcpekpgkllbkaa

/-
  How great a TableDecl is, as the laws reckon it. Written by genpair.py.
-/
namespace Go.Proofs.Ytlcpekpgkllbkaa
open Go.RowKit

set_option maxHeartbeats 800000 in
theorem szDc_any (x : Dc) (w : World) (cs : List Value) (left : Int) (h : kDc.R w x cs) (h0 : 0 ≤ left) (h1 : left ≤ 1048576) : Calls Try.prog 74 #[.agg cs.toArray, .int .i64 left] w (SzV (wDc x) left w) := by
  obtain ⟨tk, TL, TA, tl, tc, ta, td, rfl, hs, hy⟩ := kDc_open h
  obtain ⟨W1, hW1⟩ : ∃ W1, w.alloc (.cells #[.string x.1, .int .i64 tk, .slice TL tl tc, .slice TA ta td] 105) = W1 := ⟨_, rfl⟩
  obtain ⟨H, hH⟩ : ∃ H, w.heap.size = H := ⟨_, rfl⟩
  have hbox : Box4 W1 H 105 (.string x.1) (.int .i64 tk) (.slice TL tl tc) (.slice TA ta td) := by rw [← hW1, ← hH]; exact Box4.new w _ _ _ _ _
  have hb0 : Below w.heap.size w W1 := by rw [← hW1]; exact (Below.refl _ _).alloc (Nat.le_refl _) _
  have HC := Lib.hid (fun (l : Int) (g0 : 0 ≤ l) (g1 : l ≤ 1048576) => szTy_K x.2 W1 _ l (kTy.keep hy hb0) g0 g1)
  have HW1 := Lib.hid hW1
  have HB0 := Lib.hid hb0
  have x0 := hbox.c0
  have x1 := hbox.c1
  have x2 := hbox.c2
  have x3 := hbox.c3
  have HWX : Hid (wDc x = x.1.size + wt x.2) := Lib.hid rfl
  generalize wDc x = wx at HWX ⊢
  generalize wt x.2 = wy at HWX HC
  generalize x.1 = nm at HWX HW1 hs x0 ⊢
  clear h hy hW1 hbox hb0
  by_cases hneg : left - nm.size < 0
  · go_enter Try.func74, Try.ntmps74
    go_wp2_with fail
    rw [HW1.out]
    go_wp2_with fail
    go_ret
    exact ⟨-1, rfl, by omega, by omega, by omega, HB0.out⟩
  · have HC1 := Lib.hid (HC.out (left - nm.size) (by omega) (by omega))
    go_enter Try.func74, Try.ntmps74
    go_wp2_with fail
    rw [HW1.out]
    go_wp2_with fail
    refine HC1.out.mono ?_
    rintro e w2 ⟨r, rfl, hs1, hs2, hs3, hb2⟩
    have HS3 := Lib.hid hs3
    have HB2 := Lib.hid (HB0.out.trans (hb2.mono HB0.out.size))
    clear hs3 hb2
    by_cases hz : r < 0
    · go_wp2_with fail
      go_ret
      exact ⟨-1, rfl, by omega, by omega, by omega, HB2.out⟩
    · go_wp2_with fail
      go_ret
      refine ⟨r, rfl, by omega, by omega, fun _ => ?_, HB2.out⟩
      have e2 := HS3.out (by omega)
      have e3 := HWX.out
      omega

set_option maxHeartbeats 800000 in
theorem szDcS_any (xs : List Dc) (w : World) (A : Option Addr) (d : Nat) (left : Int) (hp : RL kDc w A xs) (hl : xs.length ≤ 9223372036854775807) (h0 : 0 ≤ left) (h1 : left ≤ 1048576) :
    Calls Try.prog 36 #[.slice A xs.length d, .int .i64 left] w (SzV (wL wDc xs) left w) := by
  have HP := Lib.hid hp
  clear hp
  by_cases hneg : left - xs.length < 0
  · go_enter Try.func36, Try.ntmps36
    go_wp2_with fail
    go_ret
    exact ⟨-1, rfl, by omega, by omega, by omega, Below.refl _ _⟩
  · go_enter Try.func36, Try.ntmps36
    go_wp2_with fail
    go_loopw [1, 5] (fun l i wr => ∃ k : Nat, k ≤ xs.length ∧ i = .int .i64 k ∧ ∃ r : Int, l = .int .i64 r ∧ 0 ≤ r ∧ r + xs.length + ((xs.take k).map wDc).sum = left ∧ Below w.heap.size w wr) (fun _ i _ => xs.length - (intOf i).toNat)
    case atStart => exact ⟨0, Nat.zero_le _, rfl, _, rfl, by omega, by simp, Below.refl _ _⟩
    case round =>
      obtain ⟨k, hk, rfl, r, rfl, hr0, hr, hb⟩ := hrel
      have hr1 : r ≤ 1048576 := by omega
      have HR := Lib.hid hr
      clear hr
      by_cases hlt : k < xs.length
      · obtain ⟨ad, p, c0, c1, c2, c3, rfl, hpe, hrt, q0, q1, q2, q3⟩ := rl_at4 kDc_n HP.out hb hlt
        have hst := sum_take_succ wDc xs k hlt
        have hc := szDc_any xs[k] wr [c0, c1, c2, c3] r hrt hr0 hr1
        obtain ⟨m, hm⟩ : ∃ m, wDc xs[k] = m := ⟨_, rfl⟩
        rw [hm] at hst hc
        have HC := Lib.hid hc
        have HST := Lib.hid hst
        clear hc hrt hst hm
        go_wp2_with fail
        refine HC.out.mono ?_
        rintro e w2 ⟨r', rfl, hr2, hr3, hr4, hb2⟩
        have HB3 := Lib.hid (hb.trans (hb2.mono hb.size))
        have HR4 := Lib.hid hr4
        clear hr4 hb2
        by_cases hz : r' < 0
        · go_wp2_with fail
          go_ret
          exact ⟨-1, rfl, by omega, by omega, by omega, HB3.out⟩
        · go_wp2_with fail
          go_roundw
          case rel => exact ⟨k + 1, hlt, by go_num, r', rfl, by omega, by have h1 := HR4.out (by omega); have h2 := HR.out; have h3 := HST.out; omega, HB3.out⟩
          case measure => simp [intOf]; omega
      · have he : k = xs.length := by omega
        have HS : Hid (r + wL wDc xs = left) := by
          have h := HR.out
          rw [he, List.take_length] at h
          show _ = _
          unfold wL
          omega
        clear he
        go_wp2_with fail
        go_ret
        exact ⟨r, rfl, by have := HR.out; omega, by omega, fun _ => HS.out, hb⟩
end Go.Proofs.Ytlcpekpgkllbkaa
