/-
  Merged by program: Row3, EvDc.
-/
import Derived.Test.YtlcpekpgkllbkaaI41
import Derived.Test.YtlcpekpgkllbkaaI26
import Derived.Test.YtlcpekpgkllbkaaI22
import Derived.Test.YtlcpekpgkllbkaaI28
import Derived.Test.YtlcpekpgkllbkaaI29

/-
  The program's IsRow.
-/
namespace Go.Proofs.Ytlcpekpgkllbkaa
open Go.RowKit

theorem rowB_rec {a : TyA} {ks : List Ty} (h : a.kind = 3) : rowB (.node a ks) = (validB (.node a ks) && ks.all baseB) := by
  unfold rowB
  show (_ && (decide (a.kind = 3) && _)) = _
  rw [h]
  simp [Tr.kids]
theorem rowB_other {a : TyA} {ks : List Ty} (h : a.kind ≠ 3) : rowB (.node a ks) = false := by
  unfold rowB
  show (_ && (decide (a.kind = 3) && _)) = _
  rw [decide_eq_false h]
  simp

set_option maxRecDepth 100000 in
set_option maxHeartbeats 1600000 in
theorem implRow_any (t : Ty) (w : World) (cs : List Value) (h : RTy w t cs) (hw : wt t ≤ 1048576) : Calls Try.prog 80 #[.agg cs.toArray] w (Truth (rowB t) w) := by
  have HV := Lib.hid (fun W (hB : Below w.heap.size w W) => implValid_any t W _ (h.keep hB) hw)
  obtain ⟨a, ks⟩ := t
  obtain ⟨L, c, A, d, rfl, k1, k2, k3, k4, k5, k6, hp⟩ := h.out
  have hrec := rowB_rec (a := a) (ks := ks)
  have hoth := rowB_other (a := a) (ks := ks)
  have HE := Lib.hid (fun W (hB : Below w.heap.size w W) => everyScalar_any ks W A d (hp.keep hB) k6)
  have hcs := kind_cases a.kind
  obtain ⟨q, hq⟩ : ∃ q, a.kind = q := ⟨_, rfl⟩
  obtain ⟨n, hn⟩ : ∃ n, a.labels.length = n := ⟨_, rfl⟩
  obtain ⟨m, hm⟩ : ∃ m, ks.length = m := ⟨_, rfl⟩
  rw [hq] at hrec hoth hcs
  rw [hq, hn, hm] at HV ⊢
  rw [hm] at HE
  obtain ⟨W1, hW1⟩ : ∃ W1, w.alloc (.cells #[.int .i64 q, .slice L n c, .slice A m d] 36) = W1 := ⟨_, rfl⟩
  obtain ⟨H, hH⟩ : ∃ H, w.heap.size = H := ⟨_, rfl⟩
  have hb1 : Below w.heap.size w W1 := by rw [← hW1]; exact (Below.refl _ _).alloc (Nat.le_refl _) _
  have hbox : Box3 W1 H 36 (.int .i64 q) (.slice L n c) (.slice A m d) := by rw [← hW1, ← hH]; exact Box3.new w _ _ _ _
  have HK := Lib.hid (kind_of q (.slice L n c) (.slice A m d) W1)
  have HW1 := Lib.hid hW1
  have HB1 := Lib.hid hb1
  have B1 := Lib.hid hbox
  have x0 := hbox.c0
  have x1 := hbox.c1
  have x2 := hbox.c2
  clear h hw k1 k2 k3 k4 k5 k6 hp hq hn hm hbox hW1 hb1
  unfold KindIs at HK
  rcases hcs with (rfl | rfl | rfl | rfl | rfl) | hk
  · have a1 := as_rec_1
    rw [show kindT 1 = 156 from rfl] at HK
    have hro := hoth (by decide)
    have HF : Hid (∀ w2, Below w.heap.size w w2 → Truth (rowB (.node a ks)) w (.returned (.bool false)) w2) := fun w2 hb => ⟨by rw [hro], hb⟩
    clear hrec hoth hro HV HE
    go_enter Try.func80, Try.ntmps80
    go_wp2_with fail
    rw [HW1.out]
    go_wp2_with fail
    refine HK.out.mono ?_
    rintro e w2 ⟨rfl, hb2⟩
    have hb3 := HB1.out.trans (hb2.mono HB1.out.size)
    have HG := Lib.hid (HF.out (w2.alloc (.cells #[.int .i64 0, .slice none 0 0, .slice none 0 0] 135)) (hb3.alloc hb3.size _))
    clear x0 x1 x2 hb2 hb3 HF HK
    go_wp2_with fail
    go_ret
    exact HG.out
  · have a1 := as_rec_2
    rw [show kindT 2 = 157 from rfl] at HK
    have hro := hoth (by decide)
    have HF : Hid (∀ w2, Below w.heap.size w w2 → Truth (rowB (.node a ks)) w (.returned (.bool false)) w2) := fun w2 hb => ⟨by rw [hro], hb⟩
    clear hrec hoth hro HV HE
    go_enter Try.func80, Try.ntmps80
    go_wp2_with fail
    rw [HW1.out]
    go_wp2_with fail
    refine HK.out.mono ?_
    rintro e w2 ⟨rfl, hb2⟩
    have hb3 := HB1.out.trans (hb2.mono HB1.out.size)
    have HG := Lib.hid (HF.out (w2.alloc (.cells #[.int .i64 0, .slice none 0 0, .slice none 0 0] 135)) (hb3.alloc hb3.size _))
    clear x0 x1 x2 hb2 hb3 HF HK
    go_wp2_with fail
    go_ret
    exact HG.out
  · have a1 := as_rec_3
    rw [show kindT 3 = 135 from rfl] at HK
    have HR := Lib.hid (hrec rfl)
    clear hrec hoth
    go_enter Try.func80, Try.ntmps80
    go_wp2_with fail
    rw [HW1.out]
    go_wp2_with fail
    refine HK.out.mono ?_
    rintro e w2 ⟨rfl, hb2⟩
    obtain ⟨W3, hW3⟩ : ∃ W3, w2.alloc (.cells #[.int .i64 3, .slice L n c, .slice A m d] 135) = W3 := ⟨_, rfl⟩
    obtain ⟨G, hG⟩ : ∃ G, w2.heap.size = G := ⟨_, rfl⟩
    have hx3 : Box3 W3 G 135 (.int .i64 3) (.slice L n c) (.slice A m d) := by rw [← hW3, ← hG]; exact Box3.new w2 _ _ _ _
    have hb23 : Below w2.heap.size w2 W3 := by rw [← hW3]; exact (Below.refl _ _).alloc (Nat.le_refl _) _
    have hb2' := B1.out.under hb2 B1.out.lt
    have B3 := Lib.hid (hb2'.under hb23 hb2'.lt)
    have hb3 := (HB1.out.trans (hb2.mono HB1.out.size))
    have HB3 := Lib.hid (hb3.trans (hb23.mono hb3.size))
    have X3 := Lib.hid hx3
    have HW3 := Lib.hid hW3
    have HC := Lib.hid (HV.out W3 HB3.out)
    clear x0 x1 x2
    have x0 := B3.out.c0
    have x1 := B3.out.c1
    have x2 := B3.out.c2
    rw [← hW3] at x0 x1 x2
    clear hb2 hb23 hb2' hb3 hx3 hW3 HV HK
    go_wp2_with fail
    rw [HW3.out]
    refine HC.out.mono ?_
    rintro e w4 ⟨rfl, hb4⟩
    have HB4 := Lib.hid (HB3.out.trans (hb4.mono HB3.out.size))
    have X4 := Lib.hid (X3.out.under hb4 X3.out.lt)
    clear x0 x1 x2 hb4 HC
    generalize validB (.node a ks) = v at HR ⊢
    cases v with
    | false =>
      have HF : Hid (Truth (rowB (.node a ks)) w (.returned (.bool false)) w4) := by rw [HR.out]; exact ⟨rfl, HB4.out⟩
      go_wp2_with fail
      go_ret
      exact HF.out
    | true =>
      have HC := Lib.hid (HE.out w4 HB4.out)
      have HR2 : Hid (ks.all baseB = rowB (.node a ks)) := by rw [HR.out]; rfl
      have z2 := X4.out.c2
      clear HR HE
      go_wp2_with fail
      refine HC.out.mono ?_
      rintro e w5 ⟨rfl, hb5⟩
      have HF : Hid (Truth (rowB (.node a ks)) w (.returned (.bool (ks.all baseB))) w5) := ⟨by rw [HR2.out], HB4.out.trans (hb5.mono HB4.out.size)⟩
      clear hb5 HC HR2
      generalize ks.all baseB = b at HF ⊢
      go_wp2_with fail
      go_ret
      exact HF.out
  · have a1 := as_rec_4
    rw [show kindT 4 = 158 from rfl] at HK
    have hro := hoth (by decide)
    have HF : Hid (∀ w2, Below w.heap.size w w2 → Truth (rowB (.node a ks)) w (.returned (.bool false)) w2) := fun w2 hb => ⟨by rw [hro], hb⟩
    clear hrec hoth hro HV HE
    go_enter Try.func80, Try.ntmps80
    go_wp2_with fail
    rw [HW1.out]
    go_wp2_with fail
    refine HK.out.mono ?_
    rintro e w2 ⟨rfl, hb2⟩
    have hb3 := HB1.out.trans (hb2.mono HB1.out.size)
    have HG := Lib.hid (HF.out (w2.alloc (.cells #[.int .i64 0, .slice none 0 0, .slice none 0 0] 135)) (hb3.alloc hb3.size _))
    clear x0 x1 x2 hb2 hb3 HF HK
    go_wp2_with fail
    go_ret
    exact HG.out
  · have a1 := as_rec_5
    rw [show kindT 5 = 159 from rfl] at HK
    have hro := hoth (by decide)
    have HF : Hid (∀ w2, Below w.heap.size w w2 → Truth (rowB (.node a ks)) w (.returned (.bool false)) w2) := fun w2 hb => ⟨by rw [hro], hb⟩
    clear hrec hoth hro HV HE
    go_enter Try.func80, Try.ntmps80
    go_wp2_with fail
    rw [HW1.out]
    go_wp2_with fail
    refine HK.out.mono ?_
    rintro e w2 ⟨rfl, hb2⟩
    have hb3 := HB1.out.trans (hb2.mono HB1.out.size)
    have HG := Lib.hid (HF.out (w2.alloc (.cells #[.int .i64 0, .slice none 0 0, .slice none 0 0] 135)) (hb3.alloc hb3.size _))
    clear x0 x1 x2 hb2 hb3 HF HK
    go_wp2_with fail
    go_ret
    exact HG.out
  · have a1 := as_rec_6
    have hro := hoth (kind_none hk).2.2.1
    rw [hk] at HK
    clear hk
    have HF : Hid (∀ w2, Below w.heap.size w w2 → Truth (rowB (.node a ks)) w (.returned (.bool false)) w2) := fun w2 hb => ⟨by rw [hro], hb⟩
    clear hrec hoth hro HV HE
    go_enter Try.func80, Try.ntmps80
    go_wp2_with fail
    rw [HW1.out]
    go_wp2_with fail
    refine HK.out.mono ?_
    rintro e w2 ⟨rfl, hb2⟩
    have hb3 := HB1.out.trans (hb2.mono HB1.out.size)
    have HG := Lib.hid (HF.out (w2.alloc (.cells #[.int .i64 0, .slice none 0 0, .slice none 0 0] 135)) (hb3.alloc hb3.size _))
    clear x0 x1 x2 hb2 hb3 HF HK
    go_wp2_with fail
    go_ret
    exact HG.out
end Go.Proofs.Ytlcpekpgkllbkaa

/-
  The program's isTableDecl, and every over it.
-/
namespace Go.Proofs.Ytlcpekpgkllbkaa
open Go.RowKit

set_option maxRecDepth 100000 in
set_option maxHeartbeats 1600000 in
theorem isDecl_any (x : Dc) (w : World) (cs : List Value) (h : kDc.R w x cs) (h1 : x.1.size ≤ 1048576) (h2 : wt x.2 ≤ 1048576) : Calls Try.prog 44 #[.agg cs.toArray] w (Truth (declB x) w) := by
  obtain ⟨tk, TL, TA, tl, tc, ta, td, rfl, hs, hy⟩ := kDc_open h
  obtain ⟨W1, hW1⟩ : ∃ W1, w.alloc (.cells #[.string x.1, .int .i64 tk, .slice TL tl tc, .slice TA ta td] 64) = W1 := ⟨_, rfl⟩
  obtain ⟨H, hH⟩ : ∃ H, w.heap.size = H := ⟨_, rfl⟩
  have hb1 : Below w.heap.size w W1 := by rw [← hW1]; exact (Below.refl _ _).alloc (Nat.le_refl _) _
  have hx := Box4.new w 64 (.string x.1) (.int .i64 tk) (.slice TL tl tc) (.slice TA ta td)
  rw [hW1, hH] at hx
  have HN := Lib.hid (implName_any x.1 W1 h1)
  have HR := Lib.hid (fun (W : World) (hB : Below w.heap.size w W) => implRow_any x.2 W _ (kTy.keep hy hB) h2)
  have HX := Lib.hid hx
  have HB1 := Lib.hid hb1
  have HW1 := Lib.hid hW1
  have HT : Hid (∀ b W, b = declB x → Below w.heap.size w W → Truth (declB x) w (.returned (.bool b)) W) := Lib.hid (fun b W hb hB => ⟨by rw [hb], hB⟩)
  have HD : Hid (declB x = (nameB x.1 && rowB x.2)) := Lib.hid rfl
  have y0 := hx.c0
  generalize declB x = dB at HT HD ⊢
  generalize x.1 = nm at *
  generalize x.2 = ty at *
  clear h hs hy hx hW1 hb1 h1 h2
  cases hn : nameB nm
  · rw [hn] at HN HD
    have HF := Lib.hid (fun W hB => HT.out false W (by rw [HD.out]; rfl) hB)
    clear HT hn HR
    go_enter Try.func44, Try.ntmps44
    go_wp2_with fail
    rw [HW1.out]
    go_wp2_with fail
    refine HN.out.mono ?_
    rintro e w2 ⟨rfl, hb2⟩
    have HB2 := Lib.hid (HB1.out.trans (hb2.mono HB1.out.size))
    clear hb2 y0
    go_wp2_with fail
    go_ret
    exact HF.out _ HB2.out
  · rw [hn] at HN HD
    have HF := Lib.hid (fun W hB => HT.out (rowB ty) W (by rw [HD.out]; rfl) hB)
    clear HT hn
    go_enter Try.func44, Try.ntmps44
    go_wp2_with fail
    rw [HW1.out]
    go_wp2_with fail
    refine HN.out.mono ?_
    rintro e w2 ⟨rfl, hb2⟩
    have HB2 := Lib.hid (HB1.out.trans (hb2.mono HB1.out.size))
    have x2 := HX.out.under hb2 HX.out.lt
    have z1 := x2.c1
    have z2 := x2.c2
    have z3 := x2.c3
    have HC := Lib.hid (HR.out w2 HB2.out)
    clear hb2 x2 y0
    go_wp2_with fail
    refine HC.out.mono ?_
    rintro e w3 ⟨rfl, hb3⟩
    have HB3 := Lib.hid (HB2.out.trans (hb3.mono HB2.out.size))
    clear hb3 HC z1 z2 z3
    go_wp2_with fail
    go_ret
    exact HF.out _ HB3.out

set_option maxRecDepth 100000 in
set_option maxHeartbeats 1600000 in
theorem everyDecl_any (t : Sc) (w : World) (A : Option Addr) (d : Nat) (hp : RL kDc w A t) (hl : t.length ≤ 9223372036854775807) (hw : wSc t ≤ 1048576) :
    Calls Try.prog 43 #[.slice A t.length d, .func (.func 44) #[] #[]] w (Truth (t.all declB) w) := by
  have HP := Lib.hid hp
  have HW := Lib.hid hw
  clear hp hw
  go_enter Try.func43, Try.ntmps43
  go_wp2_with fail
  go_loopw [9] (fun i wr => ∃ k : Nat, k ≤ t.length ∧ i = .int .i64 k ∧ (t.take k).all declB = true ∧ Below w.heap.size w wr) (fun i _ => t.length - (intOf i).toNat)
  case atStart => exact ⟨0, Nat.zero_le _, rfl, by simp, Below.refl _ _⟩
  case round =>
    obtain ⟨k, hk, rfl, hto, hb⟩ := hrel
    have HTO := Lib.hid hto
    have HB := Lib.hid hb
    clear hto
    by_cases hlt : k < t.length
    · obtain ⟨ad, p, c0, c1, c2, c3, rfl, hpe, hr, q0, q1, q2, q3⟩ := rl_at4 kDc_n HP.out hb hlt
      obtain ⟨tk, TL, TA, tl, tc, ta, td, hcs, hs, hy⟩ := kDc_open hr
      obtain ⟨hn1, hn2, _⟩ := dnm_bounds hlt HW.out
      injection hcs with e0 hcs
      injection hcs with e1 hcs
      injection hcs with e2 hcs
      injection hcs with e3 hcs
      subst e0 e1 e2 e3
      obtain ⟨W5, hW5⟩ : ∃ W5, wr.alloc (.cells #[.string t[k].1, .int .i64 tk, .slice TL tl tc, .slice TA ta td] 64) = W5 := ⟨_, rfl⟩
      have hb5 : Below wr.heap.size wr W5 := by rw [← hW5]; exact (Below.refl _ _).alloc (Nat.le_refl _) _
      have hx5 := Box4.new wr 64 (.string t[k].1) (.int .i64 tk) (.slice TL tl tc) (.slice TA ta td)
      rw [hW5] at hx5
      have HC := Lib.hid (isDecl_any t[k] W5 _ (kDc.keep hr hb5) hn1 hn2)
      have HW5 := Lib.hid hW5
      have HB5 := Lib.hid (HB.out.trans (hb5.mono HB.out.size))
      have y0 := hx5.c0
      have y1 := hx5.c1
      have y2 := hx5.c2
      have y3 := hx5.c3
      have HS := Lib.hid (fun hf => all_take (f := declB) HTO.out hlt hf)
      have HN := Lib.hid (fun hf => all_no (f := declB) hlt hf)
      obtain ⟨v, hv⟩ : ∃ v, declB t[k] = v := ⟨_, rfl⟩
      rw [hv] at HS HN HC
      generalize t[k].1 = nm at *
      clear hr hcs hs hy hb hb5 hW5 hx5 hv hn1 hn2
      go_wp2_with fail
      rw [HW5.out]
      go_wp2_with fail
      refine HC.out.mono ?_
      rintro e w6 ⟨rfl, hb6⟩
      have HB6 := Lib.hid (HB5.out.trans (hb6.mono HB5.out.size))
      clear hb6 y0 y1 y2 y3 HC
      cases v with
      | false =>
        have HF : Hid (Truth (t.all declB) w (.returned (.bool false)) w6) := by rw [HN.out rfl]; exact ⟨rfl, HB6.out⟩
        go_wp2_with fail
        go_ret
        exact HF.out
      | true =>
        have HT := Lib.hid (HS.out rfl)
        clear HS HN
        go_wp2_with fail
        go_roundw
        case rel => exact ⟨k + 1, hlt, by go_num, HT.out, HB6.out⟩
        case measure => simp [intOf]; omega
    · have he : k = t.length := by omega
      have HF : Hid (Truth (t.all declB) w (.returned (.bool true)) wr) := by
        have h1 := HTO.out
        rw [he, List.take_length] at h1
        rw [h1]
        exact ⟨rfl, HB.out⟩
      clear he hb
      go_wp2_with fail
      go_ret
      exact HF.out
end Go.Proofs.Ytlcpekpgkllbkaa
