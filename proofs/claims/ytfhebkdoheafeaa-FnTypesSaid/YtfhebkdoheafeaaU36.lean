/-
  Merged by program: Row3.
-/
import Derived.Test.YtfhebkdoheafeaaU34

/-
  The program's IsRow.
-/
namespace Go.Proofs.Ytfhebkdoheafeaa
open Go.RowKit

theorem rowB_rec {a : TyA} {ks : List Ty} (h : a.kind = 3) : rowB (.node a ks) = (validB (.node a ks) && ks.all baseB) := by
  unfold rowB
  show (_ && (decide (a.kind = 3) && _)) = _
  rw [h]
  simp [Tr.kids]
theorem rowB_other {a : TyA} {ks : List Ty} (h : a.kind ≠ 3) : rowB (.node a ks) = false := by
  unfold rowB
  show (_ && (decide (a.kind = 3) && _)) = _
  rw [decide_eq_false h]
  simp

set_option maxRecDepth 100000 in
set_option maxHeartbeats 1600000 in
theorem implRow_any (t : Ty) (w : World) (cs : List Value) (h : RTy w t cs) (hw : wt t ≤ 1048576) : Calls Try.prog 26 #[.agg cs.toArray] w (Truth (rowB t) w) := by
  have HV := Lib.hid (fun W (hB : Below w.heap.size w W) => implValid_any t W _ (h.keep hB) hw)
  obtain ⟨a, ks⟩ := t
  obtain ⟨L, c, A, d, rfl, k1, k2, k3, k4, k5, k6, hp⟩ := h.out
  have hrec := rowB_rec (a := a) (ks := ks)
  have hoth := rowB_other (a := a) (ks := ks)
  have HE := Lib.hid (fun W (hB : Below w.heap.size w W) => everyScalar_any ks W A d (hp.keep hB) k6)
  have hcs := kind_cases a.kind
  obtain ⟨q, hq⟩ : ∃ q, a.kind = q := ⟨_, rfl⟩
  obtain ⟨n, hn⟩ : ∃ n, a.labels.length = n := ⟨_, rfl⟩
  obtain ⟨m, hm⟩ : ∃ m, ks.length = m := ⟨_, rfl⟩
  rw [hq] at hrec hoth hcs
  rw [hq, hn, hm] at HV ⊢
  rw [hm] at HE
  obtain ⟨W1, hW1⟩ : ∃ W1, w.alloc (.cells #[.int .i64 q, .slice L n c, .slice A m d] 27) = W1 := ⟨_, rfl⟩
  obtain ⟨H, hH⟩ : ∃ H, w.heap.size = H := ⟨_, rfl⟩
  have hb1 : Below w.heap.size w W1 := by rw [← hW1]; exact (Below.refl _ _).alloc (Nat.le_refl _) _
  have hbox : Box3 W1 H 27 (.int .i64 q) (.slice L n c) (.slice A m d) := by rw [← hW1, ← hH]; exact Box3.new w _ _ _ _
  have HK := Lib.hid (kind_of q (.slice L n c) (.slice A m d) W1)
  have HW1 := Lib.hid hW1
  have HB1 := Lib.hid hb1
  have B1 := Lib.hid hbox
  have x0 := hbox.c0
  have x1 := hbox.c1
  have x2 := hbox.c2
  clear h hw k1 k2 k3 k4 k5 k6 hp hq hn hm hbox hW1 hb1
  unfold KindIs at HK
  rcases hcs with (rfl | rfl | rfl | rfl | rfl) | hk
  · have a1 := as_rec_1
    rw [show kindT 1 = 86 from rfl] at HK
    have hro := hoth (by decide)
    have HF : Hid (∀ w2, Below w.heap.size w w2 → Truth (rowB (.node a ks)) w (.returned (.bool false)) w2) := fun w2 hb => ⟨by rw [hro], hb⟩
    clear hrec hoth hro HV HE
    go_enter Try.func26, Try.ntmps26
    go_wp2_with fail
    rw [HW1.out]
    go_wp2_with fail
    refine HK.out.mono ?_
    rintro e w2 ⟨rfl, hb2⟩
    have hb3 := HB1.out.trans (hb2.mono HB1.out.size)
    have HG := Lib.hid (HF.out (w2.alloc (.cells #[.int .i64 0, .slice none 0 0, .slice none 0 0] 64)) (hb3.alloc hb3.size _))
    clear x0 x1 x2 hb2 hb3 HF HK
    go_wp2_with fail
    go_ret
    exact HG.out
  · have a1 := as_rec_2
    rw [show kindT 2 = 87 from rfl] at HK
    have hro := hoth (by decide)
    have HF : Hid (∀ w2, Below w.heap.size w w2 → Truth (rowB (.node a ks)) w (.returned (.bool false)) w2) := fun w2 hb => ⟨by rw [hro], hb⟩
    clear hrec hoth hro HV HE
    go_enter Try.func26, Try.ntmps26
    go_wp2_with fail
    rw [HW1.out]
    go_wp2_with fail
    refine HK.out.mono ?_
    rintro e w2 ⟨rfl, hb2⟩
    have hb3 := HB1.out.trans (hb2.mono HB1.out.size)
    have HG := Lib.hid (HF.out (w2.alloc (.cells #[.int .i64 0, .slice none 0 0, .slice none 0 0] 64)) (hb3.alloc hb3.size _))
    clear x0 x1 x2 hb2 hb3 HF HK
    go_wp2_with fail
    go_ret
    exact HG.out
  · have a1 := as_rec_3
    rw [show kindT 3 = 64 from rfl] at HK
    have HR := Lib.hid (hrec rfl)
    clear hrec hoth
    go_enter Try.func26, Try.ntmps26
    go_wp2_with fail
    rw [HW1.out]
    go_wp2_with fail
    refine HK.out.mono ?_
    rintro e w2 ⟨rfl, hb2⟩
    obtain ⟨W3, hW3⟩ : ∃ W3, w2.alloc (.cells #[.int .i64 3, .slice L n c, .slice A m d] 64) = W3 := ⟨_, rfl⟩
    obtain ⟨G, hG⟩ : ∃ G, w2.heap.size = G := ⟨_, rfl⟩
    have hx3 : Box3 W3 G 64 (.int .i64 3) (.slice L n c) (.slice A m d) := by rw [← hW3, ← hG]; exact Box3.new w2 _ _ _ _
    have hb23 : Below w2.heap.size w2 W3 := by rw [← hW3]; exact (Below.refl _ _).alloc (Nat.le_refl _) _
    have hb2' := B1.out.under hb2 B1.out.lt
    have B3 := Lib.hid (hb2'.under hb23 hb2'.lt)
    have hb3 := (HB1.out.trans (hb2.mono HB1.out.size))
    have HB3 := Lib.hid (hb3.trans (hb23.mono hb3.size))
    have X3 := Lib.hid hx3
    have HW3 := Lib.hid hW3
    have HC := Lib.hid (HV.out W3 HB3.out)
    clear x0 x1 x2
    have x0 := B3.out.c0
    have x1 := B3.out.c1
    have x2 := B3.out.c2
    rw [← hW3] at x0 x1 x2
    clear hb2 hb23 hb2' hb3 hx3 hW3 HV HK
    go_wp2_with fail
    rw [HW3.out]
    refine HC.out.mono ?_
    rintro e w4 ⟨rfl, hb4⟩
    have HB4 := Lib.hid (HB3.out.trans (hb4.mono HB3.out.size))
    have X4 := Lib.hid (X3.out.under hb4 X3.out.lt)
    clear x0 x1 x2 hb4 HC
    generalize validB (.node a ks) = v at HR ⊢
    cases v with
    | false =>
      have HF : Hid (Truth (rowB (.node a ks)) w (.returned (.bool false)) w4) := by rw [HR.out]; exact ⟨rfl, HB4.out⟩
      go_wp2_with fail
      go_ret
      exact HF.out
    | true =>
      have HC := Lib.hid (HE.out w4 HB4.out)
      have HR2 : Hid (ks.all baseB = rowB (.node a ks)) := by rw [HR.out]; rfl
      have z2 := X4.out.c2
      clear HR HE
      go_wp2_with fail
      refine HC.out.mono ?_
      rintro e w5 ⟨rfl, hb5⟩
      have HF : Hid (Truth (rowB (.node a ks)) w (.returned (.bool (ks.all baseB))) w5) := ⟨by rw [HR2.out], HB4.out.trans (hb5.mono HB4.out.size)⟩
      clear hb5 HC HR2
      generalize ks.all baseB = b at HF ⊢
      go_wp2_with fail
      go_ret
      exact HF.out
  · have a1 := as_rec_4
    rw [show kindT 4 = 53 from rfl] at HK
    have hro := hoth (by decide)
    have HF : Hid (∀ w2, Below w.heap.size w w2 → Truth (rowB (.node a ks)) w (.returned (.bool false)) w2) := fun w2 hb => ⟨by rw [hro], hb⟩
    clear hrec hoth hro HV HE
    go_enter Try.func26, Try.ntmps26
    go_wp2_with fail
    rw [HW1.out]
    go_wp2_with fail
    refine HK.out.mono ?_
    rintro e w2 ⟨rfl, hb2⟩
    have hb3 := HB1.out.trans (hb2.mono HB1.out.size)
    have HG := Lib.hid (HF.out (w2.alloc (.cells #[.int .i64 0, .slice none 0 0, .slice none 0 0] 64)) (hb3.alloc hb3.size _))
    clear x0 x1 x2 hb2 hb3 HF HK
    go_wp2_with fail
    go_ret
    exact HG.out
  · have a1 := as_rec_5
    rw [show kindT 5 = 88 from rfl] at HK
    have hro := hoth (by decide)
    have HF : Hid (∀ w2, Below w.heap.size w w2 → Truth (rowB (.node a ks)) w (.returned (.bool false)) w2) := fun w2 hb => ⟨by rw [hro], hb⟩
    clear hrec hoth hro HV HE
    go_enter Try.func26, Try.ntmps26
    go_wp2_with fail
    rw [HW1.out]
    go_wp2_with fail
    refine HK.out.mono ?_
    rintro e w2 ⟨rfl, hb2⟩
    have hb3 := HB1.out.trans (hb2.mono HB1.out.size)
    have HG := Lib.hid (HF.out (w2.alloc (.cells #[.int .i64 0, .slice none 0 0, .slice none 0 0] 64)) (hb3.alloc hb3.size _))
    clear x0 x1 x2 hb2 hb3 HF HK
    go_wp2_with fail
    go_ret
    exact HG.out
  · have a1 := as_rec_6
    have hro := hoth (kind_none hk).2.2.1
    rw [hk] at HK
    clear hk
    have HF : Hid (∀ w2, Below w.heap.size w w2 → Truth (rowB (.node a ks)) w (.returned (.bool false)) w2) := fun w2 hb => ⟨by rw [hro], hb⟩
    clear hrec hoth hro HV HE
    go_enter Try.func26, Try.ntmps26
    go_wp2_with fail
    rw [HW1.out]
    go_wp2_with fail
    refine HK.out.mono ?_
    rintro e w2 ⟨rfl, hb2⟩
    have hb3 := HB1.out.trans (hb2.mono HB1.out.size)
    have HG := Lib.hid (HF.out (w2.alloc (.cells #[.int .i64 0, .slice none 0 0, .slice none 0 0] 64)) (hb3.alloc hb3.size _))
    clear x0 x1 x2 hb2 hb3 HF HK
    go_wp2_with fail
    go_ret
    exact HG.out
end Go.Proofs.Ytfhebkdoheafeaa
