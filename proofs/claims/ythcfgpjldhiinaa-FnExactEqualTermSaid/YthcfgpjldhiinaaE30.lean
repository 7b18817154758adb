/-
  Merged by program: EqNodeE.
-/
import Derived.Test.YthcfgpjldhiinaaE24
import Derived.Test.YthcfgpjldhiinaaE27
import Derived.Test.YthcfgpjldhiinaaE29
import Derived.Test.YthcfgpjldhiinaaE12
import Derived.Test.YthcfgpjldhiinaaE11

/-
  The program's isEqualTermNode.
-/
namespace Go.Proofs.Ythcfgpjldhiinaa
open Go.RowKit

/-- are two nodes alike: all that they hold, and how many parts they have? -/
noncomputable def nodeEB (t s : Te) : Bool := decide (t.top.kind = s.top.kind) && (decide (t.top.name = s.top.name) && (decide (t.top.num = s.top.num) && (same t.top.type s.top.type && (same t.top.labels s.top.labels && decide (t.kids.length = s.kids.length)))))
theorem nodeEB_iff (x y : Te) : nodeEB x y = true ↔ x.top = y.top ∧ x.kids.length = y.kids.length := by
  unfold nodeEB
  simp only [Bool.and_eq_true, decide_eq_true_iff, same_iff]
  constructor
  · rintro ⟨h1, h2, h3, h4, h5, h6⟩
    refine ⟨?_, h6⟩
    cases hx : x.top
    cases hy : y.top
    rw [hx, hy] at h1 h2 h3 h4 h5
    simp only at h1 h2 h3 h4 h5
    rw [h1, h2, h3, h4, h5]
  · rintro ⟨h1, h2⟩
    exact ⟨by rw [h1], by rw [h1], by rw [h1], by rw [h1], by rw [h1], h2⟩

set_option maxHeartbeats 1600000 in
set_option maxRecDepth 100000 in
theorem nodeE_any (t s : Te) (w : World) (cs ds : List Value) (h : RTe w t cs) (h' : RTe w s ds) (hw : wt t.top.type ≤ 1048576) : Calls Try.prog 41 #[.agg cs.toArray, .agg ds.toArray] w (Truth (nodeEB t s) w) := by
  obtain ⟨TL, tc, TA, td, L, c, A, d, rfl, hty, hlab, hok, hk, _, _⟩ := h.open
  obtain ⟨SL, sc, SA, sd, M, c', B, d', rfl, hty', hlab', hok', hk', _, _⟩ := h'.open
  obtain ⟨W1, hW1⟩ : ∃ W1, (w.alloc (.cells #[.int .i64 t.top.kind, .string t.top.name, .int .i64 t.top.num, .int .i64 t.top.type.top.kind, .slice TL t.top.type.top.labels.length tc, .slice TA t.top.type.kids.length td, .slice L t.top.labels.length c, .slice A t.kids.length d] 38)).alloc (.cells #[.int .i64 s.top.kind, .string s.top.name, .int .i64 s.top.num, .int .i64 s.top.type.top.kind, .slice SL s.top.type.top.labels.length sc, .slice SA s.top.type.kids.length sd, .slice M s.top.labels.length c', .slice B s.kids.length d'] 38) = W1 := ⟨_, rfl⟩
  obtain ⟨H, hH⟩ : ∃ H, w.heap.size = H := ⟨_, rfl⟩
  have hb1 : Below w.heap.size w W1 := by rw [← hW1]; exact ((Below.refl _ _).alloc (Nat.le_refl _) _).alloc (by simp) _
  have b0 : Box8 W1 H 38 (.int .i64 t.top.kind) (.string t.top.name) (.int .i64 t.top.num) (.int .i64 t.top.type.top.kind) (.slice TL t.top.type.top.labels.length tc) (.slice TA t.top.type.kids.length td) (.slice L t.top.labels.length c) (.slice A t.kids.length d) := by
    rw [← hW1, ← hH]
    exact (Box8.new w 38 (.int .i64 t.top.kind) (.string t.top.name) (.int .i64 t.top.num) (.int .i64 t.top.type.top.kind) (.slice TL t.top.type.top.labels.length tc) (.slice TA t.top.type.kids.length td) (.slice L t.top.labels.length c) (.slice A t.kids.length d)).alloc _
  have b1 : Box8 W1 (H + 1) 38 (.int .i64 s.top.kind) (.string s.top.name) (.int .i64 s.top.num) (.int .i64 s.top.type.top.kind) (.slice SL s.top.type.top.labels.length sc) (.slice SA s.top.type.kids.length sd) (.slice M s.top.labels.length c') (.slice B s.kids.length d') := by
    rw [← hW1, ← hH]
    have := Box8.new (w.alloc (.cells #[.int .i64 t.top.kind, .string t.top.name, .int .i64 t.top.num, .int .i64 t.top.type.top.kind, .slice TL t.top.type.top.labels.length tc, .slice TA t.top.type.kids.length td, .slice L t.top.labels.length c, .slice A t.kids.length d] 38)) 38 (.int .i64 s.top.kind) (.string s.top.name) (.int .i64 s.top.num) (.int .i64 s.top.type.top.kind) (.slice SL s.top.type.top.labels.length sc) (.slice SA s.top.type.kids.length sd) (.slice M s.top.labels.length c') (.slice B s.kids.length d')
    rw [World.size_alloc] at this
    exact this
  have hts : t.top.type.size ≤ 1048577 := by have := size_wt t.top.type; omega
  have HT := Lib.hid (implEqualType_any t.top.type s.top.type W1 _ _ (hty.keep hb1) (hty'.keep hb1) hts)
  have HL : Hid (∀ W2, Below w.heap.size w W2 → Calls Try.prog 53 #[.slice L t.top.labels.length c, .slice M s.top.labels.length c'] W2 (Tells (same t.top.labels s.top.labels) W2)) := Lib.hid (fun W2 hb => sEq_any L M c c' t.top.labels s.top.labels W2 (hlab.below hb) (hlab'.below hb) hok.2.2.2.2.2.1)
  have hnode : nodeEB t s = (decide (t.top.kind = s.top.kind) && (decide (t.top.name = s.top.name) && (decide (t.top.num = s.top.num) && (same t.top.type s.top.type && (same t.top.labels s.top.labels && decide (t.kids.length = s.kids.length)))))) := rfl
  generalize nodeEB t s = r at hnode ⊢
  generalize t.top.type.top.labels.length = g1 at HT hW1 b0 ⊢
  generalize s.top.type.top.labels.length = g2 at HT hW1 b1 ⊢
  generalize t.top.type.kids.length = g3 at HT hW1 b0 ⊢
  generalize s.top.type.kids.length = g4 at HT hW1 b1 ⊢
  generalize t.top.type.top.kind = g5 at HT hW1 b0 ⊢
  generalize s.top.type.top.kind = g6 at HT hW1 b1 ⊢
  generalize same t.top.type s.top.type = sy at HT hnode
  generalize t.top.labels.length = n1 at HL hW1 b0 ⊢
  generalize s.top.labels.length = n2 at HL hW1 b1 ⊢
  generalize same t.top.labels s.top.labels = sl at HL hnode
  generalize t.kids.length = m1 at hW1 b0 hnode hk ⊢
  generalize s.kids.length = m2 at hW1 b1 hnode hk' ⊢
  generalize t.top.kind = q1 at hW1 b0 hnode ⊢
  generalize s.top.kind = q2 at hW1 b1 hnode ⊢
  generalize t.top.name = s1 at hW1 b0 hnode ⊢
  generalize s.top.name = s2 at hW1 b1 hnode ⊢
  generalize t.top.num = p1 at hW1 b0 hnode ⊢
  generalize s.top.num = p2 at hW1 b1 hnode ⊢
  have HW1 := Lib.hid hW1
  have HB1 := Lib.hid hb1
  have B0 := Lib.hid b0
  have B1 := Lib.hid b1
  have HN := Lib.hid hnode
  have x0 := b0.c0
  have x1 := b0.c1
  have x2 := b0.c2
  have x3 := b0.c3
  have x4 := b0.c4
  have x5 := b0.c5
  have x6 := b0.c6
  have x7 := b0.c7
  have y0 := b1.c0
  have y1 := b1.c1
  have y2 := b1.c2
  have y3 := b1.c3
  have y4 := b1.c4
  have y5 := b1.c5
  have y6 := b1.c6
  have y7 := b1.c7
  clear h h' hty hty' hlab hlab' hok hok' hW1 hb1 b0 b1 hnode hts hw
  have no : r = false → Hid (Truth r w (.returned (.bool false)) W1) := fun e => Lib.hid ⟨by rw [e], HB1.out⟩
  have NO := Lib.hid no
  clear no
  by_cases hk1 : q1 = q2
  · have ek : (q1 == q2) = true := beq_iff_eq.2 hk1
    by_cases hk2 : s1 = s2
    · have es : (s1.toList == s2.toList) = true := by rw [hk2]; exact beq_iff_eq.2 rfl
      by_cases hk3 : p1 = p2
      · have ep : (p1 == p2) = true := beq_iff_eq.2 hk3
        have HN2 : Hid (r = (sy && (sl && decide (m1 = m2)))) := Lib.hid (by rw [HN.out, decide_eq_true hk1, decide_eq_true hk2, decide_eq_true hk3]; rfl)
        clear hk1 hk2 hk3 HN NO
        cases sy with
        | false =>
          go_enter Try.func41, Try.ntmps41
          go_wp2_with fail
          rw [HW1.out]
          go_wp2_with fail
          refine HT.out.mono ?_
          rintro e w2 ⟨rfl, hb2⟩
          have HF : Hid (Truth r w (.returned (.bool false)) w2) := Lib.hid ⟨by rw [HN2.out]; rfl, HB1.out.trans (hb2.mono HB1.out.size)⟩
          clear hb2 x0 x1 x2 x3 x4 x5 x6 x7 y0 y1 y2 y3 y4 y5 y6 y7
          go_wp2_with fail
          go_ret
          exact HF.out
        | true =>
          go_enter Try.func41, Try.ntmps41
          go_wp2_with fail
          rw [HW1.out]
          go_wp2_with fail
          refine HT.out.mono ?_
          rintro e w2 ⟨rfl, hb2⟩
          have HB2 := Lib.hid (HB1.out.trans (hb2.mono HB1.out.size))
          have b0 := B0.out.under hb2 B0.out.lt
          have b1 := B1.out.under hb2 B1.out.lt
          clear hb2 x0 x1 x2 x3 x4 x5 x6 x7 y0 y1 y2 y3 y4 y5 y6 y7
          have x6 := b0.c6
          have x7 := b0.c7
          have y6 := b1.c6
          have y7 := b1.c7
          have HC := Lib.hid (HL.out w2 HB2.out)
          have B2 := Lib.hid b0
          have B3 := Lib.hid b1
          clear b0 b1
          cases sl with
          | false =>
            go_wp2_with fail
            refine HC.out.mono ?_
            rintro e w3 ⟨rfl, i, rfl⟩
            have HF : Hid (Truth r w (.returned (.bool false)) (World.drewN w2 i)) := Lib.hid ⟨by rw [HN2.out]; rfl, below_drewN HB2.out i⟩
            clear x6 x7 y6 y7
            go_wp2_with fail
            go_ret
            exact HF.out
          | true =>
            have HE : Hid (r = ((m1 : Int) == (m2 : Int))) := Lib.hid (by
              rw [HN2.out, Bool.true_and, Bool.true_and]
              by_cases h : m1 = m2
              · subst h; simp
              · have h' : (m1 : Int) ≠ (m2 : Int) := by omega
                rw [decide_eq_false h, beq_eq_false_iff_ne.2 h'])
            go_wp2_with fail
            refine HC.out.mono ?_
            rintro e w3 ⟨rfl, i, rfl⟩
            have HF : Hid (Truth r w (.returned (.bool ((m1 : Int) == (m2 : Int)))) (World.drewN w2 i)) := Lib.hid ⟨by rw [HE.out], below_drewN HB2.out i⟩
            clear x6 x7 y6 y7
            have x7 : (World.drewN w2 i).cell? ⟨H, 7, none⟩ = some (.slice A m1 d) := B2.out.c7
            have y7 : (World.drewN w2 i).cell? ⟨H + 1, 7, none⟩ = some (.slice B m2 d') := B3.out.c7
            go_wp2_with fail
            go_ret
            exact HF.out
      · have ep : (p1 == p2) = false := beq_eq_false_iff_ne.2 hk3
        have HF := NO.out (by rw [HN.out, decide_eq_false hk3]; simp)
        clear hk1 hk2 hk3 HN HT HL NO
        go_enter Try.func41, Try.ntmps41
        go_wp2_with fail
        rw [HW1.out]
        go_wp2_with fail
        go_ret
        exact HF.out
    · have es : (s1.toList == s2.toList) = false := str_ne hk2
      have HF := NO.out (by rw [HN.out, decide_eq_false hk2]; simp)
      clear hk1 hk2 HN HT HL NO
      go_enter Try.func41, Try.ntmps41
      go_wp2_with fail
      rw [HW1.out]
      go_wp2_with fail
      go_ret
      exact HF.out
  · have ek : (q1 == q2) = false := beq_eq_false_iff_ne.2 hk1
    have HF := NO.out (by rw [HN.out, decide_eq_false hk1]; rfl)
    clear hk1 HN HT HL NO
    go_enter Try.func41, Try.ntmps41
    go_wp2_with fail
    rw [HW1.out]
    go_wp2_with fail
    go_ret
    exact HF.out
end Go.Proofs.Ythcfgpjldhiinaa
