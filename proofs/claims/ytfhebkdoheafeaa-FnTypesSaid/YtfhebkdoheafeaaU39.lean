/-
  Merged by program: TyField, IdxI.
-/
import Derived.Test.YtfhebkdoheafeaaU8
import Derived.Test.YtfhebkdoheafeaaU13
import Derived.Test.YtfhebkdoheafeaaU38
import Derived.Test.YtfhebkdoheafeaaShelf

/-
  The model's FieldType.
-/
namespace Go.Proofs.Ytfhebkdoheafeaa
open Go.RowKit

def zeroTy : Ty := .node ⟨0, []⟩ []
/-- the type of a field, and whether there is one -/
def fieldT (t : Ty) (x : ByteArray) : Ty × Bool :=
  if validB t = true ∧ t.top.kind = 3 ∧ 0 ≤ Lib.idxOfS t.top.labels x then (t.kids.getD (Lib.idxOfS t.top.labels x).toNat zeroTy, true) else (zeroTy, false)
/-- a type in new memory, and a truth -/
def MadeP (p : Ty × Bool) (w : World) (e : Ending) (w' : World) : Prop :=
  ∃ (L A : Option Addr) (c d : Nat) (fp : List Nat), e = .returned (.tuple #[.agg #[.int .i64 p.1.top.kind, .slice L p.1.top.labels.length c, .slice A p.1.kids.length d], .bool p.2]) ∧
    OTy w' p.1 [.int .i64 p.1.top.kind, .slice L p.1.top.labels.length c, .slice A p.1.kids.length d] fp ∧ (∀ b ∈ fp, w.heap.size ≤ b ∧ b < w'.heap.size) ∧ Below w.heap.size w w'
theorem zero_own (w : World) : OTy w zeroTy [.int .i64 0, .slice none 0 0, .slice none 0 0] [] :=
  OTy.node ⟨0, []⟩ [] none none 0 0 [] (fun _ => []) ⟨by decide, by decide, by decide, by simp⟩ ⟨rfl, .inl ⟨rfl, rfl⟩⟩ (by decide) ⟨rfl, .inl ⟨rfl, rfl⟩⟩ (fun j t hj => by simp at hj) (by simp [blk])
theorem made_zero {w w' : World} (hb : Below w.heap.size w w') : MadeP (zeroTy, false) w (.returned (.tuple #[.agg #[.int .i64 0, .slice none 0 0, .slice none 0 0], .bool false])) w' :=
  ⟨none, none, 0, 0, [], rfl, zero_own w', by simp, hb⟩
theorem valid_rec {a : TyA} {ks : List Ty} (h : validB (.node a ks) = true) (h3 : a.kind = 3) : ks.length = a.labels.length := by
  unfold validB at h
  rw [form_node] at h
  unfold formA at h
  rw [if_pos h3] at h
  simp at h
  omega
theorem made_some {w W2 w3 U : World} {t : Ty} {e : Ending} {G : Nat} (h : MadeT t W2 e w3) (hb : Below w.heap.size w W2) (hG : G < W2.heap.size) (hwG : w.heap.size ≤ G) (hU : w3.grownBy U (some G)) :
    ∃ (L A : Option Addr) (c d : Nat), e = .returned (.agg #[.int .i64 t.top.kind, .slice L t.top.labels.length c, .slice A t.kids.length d]) ∧
      MadeP (t, true) w (.returned (.tuple #[.agg #[.int .i64 t.top.kind, .slice L t.top.labels.length c, .slice A t.kids.length d], .bool true])) U := by
  obtain ⟨L, A, c, d, fp, rfl, hot, hfp, hb3⟩ := h
  have hs := hb.size
  have hsU := hU.size
  refine ⟨L, A, c, d, rfl, L, A, c, d, fp, rfl, hot.keep hU (fun b hm e => by injection e with e; have := (hfp b hm).1; omega), fun b hm => ?_, (hb.trans (hb3.mono hs)).grown hU (by have := hb3.size; omega) (fun k hk => by injection hk with hk; omega)⟩
  have := hfp b hm
  omega

theorem idx_lt {xs : List ByteArray} {x : ByteArray} {m : Nat} (h : Lib.idxOfS xs x = (m : Int)) : m < xs.length := by
  have gen : ∀ (zs : List ByteArray) (i : Nat), Lib.idxFromS zs x i = -1 ∨ Lib.idxFromS zs x i < i + zs.length := by
    intro zs
    induction zs with
    | nil => intro i; simp [Lib.idxFromS]
    | cons z zs ih =>
      intro i
      unfold Lib.idxFromS
      split
      · simp; omega
      · have := ih (i + 1)
        simp at this ⊢
        omega
  have h2 := gen xs 0
  unfold Lib.idxOfS at h
  omega

set_option maxHeartbeats 1600000 in
set_option maxRecDepth 100000 in
theorem specField_any (t : Ty) (x : ByteArray) (w : World) (cs : List Value) (h : RTy w t cs) (hw : wt t ≤ 1048576) : Calls Try.prog 24 #[.agg cs.toArray, .string x] w (MadeP (fieldT t x) w) := by
  obtain ⟨a, ks⟩ := t
  obtain ⟨L, c, A, d, rfl, k1, k2, k3, k4, k5, k6, hp⟩ := h.out
  have hidx := idx_le a.labels x
  have hll := (wt_labels hw).1
  obtain ⟨W1, hW1⟩ : ∃ W1, (w.alloc (.cells #[.int .i64 a.kind, .slice L a.labels.length c, .slice A ks.length d] 27)).alloc (.cells #[.int .i64 0, .slice none 0 0, .slice none 0 0] 27) = W1 := ⟨_, rfl⟩
  obtain ⟨H, hH⟩ : ∃ H, w.heap.size = H := ⟨_, rfl⟩
  have hz1s : W1.heap.size = H + 2 := by rw [← hW1, ← hH]; simp
  have b0 : Box3 W1 H 27 (.int .i64 a.kind) (.slice L a.labels.length c) (.slice A ks.length d) := by rw [← hW1, ← hH]; exact (Box3.new w _ _ _ _).alloc _
  have b1 : Box3 W1 (H + 1) 27 (.int .i64 0) (.slice none 0 0) (.slice none 0 0) := by
    rw [← hW1, ← hH]
    have := Box3.new (w.alloc (.cells #[.int .i64 a.kind, .slice L a.labels.length c, .slice A ks.length d] 27)) 27 (.int .i64 0) (.slice none 0 0) (.slice none 0 0)
    simpa using this
  have hb1 : Below w.heap.size w W1 := by rw [← hW1]; exact ((Below.refl _ _).alloc (Nat.le_refl _) _).alloc (by simp) _
  have HIX := Lib.hid (specIndex_any L c a.labels x W1 (k1.below hb1) k4)
  have HV := Lib.hid (specValid_any (.node a ks) W1 _ (h.keep hb1) hw)
  have HWT := Lib.hid hw
  have HW1 := Lib.hid hW1
  have HP := Lib.hid (hp.keep hb1)
  have HB1 := Lib.hid hb1
  have B0 := Lib.hid b0
  have B1 := Lib.hid b1
  have HH := Lib.hid hH
  have HZ := Lib.hid hz1s
  have x0 := b0.c0
  have x1 := b0.c1
  have x2 := b0.c2
  obtain ⟨n, hn⟩ : ∃ n, Lib.idxOfS a.labels x = n := ⟨_, rfl⟩
  rw [hn] at HIX hidx
  have HNN := Lib.hid hn
  clear h hw hW1 hp hb1 b0 b1 k1 k5 hz1s hn
  go_enter Try.func24, Try.ntmps24
  go_wp2_with fail
  rw [HW1.out]
  refine HIX.out.mono ?_
  rintro e w' ⟨rfl, rfl⟩
  go_wp2_with fail
  refine HV.out.mono ?_
  rintro e W2 ⟨rfl, hb2⟩
  have hz2 := hb2.size
  have hzz := HZ.out
  have HB2 := Lib.hid (HB1.out.trans (hb2.mono HB1.out.size))
  have HP2 := Lib.hid (HP.out.keep hb2)
  have B20 := Lib.hid (B0.out.under hb2 B0.out.lt)
  have B21 := Lib.hid (B1.out.under hb2 B1.out.lt)
  clear hb2 x0 x1 x2
  have x0 := B20.out.c0
  have x2 := B20.out.c2
  have r0 := B21.out.c0
  have r1 := B21.out.c1
  have r2 := B21.out.c2
  have s0 := B21.out.free 0
  have s1 := B21.out.free 1
  have s2 := B21.out.free 2
  cases hv : validB (.node a ks)
  · skip
    have HF : Hid (fieldT (.node a ks) x = (zeroTy, false)) := Lib.hid (by unfold fieldT; rw [hv]; simp)
    go_wp2_with fail
    generalize hU : ((W2.setCell ⟨H + 1, 0, none⟩ (.int .i64 0)).setCell ⟨H + 1, 1, none⟩ (.slice none 0 0)).setCell ⟨H + 1, 2, none⟩ (.slice none 0 0) = U
    have hgU : W2.grownBy U (some (H + 1)) := by rw [← hU]; exact grown_set (grown_set (grown_set (World.grownBy.refl _ _) _) _) _
    have u1 : Box3 U (H + 1) 27 (.int .i64 0) (.slice none 0 0) (.slice none 0 0) := by
      rw [← hU]
      exact ((B21.out.set0 _).set1 _).set2 _
    have HRR : Hid (MadeP (fieldT (.node a ks) x) w (.returned (.tuple #[.agg #[.int .i64 0, .slice none 0 0, .slice none 0 0], .bool false])) U) := Lib.hid (by
      rw [HF.out]
      exact made_zero (HB2.out.grown hgU HB2.out.size (fun k hk => by injection hk with hk; have := HH.out; omega)))
    have t0 := u1.c0
    have t1 := u1.c1
    have t2 := u1.c2
    clear hU hgU u1 r0 r1 r2 s0 s1 s2
    exact bodyPost_ret (v := .tuple #[.agg #[.int .i64 0, .slice none 0 0, .slice none 0 0], .bool false]) (by simp [results, Try.results24, go_sem, t0, t1, t2]) rfl HRR.out
  · by_cases h3 : a.kind = 3
    · by_cases hn0 : n < 0
      · skip
        have HF : Hid (fieldT (.node a ks) x = (zeroTy, false)) := Lib.hid (by unfold fieldT; rw [if_neg]; rintro ⟨_, _, h⟩; have h' : 0 ≤ Lib.idxOfS a.labels x := h; rw [HNN.out] at h'; omega)
        go_wp2_with fail
        generalize hU : ((W2.setCell ⟨H + 1, 0, none⟩ (.int .i64 0)).setCell ⟨H + 1, 1, none⟩ (.slice none 0 0)).setCell ⟨H + 1, 2, none⟩ (.slice none 0 0) = U
        have hgU : W2.grownBy U (some (H + 1)) := by rw [← hU]; exact grown_set (grown_set (grown_set (World.grownBy.refl _ _) _) _) _
        have u1 : Box3 U (H + 1) 27 (.int .i64 0) (.slice none 0 0) (.slice none 0 0) := by
          rw [← hU]
          exact ((B21.out.set0 _).set1 _).set2 _
        have HRR : Hid (MadeP (fieldT (.node a ks) x) w (.returned (.tuple #[.agg #[.int .i64 0, .slice none 0 0, .slice none 0 0], .bool false])) U) := Lib.hid (by
          rw [HF.out]
          exact made_zero (HB2.out.grown hgU HB2.out.size (fun k hk => by injection hk with hk; have := HH.out; omega)))
        have t0 := u1.c0
        have t1 := u1.c1
        have t2 := u1.c2
        clear hU hgU u1 r0 r1 r2 s0 s1 s2
        exact bodyPost_ret (v := .tuple #[.agg #[.int .i64 0, .slice none 0 0, .slice none 0 0], .bool false]) (by simp [results, Try.results24, go_sem, t0, t1, t2]) rfl HRR.out
      · have hvr := valid_rec hv h3
        obtain ⟨m, rfl⟩ : ∃ m : Nat, n = m := ⟨n.toNat, by omega⟩
        have hnl : m < a.labels.length := by
          have h2 := HNN.out
          exact idx_lt h2
        have hmk : m < ks.length := by omega
        have HF : Hid (fieldT (.node a ks) x = (ks[m], true)) := Lib.hid (by
          unfold fieldT
          rw [if_pos ⟨hv, h3, by show 0 ≤ Lib.idxOfS a.labels x; rw [HNN.out]; omega⟩]
          show (ks.getD (Lib.idxOfS a.labels x).toNat zeroTy, true) = _
          rw [HNN.out]
          simp [List.getD, hmk])
        obtain ⟨ad, p, c0, c1, c2, rfl, hpe, hr, q0, q1, q2⟩ := kid_at HP2.out (Below.refl _ _) hmk
        have hwk : wt ks[m] ≤ 1048576 := Nat.le_trans (kid_wt_le (List.getElem_mem hmk)) HWT.out
        have HC := Lib.hid (l3Copy_any ks[m] W2 [c0, c1, c2] hr hwk)
        clear hr hwk hv hvr
        go_wp2_with fail
        refine HC.out.mono ?_
        rintro e w3 hmade
        have hb3 : Below W2.heap.size W2 w3 := by
          obtain ⟨_, _, _, _, _, _, _, _, hb3⟩ := hmade
          exact hb3
        have HBX := Lib.hid (B21.out.under hb3 B21.out.lt)
        have HM := Lib.hid (fun (U : World) (hU : w3.grownBy U (some (H + 1))) => made_some (w := w) (U := U) hmade HB2.out (by omega) (by have := HH.out; omega) hU)
        obtain ⟨LL, AA, lc, dd, rfl, _⟩ := HM.out w3 (World.grownBy.refl _ _)
        have HM2 : Hid (∀ U : World, w3.grownBy U (some (H + 1)) → MadeP (fieldT (.node a ks) x) w (.returned (.tuple #[.agg #[.int .i64 ks[m].top.kind, .slice LL ks[m].top.labels.length lc, .slice AA ks[m].kids.length dd], .bool true])) U) := Lib.hid (by
          intro U hU
          obtain ⟨L9, A9, c9, d9, e9, h9⟩ := HM.out U hU
          rw [HF.out]
          injection e9 with e9
          rw [← e9] at h9
          exact h9)
        clear HM hmade hb3 r0 r1 r2 s0 s1 s2 x0 x2 q0 q1 q2
        generalize ks[m].top.kind = y0 at HM2 ⊢
        generalize ks[m].top.labels.length = y1 at HM2 ⊢
        generalize ks[m].kids.length = y2 at HM2 ⊢
        have r0 := HBX.out.c0
        have r1 := HBX.out.c1
        have r2 := HBX.out.c2
        have s0 := HBX.out.free 0
        have s1 := HBX.out.free 1
        have s2 := HBX.out.free 2
        go_wp2_with fail
        generalize hU : ((w3.setCell ⟨H + 1, 0, none⟩ (.int .i64 y0)).setCell ⟨H + 1, 1, none⟩ (.slice LL y1 lc)).setCell ⟨H + 1, 2, none⟩ (.slice AA y2 dd) = U
        have hgU : w3.grownBy U (some (H + 1)) := by rw [← hU]; exact grown_set (grown_set (grown_set (World.grownBy.refl _ _) _) _) _
        have u1 : Box3 U (H + 1) 27 (.int .i64 y0) (.slice LL y1 lc) (.slice AA y2 dd) := by
          rw [← hU]
          exact ((HBX.out.set0 _).set1 _).set2 _
        have HRR := Lib.hid (HM2.out U hgU)
        have t0 := u1.c0
        have t1 := u1.c1
        have t2 := u1.c2
        clear hU hgU u1 r0 r1 r2 s0 s1 s2
        exact bodyPost_ret (v := .tuple #[.agg #[.int .i64 y0, .slice LL y1 lc, .slice AA y2 dd], .bool true]) (by simp [results, Try.results24, go_sem, t0, t1, t2]) rfl HRR.out
    · skip
      have HF : Hid (fieldT (.node a ks) x = (zeroTy, false)) := Lib.hid (by unfold fieldT; rw [if_neg]; rintro ⟨_, h, _⟩; exact h3 h)
      go_wp2_with fail
      generalize hU : ((W2.setCell ⟨H + 1, 0, none⟩ (.int .i64 0)).setCell ⟨H + 1, 1, none⟩ (.slice none 0 0)).setCell ⟨H + 1, 2, none⟩ (.slice none 0 0) = U
      have hgU : W2.grownBy U (some (H + 1)) := by rw [← hU]; exact grown_set (grown_set (grown_set (World.grownBy.refl _ _) _) _) _
      have u1 : Box3 U (H + 1) 27 (.int .i64 0) (.slice none 0 0) (.slice none 0 0) := by
        rw [← hU]
        exact ((B21.out.set0 _).set1 _).set2 _
      have HRR : Hid (MadeP (fieldT (.node a ks) x) w (.returned (.tuple #[.agg #[.int .i64 0, .slice none 0 0, .slice none 0 0], .bool false])) U) := Lib.hid (by
        rw [HF.out]
        exact made_zero (HB2.out.grown hgU HB2.out.size (fun k hk => by injection hk with hk; have := HH.out; omega)))
      have t0 := u1.c0
      have t1 := u1.c1
      have t2 := u1.c2
      clear hU hgU u1 r0 r1 r2 s0 s1 s2
      exact bodyPost_ret (v := .tuple #[.agg #[.int .i64 0, .slice none 0 0, .slice none 0 0], .bool false]) (by simp [results, Try.results24, go_sem, t0, t1, t2]) rfl HRR.out
end Go.Proofs.Ytfhebkdoheafeaa

/-
  The program's IndexOf: the library's slices.Index.
-/
namespace Go.Proofs.Ytfhebkdoheafeaa
open Go.RowKit

set_option maxHeartbeats 400000 in
theorem implIndex_any (g c : Nat) (xs : List ByteArray) (x : ByteArray) (w : World) (h : Sl w (some ⟨g, 0, none⟩) (xs.map Value.string)) (hn : xs.length ≤ 9223372036854775807) :
    Calls Try.prog 51 #[.slice (some ⟨g, 0, none⟩) xs.length c, .string x] w (Num (Lib.idxOfS xs x) w) := by
  have hcells : ∀ (j : Nat), j < xs.length → w.cell? ⟨g, 0 + j, none⟩ = some (.string (xs.getD j ByteArray.empty)) := by
    intro j hj
    obtain ⟨ad', e, hcc⟩ := h j (.string xs[j]) (by simp [hj])
    injection e with e
    subst e
    rw [Addr.add_lit] at hcc
    rw [hcc]
    simp [List.getD, hj]
  have HC := Lib.hid hcells
  clear hcells h
  go_enter Try.func51, Try.ntmps51
  go_wp2_with (go_at_call 81; refine (Try.slices_Index_string g 0 xs.length c xs x _ (Nat.le_refl _) hn HC.out).mono ?_; rintro e w' ⟨rfl, rfl⟩)
  go_ret
  exact ⟨by simp, rfl⟩
end Go.Proofs.Ytfhebkdoheafeaa
