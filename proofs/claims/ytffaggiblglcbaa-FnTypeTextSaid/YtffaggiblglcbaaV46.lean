/-
  Merged by program: TySame, EqNode, EqFunc.
-/
import Derived.Test.YtffaggiblglcbaaV10
import Derived.Lib.SlicesS
import Derived.StillTailTactics
import Derived.Deep.RegionHeld3
import Derived.Test.YtffaggiblglcbaaV29
import Derived.Test.YtffaggiblglcbaaV28

/-
  The model's EqualType: it says whether the two trees are one.
-/
namespace Go.Proofs.Ytffaggiblglcbaa
open Go.RowKit

/-- are the two one? -/
noncomputable def same {β : Type} (x y : β) : Bool := @decide (x = y) (Classical.propDecidable _)
theorem same_yes {β : Type} {x y : β} (h : x = y) : same x y = true := by unfold same; simp [h]
theorem same_no {β : Type} {x y : β} (h : x ≠ y) : same x y = false := by unfold same; simp [h]

def EqTo {β : Type} (xs ys : List β) (k : Nat) : Prop := ∀ j, j < k → xs[j]? = ys[j]?
theorem eqTo_zero {β : Type} (xs ys : List β) : EqTo xs ys 0 := fun j h => by omega
theorem eqTo_succ {β : Type} {xs ys : List β} {k : Nat} (h : EqTo xs ys k) (h1 : k < xs.length) (h2 : k < ys.length) (he : xs[k] = ys[k]) : EqTo xs ys (k + 1) := by
  intro j hj
  by_cases e : j = k
  · subst e
    rw [List.getElem?_eq_getElem h1, List.getElem?_eq_getElem h2, he]
  · exact h j (by omega)
theorem eqTo_all {β : Type} {xs ys : List β} (h : EqTo xs ys xs.length) (hl : xs.length = ys.length) : xs = ys := by
  apply List.ext_getElem?
  intro j
  by_cases hj : j < xs.length
  · exact h j hj
  · rw [List.getElem?_eq_none (by omega), List.getElem?_eq_none (by omega)]
theorem ne_at {β : Type} {xs ys : List β} {k : Nat} (h1 : k < xs.length) (h2 : k < ys.length) (he : xs[k] ≠ ys[k]) : xs ≠ ys := by
  rintro rfl
  exact he rfl

theorem ty_ne {a b : TyA} {ks js : List Ty} (h : a.kind ≠ b.kind ∨ a.labels ≠ b.labels ∨ ks ≠ js) : same (Tr.node a ks) (Tr.node b js) = false := by
  apply same_no
  intro e
  injection e with e1 e2
  subst e1
  subst e2
  rcases h with h | h | h <;> exact h rfl
theorem ty_eq {a b : TyA} {ks js : List Ty} (h1 : a.kind = b.kind) (h2 : a.labels = b.labels) (h3 : ks = js) : same (Tr.node a ks) (Tr.node b js) = true := by
  apply same_yes
  obtain ⟨k, l⟩ := a
  obtain ⟨k', l'⟩ := b
  simp only at h1 h2
  rw [h1, h2, h3]
theorem same_iff {β : Type} {x y : β} : same x y = true ↔ x = y := by unfold same; simp
theorem same_iff_no {β : Type} {x y : β} : same x y = false ↔ x ≠ y := by unfold same; simp

end Go.Proofs.Ytffaggiblglcbaa

/-
  The library's slices.Equal at lists of strings; the program's isEqualNode.
-/
namespace Go.Proofs.Ytffaggiblglcbaa
open Go.RowKit

set_option maxHeartbeats 800000 in
set_option maxRecDepth 100000 in
theorem sEq_any (A B : Option Addr) (c d : Nat) (xs ys : List ByteArray) (w : World) (hA : Sl w A (xs.map Value.string)) (hB : Sl w B (ys.map Value.string)) (hn : xs.length ≤ 9223372036854775807) :
    Calls Try.prog 65 #[.slice A xs.length c, .slice B ys.length d] w (Tells (same xs ys) w) := by
  by_cases hl : xs.length = ys.length
  · have HL := Lib.hid hl
    rw [← hl]
    clear hl
    go_enter Try.func65, Try.ntmps65
    go_wp2_with fail
    go_loopw [13] (fun i wr => ∃ k : Nat, k ≤ xs.length ∧ i = .int .i64 k ∧ EqTo xs ys k ∧ ∃ n, wr = w.drewN n) (fun i _ => xs.length - (intOf i).toNat)
    case atStart => exact ⟨0, Nat.zero_le _, rfl, eqTo_zero _ _, 0, rfl⟩
    case round =>
      obtain ⟨k, hk, rfl, hno, n, rfl⟩ := hrel
      by_cases hlt : k < xs.length
      · have hlt2 : k < ys.length := by have := HL.out; omega
        obtain ⟨ad, rfl, hc⟩ := hA k (.string xs[k]) (by simp [hlt])
        obtain ⟨bd, rfl, hd⟩ := hB k (.string ys[k]) (by simp [hlt2])
        by_cases hx : xs[k] = ys[k]
        · have HN := Lib.hid (eqTo_succ hno hlt hlt2 hx)
          rw [← hx] at hd
          clear hx hno
          go_wp2
          go_quiet (fail)
          go_wp2
          go_roundw
          case rel => exact ⟨k + 1, by omega, by go_num, HN.out, _, rfl⟩
          case measure => simp [intOf]; omega
        · have HR := Lib.hid (same_no (ne_at hlt hlt2 hx))
          have hb := (Lib.bytes_beq_false_iff xs[k] ys[k]).2 hx
          clear hx hno
          go_wp2
          go_quiet (fail)
          go_wp2
          go_ret
          exact ⟨ret_bool HR.out.symm, _, World.drewN_drewN _ _ _⟩
      · have he : k = xs.length := by omega
        have HR := Lib.hid (same_yes (eqTo_all (he ▸ hno) HL.out))
        clear he hno
        go_wp2_with fail
        go_ret
        exact ⟨ret_bool HR.out.symm, n, rfl⟩
  · have HR := Lib.hid (same_no (x := xs) (y := ys) (fun e => hl (by rw [e])))
    go_enter Try.func65, Try.ntmps65
    go_wp2_with fail
    go_ret
    exact ⟨ret_bool HR.out.symm, 0, rfl⟩


/-- are two nodes alike: their kinds, labels, and how many parts they have? -/
noncomputable def nodeB (t s : Ty) : Bool := decide (t.top.kind = s.top.kind) && (same t.top.labels s.top.labels && decide (t.kids.length = s.kids.length))

set_option maxHeartbeats 1600000 in
set_option maxRecDepth 100000 in
theorem node_any (t s : Ty) (w : World) (cs ds : List Value) (h : RTy w t cs) (h' : RTy w s ds) : Calls Try.prog 30 #[.agg cs.toArray, .agg ds.toArray] w (Truth (nodeB t s) w) := by
  obtain ⟨a, ks⟩ := t
  obtain ⟨b, js⟩ := s
  obtain ⟨L, c, A, d, rfl, k1, _, _, k4, _, k6, _⟩ := h.out
  obtain ⟨M, c', B, d', rfl, j1, _, _, j4, _, j6, _⟩ := h'.out
  obtain ⟨W1, hW1⟩ : ∃ W1, (w.alloc (.cells #[.int .i64 a.kind, .slice L a.labels.length c, .slice A ks.length d] 27)).alloc (.cells #[.int .i64 b.kind, .slice M b.labels.length c', .slice B js.length d'] 27) = W1 := ⟨_, rfl⟩
  obtain ⟨H, hH⟩ : ∃ H, w.heap.size = H := ⟨_, rfl⟩
  have b0 : Box3 W1 H 27 (.int .i64 a.kind) (.slice L a.labels.length c) (.slice A ks.length d) := by rw [← hW1, ← hH]; exact (Box3.new w _ _ _ _).alloc _
  have b1 : Box3 W1 (H + 1) 27 (.int .i64 b.kind) (.slice M b.labels.length c') (.slice B js.length d') := by
    rw [← hW1, ← hH]
    have := Box3.new (w.alloc (.cells #[.int .i64 a.kind, .slice L a.labels.length c, .slice A ks.length d] 27)) 27 (.int .i64 b.kind) (.slice M b.labels.length c') (.slice B js.length d')
    simpa using this
  have hb1 : Below w.heap.size w W1 := by rw [← hW1]; exact ((Below.refl _ _).alloc (Nat.le_refl _) _).alloc (by simp) _
  have HC := Lib.hid (sEq_any L M c c' a.labels b.labels W1 (k1.below hb1) (j1.below hb1) k4)
  have hnode : nodeB (.node a ks) (.node b js) = (decide (a.kind = b.kind) && (same a.labels b.labels && decide (ks.length = js.length))) := rfl
  generalize hnb : nodeB (.node a ks) (.node b js) = r at hnode ⊢
  generalize a.labels.length = n1 at HC hW1 b0 k4 ⊢
  generalize b.labels.length = n2 at HC hW1 b1 j4 ⊢
  generalize same a.labels b.labels = sl at HC hnode
  generalize ks.length = m1 at hW1 b0 hnode k6 ⊢
  generalize js.length = m2 at hW1 b1 hnode j6 ⊢
  generalize a.kind = q1 at hW1 b0 hnode ⊢
  generalize b.kind = q2 at hW1 b1 hnode ⊢
  have HW1 := Lib.hid hW1
  have HB1 := Lib.hid hb1
  have B0 := Lib.hid b0
  have B1 := Lib.hid b1
  have HN := Lib.hid hnode
  have x0 : W1.cell? ⟨H, 0, none⟩ = some (.int .i64 q1) := b0.c0
  have x1 : W1.cell? ⟨H, 1, none⟩ = some (.slice L n1 c) := b0.c1
  have x2 : W1.cell? ⟨H, 2, none⟩ = some (.slice A m1 d) := b0.c2
  have y0 : W1.cell? ⟨H + 1, 0, none⟩ = some (.int .i64 q2) := b1.c0
  have y1 : W1.cell? ⟨H + 1, 1, none⟩ = some (.slice M n2 c') := b1.c1
  have y2 : W1.cell? ⟨H + 1, 2, none⟩ = some (.slice B m2 d') := b1.c2
  clear h h' k1 j1 hW1 hb1 b0 b1 hnode hnb
  by_cases hk : q1 = q2
  · have ek : (q1 == q2) = true := beq_iff_eq.2 hk
    have HN2 : Hid (r = (sl && decide (m1 = m2))) := Lib.hid (by rw [HN.out, decide_eq_true hk, Bool.true_and])
    clear hk HN
    cases sl with
    | false =>
      have HF : Hid (∀ i, Truth r w (.returned (.bool false)) (World.drewN W1 i)) := fun i => ⟨by rw [HN2.out]; rfl, below_drewN HB1.out i⟩
      clear HN2
      go_enter Try.func30, Try.ntmps30
      go_wp2_with fail
      rw [HW1.out]
      refine HC.out.mono ?_
      rintro e w2 ⟨rfl, i, rfl⟩
      have u2 : (World.drewN W1 i).cell? ⟨H, 2, none⟩ = some (.slice A m1 d) := B0.out.c2
      have v2 : (World.drewN W1 i).cell? ⟨H + 1, 2, none⟩ = some (.slice B m2 d') := B1.out.c2
      go_wp2_with fail
      go_ret
      exact HF.out _
    | true =>
      have HE : Hid (r = ((m1 : Int) == (m2 : Int))) := Lib.hid (by
        rw [HN2.out, Bool.true_and]
        by_cases h : m1 = m2
        · subst h; simp
        · have h' : (m1 : Int) ≠ (m2 : Int) := by omega
          rw [decide_eq_false h, beq_eq_false_iff_ne.2 h'])
      have HF : Hid (∀ i, Truth r w (.returned (.bool ((m1 : Int) == (m2 : Int)))) (World.drewN W1 i)) := fun i => ⟨by rw [HE.out], below_drewN HB1.out i⟩
      clear HN2 HE
      go_enter Try.func30, Try.ntmps30
      go_wp2_with fail
      rw [HW1.out]
      refine HC.out.mono ?_
      rintro e w2 ⟨rfl, i, rfl⟩
      have u2 : (World.drewN W1 i).cell? ⟨H, 2, none⟩ = some (.slice A m1 d) := B0.out.c2
      have v2 : (World.drewN W1 i).cell? ⟨H + 1, 2, none⟩ = some (.slice B m2 d') := B1.out.c2
      go_wp2_with fail
      go_ret
      exact HF.out _
  · have ek : (q1 == q2) = false := beq_eq_false_iff_ne.2 hk
    have HF : Hid (Truth r w (.returned (.bool false)) W1) := Lib.hid ⟨by rw [HN.out, decide_eq_false hk]; rfl, HB1.out⟩
    clear hk HN HC
    go_enter Try.func30, Try.ntmps30
    go_wp2_with fail
    rw [HW1.out]
    go_wp2_with fail
    go_ret
    exact HF.out
end Go.Proofs.Ytffaggiblglcbaa

/-
  The library's slices.EqualFunc at two levels of types, with the program's isEqualNode.
-/
namespace Go.Proofs.Ytffaggiblglcbaa
open Go.RowKit

/-- two levels whose nodes are alike, one by one -/
def alike (ks js : List Ty) : Prop := ks.length = js.length ∧ ∀ i (h1 : i < ks.length) (h2 : i < js.length), nodeB ks[i] js[i] = true
noncomputable def alikeB (ks js : List Ty) : Bool := @decide (alike ks js) (Classical.propDecidable _)
theorem alike_yes {ks js : List Ty} (h : alike ks js) : alikeB ks js = true := by unfold alikeB; simp [h]
theorem alike_no {ks js : List Ty} (h : ¬ alike ks js) : alikeB ks js = false := by unfold alikeB; simp [h]
theorem alike_iff {ks js : List Ty} : alikeB ks js = true ↔ alike ks js := by unfold alikeB; simp
def AlikeTo (ks js : List Ty) (k : Nat) : Prop := ∀ i (h1 : i < ks.length) (h2 : i < js.length), i < k → nodeB ks[i] js[i] = true
theorem alikeTo_succ {ks js : List Ty} {k : Nat} (h : AlikeTo ks js k) (h1 : k < ks.length) (h2 : k < js.length) (hn : nodeB ks[k] js[k] = true) : AlikeTo ks js (k + 1) := by
  intro i i1 i2 hi
  by_cases e : i = k
  · subst e; exact hn
  · exact h i i1 i2 (by omega)

set_option maxHeartbeats 1600000 in
set_option maxRecDepth 100000 in
theorem eqFunc_any (w0 : World) (ks js : List Ty) (w : World) (A B : Option Addr) (c d : Nat) (h : RowL w0 w A ks) (h' : RowL w0 w B js) (hb0 : Below w0.heap.size w0 w) (hl : ks.length ≤ 9223372036854775807) :
    Calls Try.prog 29 #[.slice A ks.length c, .slice B js.length d, .func (.func 30) #[] #[]] w (Truth (alikeB ks js) w) := by
  by_cases hlen : ks.length = js.length
  · have HP := Lib.hid h
    have HQ := Lib.hid h'
    have HB0 := Lib.hid hb0
    have HL := Lib.hid hlen
    rw [← hlen]
    clear h h' hb0 hlen
    go_enter Try.func29, Try.ntmps29
    go_wp2_with fail
    go_loopw [17] (fun i wr => ∃ k : Nat, k ≤ ks.length ∧ i = .int .i64 k ∧ AlikeTo ks js k ∧ Below w.heap.size w wr) (fun i _ => ks.length - (intOf i).toNat)
    case atStart => exact ⟨0, Nat.zero_le _, rfl, fun i _ _ h => by omega, Below.refl _ _⟩
    case round =>
      obtain ⟨k, hk, rfl, hto, hb⟩ := hrel
      have HTO := Lib.hid hto
      have HB := Lib.hid hb
      clear hto hb
      by_cases hlt : k < ks.length
      · have hlt2 : k < js.length := by have := HL.out; omega
        obtain ⟨ad, p, c0, c1, c2, rfl, hpe, hr, q0, q1, q2⟩ := row_at (HP.out.under HB.out) hlt
        obtain ⟨bd, p', d0, d1, d2, rfl, hpe', hr', q0', q1', q2'⟩ := row_at (HQ.out.under HB.out) hlt2
        obtain ⟨u0, u1, u2, u3, u4, u5, u6, he⟩ := hr.shape
        injection he with e0 he
        injection he with e1 he
        injection he with e2 _
        subst e0 e1 e2
        obtain ⟨v0, v1, v2, v3, v4, v5, v6, he⟩ := hr'.shape
        injection he with e0 he
        injection he with e1 he
        injection he with e2 _
        subst e0 e1 e2
        obtain ⟨W5, hW5⟩ : ∃ W5, (wr.alloc (.cells #[.int .i64 u0, .slice u1 u2 u3, .slice u4 u5 u6] 27)).alloc (.cells #[.int .i64 v0, .slice v1 v2 v3, .slice v4 v5 v6] 27) = W5 := ⟨_, rfl⟩
        have hb5 : Below wr.heap.size wr W5 := by rw [← hW5]; exact ((Below.refl _ _).alloc (Nat.le_refl _) _).alloc (by simp) _
        have hbb := HB0.out.trans ((HB.out.trans (hb5.mono HB.out.size)).mono HB0.out.size)
        have HC := Lib.hid (node_any ks[k] js[k] W5 _ _ (hr.keep hbb) (hr'.keep hbb))
        have HW5 := Lib.hid hW5
        have HB5 := Lib.hid (HB.out.trans (hb5.mono HB.out.size))
        have HS := Lib.hid (fun hf => alikeTo_succ HTO.out hlt hlt2 hf)
        have HN : Hid (nodeB ks[k] js[k] = false → alikeB ks js = false) := Lib.hid (fun hf => alike_no (fun hal => by have := hal.2 k hlt hlt2; rw [hf] at this; cases this))
        obtain ⟨v, hv⟩ : ∃ v, nodeB ks[k] js[k] = v := ⟨_, rfl⟩
        rw [hv] at HS HN HC
        have hbA : Below wr.heap.size wr (wr.alloc (.cells #[.int .i64 u0, .slice u1 u2 u3, .slice u4 u5 u6] 27)) := (Below.refl _ _).alloc (Nat.le_refl _) _
        have s0 := (hbA.cell (World.block_lt_of_cell? wr _ q0')).trans q0'
        have s1 := (hbA.cell (World.block_lt_of_cell? wr _ q1')).trans q1'
        have s2 := (hbA.cell (World.block_lt_of_cell? wr _ q2')).trans q2'
        clear hr hr' hb5 hbb hW5 hv hlt2 hbA q0' q1' q2'
        go_wp2_with fail
        rw [HW5.out]
        refine HC.out.mono ?_
        rintro e w6 ⟨rfl, hb6⟩
        have HB6 := Lib.hid (HB5.out.trans (hb6.mono HB5.out.size))
        clear hb6 HC
        cases v with
        | false =>
          have HF : Hid (Truth (alikeB ks js) w (.returned (.bool false)) w6) := by rw [HN.out rfl]; exact ⟨rfl, HB6.out⟩
          go_wp2_with fail
          go_ret
          exact HF.out
        | true =>
          have HT := Lib.hid (HS.out rfl)
          clear HS HN
          go_wp2_with fail
          go_roundw
          case rel => exact ⟨k + 1, hlt, by go_num, HT.out, HB6.out⟩
          case measure => simp [intOf]; omega
      · have he : k = ks.length := by omega
        have HF : Hid (Truth (alikeB ks js) w (.returned (.bool true)) wr) := by
          rw [alike_yes ⟨HL.out, fun i i1 i2 => HTO.out i i1 i2 (by omega)⟩]
          exact ⟨rfl, HB.out⟩
        clear he
        go_wp2_with fail
        go_ret
        exact HF.out
  · have HF : Hid (Truth (alikeB ks js) w (.returned (.bool false)) w) := Lib.hid ⟨by rw [alike_no (fun hal => hlen hal.1)], Below.refl _ _⟩
    have hne : ((ks.length : Int) == (js.length : Int)) = false := by
      have : (ks.length : Int) ≠ (js.length : Int) := by omega
      exact beq_eq_false_iff_ne.2 this
    generalize ks.length = n1 at hlen hne hl ⊢
    generalize js.length = n2 at hlen hne ⊢
    clear hlen h h' hb0
    go_enter Try.func29, Try.ntmps29
    go_wp2_with fail
    go_ret
    exact HF.out

/-! levels that are alike -/
theorem nodeB_iff {t s : Ty} : nodeB t s = true ↔ t.top.kind = s.top.kind ∧ t.top.labels = s.top.labels ∧ t.kids.length = s.kids.length := by
  unfold nodeB
  rw [Bool.and_eq_true, Bool.and_eq_true, decide_eq_true_iff, same_iff, decide_eq_true_iff]
theorem ty_parts {t s : Ty} (h1 : t.top.kind = s.top.kind) (h2 : t.top.labels = s.top.labels) (h3 : t.kids = s.kids) : t = s := by
  obtain ⟨⟨k, l⟩, ks⟩ := t
  obtain ⟨⟨k', l'⟩, js⟩ := s
  have e1 : k = k' := h1
  have e2 : l = l' := h2
  have e3 : ks = js := h3
  rw [e1, e2, e3]
theorem alike_of_eq (ks : List Ty) : alike ks ks := ⟨rfl, fun _ _ _ => nodeB_iff.2 ⟨rfl, rfl, rfl⟩⟩
theorem alike_cons {t s : Ty} {ks js : List Ty} : alike (t :: ks) (s :: js) ↔ nodeB t s = true ∧ alike ks js := by
  constructor
  · rintro ⟨h1, h2⟩
    refine ⟨h2 0 (by simp) (by simp), by simpa using h1, fun i i1 i2 => ?_⟩
    exact h2 (i + 1) (by simpa using i1) (by simpa using i2)
  · rintro ⟨h1, h2, h3⟩
    refine ⟨by simpa using h2, fun i i1 i2 => ?_⟩
    match i with
    | 0 => exact h1
    | i + 1 => exact h3 i (by simpa using i1) (by simpa using i2)
theorem alike_next : ∀ {ks js : List Ty}, alike ks js → (nextL ks).length = (nextL js).length ∧ (nextL ks = nextL js → ks = js)
  | [], [], _ => ⟨rfl, fun _ => rfl⟩
  | [], _ :: _, h => by have := h.1; simp at this
  | _ :: _, [], h => by have := h.1; simp at this
  | t :: ks, s :: js, h => by
    obtain ⟨h1, h2⟩ := alike_cons.1 h
    obtain ⟨n1, n2, n3⟩ := nodeB_iff.1 h1
    obtain ⟨i1, i2⟩ := alike_next h2
    have e1 : nextL (t :: ks) = t.kids ++ nextL ks := rfl
    have e2 : nextL (s :: js) = s.kids ++ nextL js := rfl
    rw [e1, e2]
    refine ⟨by rw [List.length_append, List.length_append]; omega, fun e => ?_⟩
    obtain ⟨e3, e4⟩ := List.append_inj e n3
    rw [i2 e4, ty_parts n1 n2 e3]
end Go.Proofs.Ytffaggiblglcbaa
