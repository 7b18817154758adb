/-
  Merged by program: LawM, MkB, SzDc, ToDc.
-/
import Derived.Test.YtlikmgkjilmjpaaGreatI9
import Derived.Test.YtlikmgkjilmjpaaGreatI13
import Derived.Test.YtlikmgkjilmjpaaGreatI8
import Derived.Test.YtlikmgkjilmjpaaGreatI11
import Derived.Test.YtlikmgkjilmjpaaGreatI3
import Derived.Test.YtlikmgkjilmjpaaGreatI5
import Derived.Test.YtlikmgkjilmjpaaGreatI6

/-
  What the laws with marks over schemas, databases and rows of values want.
-/
namespace Go.Proofs.YtlikmgkjilmjpaaGreat
open Go.RowKit

theorem OSc.onlyM {w w' : World} {t : Sc} {cs : List Value} {fp gp : List Nat} (h : OSc w t cs fp) (ho : Only gp w w') (hne : ∀ b ∈ fp, b ∉ gp) : OSc w' t cs fp := (kDc.list 98).only h ho hne
theorem ODb.onlyM {w w' : World} {t : Db} {cs : List Value} {fp gp : List Nat} (h : ODb w t cs fp) (ho : Only gp w w') (hne : ∀ b ∈ fp, b ∉ gp) : ODb w' t cs fp := (kDd.list 66).only h ho hne
theorem box1_onlyM {w w' : World} {g : Nat} {t : TypeId} {a : Value} {fp : List Nat} (h : Box1 w g t a) (ho : Only fp w w') (hne : g ∉ fp) : Box1 w' g t a := (ho.block g h.lt hne).trans h
theorem only_setCell (w : World) (p : Addr) (u : Value) : Only [p.block] w (w.setCell p u) :=
  have h := (Below.refl 0 w).setCell (p := p) (Nat.zero_le _) u
  ⟨h.os, h.tape, h.output, h.size, fun b _ hb => Below.heap_setCell w p u b (by simpa using hb)⟩
theorem cnt_wtM (t : Ty) : t.cnt ≤ wt t + 1 := by
  have : t.cnt ≤ t.sum (fun a => wtA a + 1) := by
    refine Tr.ind (m := fun t => t.cnt ≤ t.sum (fun a => wtA a + 1)) (fun a ks ih => ?_) t
    rw [cnt_node, Tr.sum_node]
    have h := sum_le Tr.cnt (Tr.sum fun a => wtA a + 1) ks ih
    have h2 : cntK ks = (ks.map Tr.cnt).sum := rfl
    have h3 : wtA a = a.labels.length + total a.labels := rfl
    omega
  unfold wt
  omega
theorem cnt_wvM (t : Va) : t.cntV ≤ 2 * wv t + 2 := by
  have : t.cntV ≤ 2 * t.sum (fun a => wvA a + 1) := by
    refine Tr.ind (m := fun t => t.cntV ≤ 2 * t.sum (fun a => wvA a + 1)) (fun a ks ih => ?_) t
    rw [cntV_node, Tr.sum_node]
    have h : cntVK ks ≤ (ks.map fun t => 2 * t.sum (fun a => wvA a + 1)).sum := sum_le Tr.cntV (fun t => 2 * t.sum (fun a => wvA a + 1)) ks ih
    have h2 : (ks.map fun t => 2 * t.sum (fun a => wvA a + 1)).sum = 2 * (ks.map (Tr.sum fun a => wvA a + 1)).sum := by
      clear ih h
      induction ks with
      | nil => rfl
      | cons x xs ih => simp only [List.map_cons, List.sum_cons, ih]; omega
    have h3 : wvA a = a.labels.length + total a.labels := rfl
    omega
  unfold wv
  omega
theorem sum_wL {α : Type} {f g : α → Nat} (h : ∀ x, f x ≤ 2 * g x + 3) (xs : List α) : (xs.map f).sum ≤ 3 * wL g xs := by
  unfold wL
  induction xs with
  | nil => simp
  | cons x xs ih => have := h x; simp only [List.map_cons, List.sum_cons, List.length_cons] at *; omega
theorem cnt_wSc (t : Sc) : cntSc t ≤ 3 * wSc t := sum_wL (fun d => by have := cnt_wtM d.2; unfold cntDc wDc; omega) t
theorem cnt_wVas (ts : List Va) : cntVK ts ≤ 3 * wL wv ts := sum_wL (fun t => by have := cnt_wvM t; omega) ts
theorem sum_wL9 {α : Type} {f g : α → Nat} (h : ∀ x, f x ≤ 3 * g x + 1) (xs : List α) : (xs.map f).sum ≤ 4 * wL g xs := by
  unfold wL
  induction xs with
  | nil => simp
  | cons x xs ih => have := h x; simp only [List.map_cons, List.sum_cons, List.length_cons] at *; omega
theorem cnt_wDb (t : Db) : cntDb t ≤ 4 * wDb t := sum_wL9 (fun d => by have := cnt_wVas d.2; unfold cntDd wDd; omega) t

theorem cnt_empty (t : Sc) : cntDb (t.map fun d => (d.1, ([] : List Va))) = t.length := by
  induction t with
  | nil => rfl
  | cons d t ih =>
    show (cntDd (d.1, [])) + cntDb (t.map fun d => (d.1, ([] : List Va))) = t.length + 1
    rw [ih]
    show 1 + 0 + t.length = _
    omega

/-- a row of values of the call's own -/
def RVs (w : World) (ts : List Va) (s : Value) : Prop := (kVa.list 47).R w ts [s]
def OVl (w : World) (ts : List Va) (s : Value) (fp : List Nat) : Prop := (kVa.list 47).O w ts [s] fp
theorem OVl.reads {w : World} {ts : List Va} {s : Value} {fp : List Nat} (h : OVl w ts s fp) : RVs w ts s := (kVa.list 47).reads h
theorem OVl.under {w w' : World} {ts : List Va} {s : Value} {fp : List Nat} (h : OVl w ts s fp) (hb : Below w.heap.size w w') : OVl w' ts s fp := (kVa.list 47).under h hb
theorem OVl.onlyM {w w' : World} {ts : List Va} {s : Value} {fp gp : List Nat} (h : OVl w ts s fp) (ho : Only gp w w') (hne : ∀ b ∈ fp, b ∉ gp) : OVl w' ts s fp := (kVa.list 47).only h ho hne
theorem OVl.ol {w : World} {t : List Va} {s : Value} {fp : List Nat} : OVl w t s fp ↔ OL kVa 47 w t s fp := by
  constructor
  · rintro ⟨s', e, h⟩
    injection e with e _
    subst e
    exact h
  · intro h
    exact ⟨s, rfl, h⟩
theorem eqVs_same (ts : List Va) (w : World) (A B : Option Addr) (n m c d : Nat) (h : RVs w ts (.slice A n c)) (h' : RVs w ts (.slice B m d)) : Calls Tryz.prog 40 #[.slice A n c, .slice B m d] w (LawYes w) := eqVas_K ts w h h'
def MarkedVs (s : Value) (fp : List Nat) (k : Int) (w : World) (e : Ending) (w' : World) : Prop :=
  ∃ (t' : List Va) (k' : Int), e = .returned (.int .i64 k') ∧ 0 < k' ∧ k' ≤ 1000000000000 ∧ OVl w' t' s fp ∧ HeldVK k t' k' ∧ Only fp w w'
theorem markVs_any (ts : List Va) (w : World) (A : Option Addr) (n d : Nat) (fp : List Nat) (k : Int) (h : OVl w ts (.slice A n d) fp) (hk : 0 < k) (hkb : k + cntVK ts ≤ 1000000000000) : Calls Tryz.prog 44 #[.slice A n d, .int .i64 k] w (MarkedVs (.slice A n d) fp k w) := by
  obtain ⟨rfl, cells, fs, hl, hown, hkids, hfp, hnd⟩ := (OVl.ol.1 h).parts
  subst hfp
  refine (markVKids_any ts (fun t _ => markVTree t) w A d cells fs k hown hkids hnd hl hk hkb).mono ?_
  rintro e w' ⟨ts', cells', rfl, hlen, hheld, hown', hkids', ho⟩
  refine ⟨ts', _, rfl, by omega, hkb, OVl.ol.2 ?_, hheld, ho⟩
  rw [← hlen] at hown' hnd hl ⊢
  exact ⟨A, d, cells', fs, rfl, hl, hown', hkids', rfl, hnd⟩
theorem heldVs_any (ts : List Va) (w : World) (A : Option Addr) (n d : Nat) (k k' : Int) (h : RVs w ts (.slice A n d)) (hh : HeldVK k ts k') (hk : 0 < k) (hkb : k' ≤ 1000000000000) : Calls Tryz.prog 65 #[.slice A n d, .int .i64 k] w (CountsV k' w) := by
  obtain ⟨rfl, hl, _, hp⟩ := kVas_slice h
  exact heldVKids_any ts (fun t _ => heldVTree t) w A d k k' hp hh hl hk hkb
end Go.Proofs.YtlikmgkjilmjpaaGreat

/-
  Marks one after another: how far they go.
-/
namespace Go.Proofs.YtlikmgkjilmjpaaGreat
open Go.RowKit

theorem markScO (K : Int) (hK : K ≤ 1000000000000) (t : Sc) (w : World) (cs : List Value) (fp : List Nat) (k : Int) (h : OSc w t cs fp) (hk : 0 < k) (hkb : k + cntSc t ≤ K) : Calls Tryz.prog 16 #[.agg cs.toArray, .int .i64 k] w (MarksO fp K w) :=
  (markSc_any t w cs fp k h hk (by omega)).mono fun _ _ ⟨k', he, h1, h2, h3⟩ => ⟨k', he, h1, by omega, h3⟩
theorem markDbO (K : Int) (hK : K ≤ 1000000000000) (t : Db) (w : World) (cs : List Value) (fp : List Nat) (k : Int) (h : ODb w t cs fp) (hk : 0 < k) (hkb : k + cntDb t ≤ K) : Calls Tryz.prog 17 #[.agg cs.toArray, .int .i64 k] w (MarksO fp K w) :=
  (markDbK_any K hK t w cs fp k h hk hkb).mono fun _ _ ⟨_, k', he, h1, h2, _, _, h3⟩ => ⟨k', he, h1, h2, h3⟩
theorem markVaO (K : Int) (hK : K ≤ 1000000000000) (t : Va) (w : World) (cs : List Value) (fp : List Nat) (k : Int) (h : OVa w t cs fp) (hk : 0 < k) (hkb : k + t.cntV ≤ K) : Calls Tryz.prog 18 #[.agg cs.toArray, .int .i64 k] w (MarksO fp K w) :=
  (markValueK_any K hK t w cs fp k h hk hkb).mono fun _ _ ⟨_, k', he, h1, h2, _, _, h3⟩ => ⟨k', he, h1, h2, h3⟩
theorem cnt_posM (t : Ty) : 1 ≤ t.cnt := by
  obtain ⟨a, ks⟩ := t
  rw [cnt_node]
  omega
end Go.Proofs.YtlikmgkjilmjpaaGreat

/-
  How great a TableDecl is, as the laws reckon it. Written by genpair.py.
-/
namespace Go.Proofs.YtlikmgkjilmjpaaGreat
open Go.RowKit

set_option maxHeartbeats 800000 in
theorem szDc_any (x : Dc) (w : World) (cs : List Value) (left : Int) (h : kDc.R w x cs) (h0 : 0 ≤ left) (h1 : left ≤ 1048576) : Calls Tryz.prog 48 #[.agg cs.toArray, .int .i64 left] w (SzV (wDc x) left w) := by
  obtain ⟨tk, TL, TA, tl, tc, ta, td, rfl, hs, hy⟩ := kDc_open h
  obtain ⟨W1, hW1⟩ : ∃ W1, w.alloc (.cells #[.string x.1, .int .i64 tk, .slice TL tl tc, .slice TA ta td] 88) = W1 := ⟨_, rfl⟩
  obtain ⟨H, hH⟩ : ∃ H, w.heap.size = H := ⟨_, rfl⟩
  have hbox : Box4 W1 H 88 (.string x.1) (.int .i64 tk) (.slice TL tl tc) (.slice TA ta td) := by rw [← hW1, ← hH]; exact Box4.new w _ _ _ _ _
  have hb0 : Below w.heap.size w W1 := by rw [← hW1]; exact (Below.refl _ _).alloc (Nat.le_refl _) _
  have HC := Lib.hid (fun (l : Int) (g0 : 0 ≤ l) (g1 : l ≤ 1048576) => szTy_K x.2 W1 _ l (kTy.keep hy hb0) g0 g1)
  have HW1 := Lib.hid hW1
  have HB0 := Lib.hid hb0
  have x0 := hbox.c0
  have x1 := hbox.c1
  have x2 := hbox.c2
  have x3 := hbox.c3
  have HWX : Hid (wDc x = x.1.size + wt x.2) := Lib.hid rfl
  generalize wDc x = wx at HWX ⊢
  generalize wt x.2 = wy at HWX HC
  generalize x.1 = nm at HWX HW1 hs x0 ⊢
  clear h hy hW1 hbox hb0
  by_cases hneg : left - nm.size < 0
  · go_enter Tryz.func48, Tryz.ntmps48
    go_wp2_with fail
    rw [HW1.out]
    go_wp2_with fail
    go_ret
    exact ⟨-1, rfl, by omega, by omega, by omega, HB0.out⟩
  · have HC1 := Lib.hid (HC.out (left - nm.size) (by omega) (by omega))
    go_enter Tryz.func48, Tryz.ntmps48
    go_wp2_with fail
    rw [HW1.out]
    go_wp2_with fail
    refine HC1.out.mono ?_
    rintro e w2 ⟨r, rfl, hs1, hs2, hs3, hb2⟩
    have HS3 := Lib.hid hs3
    have HB2 := Lib.hid (HB0.out.trans (hb2.mono HB0.out.size))
    clear hs3 hb2
    by_cases hz : r < 0
    · go_wp2_with fail
      go_ret
      exact ⟨-1, rfl, by omega, by omega, by omega, HB2.out⟩
    · go_wp2_with fail
      go_ret
      refine ⟨r, rfl, by omega, by omega, fun _ => ?_, HB2.out⟩
      have e2 := HS3.out (by omega)
      have e3 := HWX.out
      omega

set_option maxHeartbeats 800000 in
theorem szDcS_any (xs : List Dc) (w : World) (A : Option Addr) (d : Nat) (left : Int) (hp : RL kDc w A xs) (hl : xs.length ≤ 9223372036854775807) (h0 : 0 ≤ left) (h1 : left ≤ 1048576) :
    Calls Tryz.prog 22 #[.slice A xs.length d, .int .i64 left] w (SzV (wL wDc xs) left w) := by
  have HP := Lib.hid hp
  clear hp
  by_cases hneg : left - xs.length < 0
  · go_enter Tryz.func22, Tryz.ntmps22
    go_wp2_with fail
    go_ret
    exact ⟨-1, rfl, by omega, by omega, by omega, Below.refl _ _⟩
  · go_enter Tryz.func22, Tryz.ntmps22
    go_wp2_with fail
    go_loopw [1, 5] (fun l i wr => ∃ k : Nat, k ≤ xs.length ∧ i = .int .i64 k ∧ ∃ r : Int, l = .int .i64 r ∧ 0 ≤ r ∧ r + xs.length + ((xs.take k).map wDc).sum = left ∧ Below w.heap.size w wr) (fun _ i _ => xs.length - (intOf i).toNat)
    case atStart => exact ⟨0, Nat.zero_le _, rfl, _, rfl, by omega, by simp, Below.refl _ _⟩
    case round =>
      obtain ⟨k, hk, rfl, r, rfl, hr0, hr, hb⟩ := hrel
      have hr1 : r ≤ 1048576 := by omega
      have HR := Lib.hid hr
      clear hr
      by_cases hlt : k < xs.length
      · obtain ⟨ad, p, c0, c1, c2, c3, rfl, hpe, hrt, q0, q1, q2, q3⟩ := rl_at4 kDc_n HP.out hb hlt
        have hst := sum_take_succ wDc xs k hlt
        have hc := szDc_any xs[k] wr [c0, c1, c2, c3] r hrt hr0 hr1
        obtain ⟨m, hm⟩ : ∃ m, wDc xs[k] = m := ⟨_, rfl⟩
        rw [hm] at hst hc
        have HC := Lib.hid hc
        have HST := Lib.hid hst
        clear hc hrt hst hm
        go_wp2_with fail
        refine HC.out.mono ?_
        rintro e w2 ⟨r', rfl, hr2, hr3, hr4, hb2⟩
        have HB3 := Lib.hid (hb.trans (hb2.mono hb.size))
        have HR4 := Lib.hid hr4
        clear hr4 hb2
        by_cases hz : r' < 0
        · go_wp2_with fail
          go_ret
          exact ⟨-1, rfl, by omega, by omega, by omega, HB3.out⟩
        · go_wp2_with fail
          go_roundw
          case rel => exact ⟨k + 1, hlt, by go_num, r', rfl, by omega, by have h1 := HR4.out (by omega); have h2 := HR.out; have h3 := HST.out; omega, HB3.out⟩
          case measure => simp [intOf]; omega
      · have he : k = xs.length := by omega
        have HS : Hid (r + wL wDc xs = left) := by
          have h := HR.out
          rw [he, List.take_length] at h
          show _ = _
          unfold wL
          omega
        clear he
        go_wp2_with fail
        go_ret
        exact ⟨r, rfl, by have := HR.out; omega, by omega, fun _ => HS.out, hb⟩
end Go.Proofs.YtlikmgkjilmjpaaGreat

/-
  A copy of a TableDecl in new memory. Written by genpair.py.
-/
namespace Go.Proofs.YtlikmgkjilmjpaaGreat
open Go.RowKit

theorem infoDc : (Tryz.prog.info? 98).map (fun i => (i.zero, i.size, i.bytes)) = some (some (.agg #[.string ⟨#[]⟩, .int .i64 0, .slice none 0 0, .slice none 0 0]), 4, 72) := by kernel_rfl

set_option maxHeartbeats 1600000 in
set_option maxRecDepth 100000 in
theorem toDc_any (x : Dc) (w : World) (cs : List Value) (h : kDc.R w x cs) (hw : wDc x ≤ 1048576) : Calls Tryz.prog 53 #[.agg cs.toArray] w (MadeK kDc x (fun cs => .agg cs.toArray) w) := by
  obtain ⟨tk, TL, TA, tl, tc, ta, td, rfl, hs, hy⟩ := kDc_open h
  obtain ⟨W1, hW1⟩ : ∃ W1, ((w.alloc (.cells #[.string x.1, .int .i64 tk, .slice TL tl tc, .slice TA ta td] 88)).alloc (.cells #[.string ⟨#[]⟩, .int .i64 0, .slice none 0 0, .slice none 0 0] 98)).alloc (.cells #[.string x.1, .int .i64 0, .slice none 0 0, .slice none 0 0] 98) = W1 := ⟨_, rfl⟩
  obtain ⟨H, hH⟩ : ∃ H, w.heap.size = H := ⟨_, rfl⟩
  have b0 : Box4 W1 H 88 (.string x.1) (.int .i64 tk) (.slice TL tl tc) (.slice TA ta td) := by rw [← hW1, ← hH]; exact ((Box4.new w _ _ _ _ _).alloc _).alloc _
  have b1 : Box4 W1 (H + 1) 98 (.string ⟨#[]⟩) (.int .i64 0) (.slice none 0 0) (.slice none 0 0) := by
    rw [← hW1, ← hH]
    have := (Box4.new (w.alloc (.cells #[.string x.1, .int .i64 tk, .slice TL tl tc, .slice TA ta td] 88)) 98 (.string ⟨#[]⟩) (.int .i64 0) (.slice none 0 0) (.slice none 0 0)).alloc (.cells #[.string x.1, .int .i64 0, .slice none 0 0, .slice none 0 0] 98)
    simpa using this
  have b2 : Box4 W1 (H + 1 + 1) 98 (.string x.1) (.int .i64 0) (.slice none 0 0) (.slice none 0 0) := by
    rw [← hW1, ← hH]
    have := Box4.new ((w.alloc (.cells #[.string x.1, .int .i64 tk, .slice TL tl tc, .slice TA ta td] 88)).alloc (.cells #[.string ⟨#[]⟩, .int .i64 0, .slice none 0 0, .slice none 0 0] 98)) 98 (.string x.1) (.int .i64 0) (.slice none 0 0) (.slice none 0 0)
    simpa using this
  have hb1 : Below w.heap.size w W1 := by rw [← hW1]; exact (((Below.refl _ _).alloc (Nat.le_refl _) _).alloc (by simp) _).alloc (by simp; omega) _
  have hs1 : W1.heap.size = H + 1 + 1 + 1 := by rw [← hW1, ← hH]; simp
  have hwy : wt x.2 ≤ 1048576 := by unfold wDc at hw; omega
  have HC := Lib.hid (toTy_K x.2 W1 _ (kTy.keep hy hb1) hwy)
  have HMK : Hid (∀ (U : World) (rs : List Value) (fp : List Nat), kTy.O U x.2 rs fp → (∀ b ∈ fp, w.heap.size ≤ b ∧ b < U.heap.size) → Below w.heap.size w U → MadeK kDc x (fun cs => .agg cs.toArray) w (.returned (.agg (.string x.1 :: rs).toArray)) U) := Lib.hid (fun U rs fp h1 h2 h3 => ⟨_, fp, rfl, kDc_omake hs h1, h2, h3⟩)
  have HW1 := Lib.hid hW1
  have HB1 := Lib.hid hb1
  have HS1 := Lib.hid hs1
  have HH := Lib.hid hH
  have B1 := Lib.hid b1
  have B2 := Lib.hid b2
  have x0 := b0.c0
  have x1 := b0.c1
  have x2 := b0.c2
  have x3 := b0.c3
  clear h hy hW1 b0 b1 b2 hb1 hs1 hw hwy
  generalize x.1 = nm at HW1 HMK B2 hs x0 ⊢
  go_enter Tryz.func53, Tryz.ntmps53
  go_wp2_with fail
  rw [HW1.out]
  go_wp2_with fail
  refine HC.out.mono ?_
  rintro e w2 ⟨rs, fp, he, ho, hfp, hb2⟩
  obtain ⟨rk, RL, RA, rl, rc, ra, rd, rfl⟩ := kTy_shape (kTy.reads ho)
  subst he
  have hz2 := hb2.size
  have hz1 := HS1.out
  have t1 := B1.out.under hb2 (by omega)
  have t2 := B2.out.under hb2 (by omega)
  have g0 := t2.c0
  have g1 := t2.c1
  have g2 := t2.c2
  have g3 := t2.c3
  have gf1 := t2.free 1
  have gf2 := t2.free 2
  have gf3 := t2.free 3
  have k0 := t1.c0
  have k1 := t1.c1
  have k2 := t1.c2
  have k3 := t1.c3
  have kf0 := t1.free 0
  have kf1 := t1.free 1
  have kf2 := t1.free 2
  have kf3 := t1.free 3
  have HO := Lib.hid ho
  have HFP := Lib.hid hfp
  have HB2 := Lib.hid hb2
  have T1 := Lib.hid t1
  have HZ2 := Lib.hid hz2
  clear ho hfp hb2 t1 t2 hz2 hz1 x0 x1 x2 x3
  go_wp2_with fail
  generalize hV : (((w2.setCell ⟨H + 1 + 1, 1, none⟩ (.int .i64 rk)).setCell ⟨H + 1 + 1, 2, none⟩ (.slice RL rl rc)).setCell ⟨H + 1 + 1, 3, none⟩ (.slice RA ra rd)) = V
  generalize hU : ((((V.setCell ⟨H + 1, 0, none⟩ (.string nm)).setCell ⟨H + 1, 1, none⟩ (.int .i64 rk)).setCell ⟨H + 1, 2, none⟩ (.slice RL rl rc)).setCell ⟨H + 1, 3, none⟩ (.slice RA ra rd)) = U
  have hg5 : w2.grownBy V (some (H + 1 + 1)) := by rw [← hV]; exact grown_set (grown_set (grown_set (World.grownBy.refl _ _) _) _) _
  have hg6 : V.grownBy U (some (H + 1)) := by rw [← hU]; exact grown_set (grown_set (grown_set (grown_set (World.grownBy.refl _ _) _) _) _) _
  have u1 : Box4 U (H + 1) 98 (.string nm) (.int .i64 rk) (.slice RL rl rc) (.slice RA ra rd) := by
    rw [← hU, ← hV]
    exact (((((((T1.out.far (by show H + 1 ≠ H + 1 + 1; omega) _).far (by show H + 1 ≠ H + 1 + 1; omega) _).far (by show H + 1 ≠ H + 1 + 1; omega) _).set0 _).set1 _).set2 _).set3 _)
  have hww := HH.out
  have hz1 := HS1.out
  have hz2 := HZ2.out
  have hs5 := hg5.size
  have hs6 := hg6.size
  have hne : ∀ b ∈ fp, H + 1 + 1 < b := fun b hb => by have := (HFP.out b hb).1; omega
  have hO := kTy.okeep (kTy.okeep HO.out hg5 (fun b hb e => by injection e with e; have := hne b hb; omega)) hg6 (fun b hb e => by injection e with e; have := hne b hb; omega)
  have hbU : Below w.heap.size w U := ((HB1.out.trans (HB2.out.mono HB1.out.size)).grown hg5 (HB1.out.trans (HB2.out.mono HB1.out.size)).size (fun q hq => by injection hq with hq; omega)).grown hg6 (by have := (HB1.out.trans (HB2.out.mono HB1.out.size)).size; omega) (fun q hq => by injection hq with hq; omega)
  have q0 := u1.c0
  have q1 := u1.c1
  have q2 := u1.c2
  have q3 := u1.c3
  have HR := Lib.hid (HMK.out U _ fp hO (fun b hb => by have := HFP.out b hb; omega) hbU)
  clear hO hbU hne hg5 hg6 hV hU u1
  exact bodyPost_ret (v := .agg #[.string nm, .int .i64 rk, .slice RL rl rc, .slice RA ra rd]) (by simp [results, Tryz.results53, go_sem, q0, q1, q2, q3]) rfl HR.out

set_option maxHeartbeats 1600000 in
set_option maxRecDepth 100000 in
theorem toDcS_any (xs : List Dc) (w : World) (A : Option Addr) (d : Nat) (hp : RL kDc w A xs) (hw : wL wDc xs ≤ 1048576) : Calls Tryz.prog 30 #[.slice A xs.length d] w (MadeL' kDc 98 xs w) := by
  obtain ⟨i0, hi, hz0, hz1, hz2⟩ := info_parts infoDc
  have hl : xs.length ≤ 1048576 := by unfold wL at hw; omega
  have HP := Lib.hid hp
  have HWT := Lib.hid hw
  clear hp hw
  go_enter Tryz.func30, Tryz.ntmps30
  go_wp2_with (at_make; refine wpList_make_full _ rfl _ _ 40 rfl w.heap.size 98 i0 (.agg #[.string ⟨#[]⟩, .int .i64 0, .slice none 0 0, .slice none 0 0]) 4 Tryz.underlying40 hi hz0 hz1 _ _ _ _ xs.length rfl rfl rfl rfl (by rw [hz2]; omega) (by unfold maxLen; omega) (Nat.le_refl _) ?_; intro w0 hown0 hgrow0)
  have hb0 : Below w.heap.size w w0 := (Below.refl _ _).grown hgrow0 (Nat.le_refl _) (fun k hk => by cases hk)
  go_loopw [4] (fun i wr => ToLInv kDc 98 xs w i wr) (fun i _ => xs.length - (intOf i).toNat)
  case atStart => exact tolinv_zero kDc 98 xs hown0 hb0
  case round =>
    obtain ⟨k, cells, fs, hk, rfl, hown, hkid, hnd, hbd, hb⟩ := hrel
    have HO := Lib.hid hown
    have HK := Lib.hid hkid
    have HN := Lib.hid hnd
    have HBD := Lib.hid hbd
    have HB := Lib.hid hb
    clear hown hkid hnd hbd
    by_cases hlt : k < xs.length
    · obtain ⟨ad, p, c0, c1, c2, c3, rfl, hpe, hrt, q0, q1, q2, q3⟩ := rl_at4 kDc_n HP.out hb hlt
      have HC := Lib.hid (toDc_any xs[k] wr [c0, c1, c2, c3] hrt (wL_le hlt HWT.out).1)
      clear hrt
      go_wp2_with fail
      refine HC.out.mono ?_
      rintro e w2 ⟨rs, fp, he, hot, hfp, hb2⟩
      obtain ⟨rk, RL, RA, rl, rc, ra, rd, hrs, _, _⟩ := kDc_oopen hot
      subst hrs
      subst he
      generalize xs[k].1 = nm at hot ⊢
      have ho2 : w2.ownsRow w.heap.size 98 4 (.slice (some ⟨w.heap.size, 0, none⟩) xs.length xs.length) xs.length cells := HO.out.kept (row := none) ⟨hb2.os, hb2.tape, hb2.output, hb2.size, fun i hi _ => hb2.block i hi⟩ (.inr (by simp [Value.ownBlock]))
      have hxl : cells.length = xs.length * 4 := ho2.1
      have m0 : w2.cell? ⟨w.heap.size, k * 4, none⟩ = some (cells[k * 4]'(by omega)) := by rw [ho2.cellAt _ (by omega)]; exact List.getElem?_eq_getElem _
      have m1 : w2.cell? ⟨w.heap.size, k * 4 + 1, none⟩ = some (cells[k * 4 + 1]'(by omega)) := by rw [ho2.cellAt _ (by omega)]; exact List.getElem?_eq_getElem _
      have m2 : w2.cell? ⟨w.heap.size, k * 4 + 2, none⟩ = some (cells[k * 4 + 2]'(by omega)) := by rw [ho2.cellAt _ (by omega)]; exact List.getElem?_eq_getElem _
      have m3 : w2.cell? ⟨w.heap.size, k * 4 + 3, none⟩ = some (cells[k * 4 + 3]'(by omega)) := by rw [ho2.cellAt _ (by omega)]; exact List.getElem?_eq_getElem _
      have f0 := ho2.frozenAt (k * 4)
      have f1 := ho2.frozenAt (k * 4 + 1)
      have f2 := ho2.frozenAt (k * 4 + 2)
      have f3 := ho2.frozenAt (k * 4 + 3)
      have HR : Hid (∀ i, i = Value.int .i64 ((k + 1 : Nat) : Int) → ToLInv kDc 98 xs w i (store4 w2 w.heap.size k (.string nm) (.int .i64 rk) (.slice RL rl rc) (.slice RA ra rd))) := fun i hi => tolinv_store4 kDc_n hlt hi HO.out HK.out HN.out HBD.out HB.out hb2 hot hfp
      clear hot hfp hb2 ho2 hb
      go_wp2_with fail
      go_roundw
      case rel => exact HR.out _ (by go_num)
      case measure => simp [intOf]; omega
    · have he : k = xs.length := by omega
      subst he
      have HR := Lib.hid (tolinv_done (a := kDc) (e := 98) (xs := xs) (w := w) (wr := wr) (by omega) ⟨_, cells, fs, Nat.le_refl _, rfl, HO.out, HK.out, HN.out, HBD.out, HB.out⟩)
      clear HO HK HN HBD hb
      go_wp2_with fail
      go_ret
      exact HR.out
end Go.Proofs.YtlikmgkjilmjpaaGreat
