/-
  Merged by program: EqDd, DbF, TySize, TyNum.
-/
import Derived.Test.YtlcpekpgkllbkaaGreatN13
import Derived.StillTailTactics
import Derived.Test.YtlcpekpgkllbkaaGreatN1

/-
  The comparison of a TableData with itself, wherever the two lie. Written by genpair.py.
-/
namespace Go.Proofs.YtlcpekpgkllbkaaGreat
open Go.RowKit

set_option maxHeartbeats 800000 in
set_option maxRecDepth 100000 in
theorem eqDd_same (x : Dd) (w : World) (cs ds : List Value) (h : kDd.R w x cs) (h' : kDd.R w x ds) : Calls Tryz.prog 136 #[.agg cs.toArray, .agg ds.toArray] w (LawYes w) := by
  obtain ⟨TA, ta, td, rfl, hs, hy⟩ := kDd_open h
  obtain ⟨TA', ta', td', rfl, _, hy'⟩ := kDd_open h'
  obtain ⟨W1, hW1⟩ : ∃ W1, (w.alloc (.cells #[.string x.1, .slice TA ta td] 92)).alloc (.cells #[.string x.1, .slice TA' ta' td'] 92) = W1 := ⟨_, rfl⟩
  obtain ⟨H, hH⟩ : ∃ H, w.heap.size = H := ⟨_, rfl⟩
  have b0 : Box2 W1 H 92 (.string x.1) (.slice TA ta td) := by rw [← hW1, ← hH]; exact (Box2.new w _ _ _).alloc _
  have b1 : Box2 W1 (H + 1) 92 (.string x.1) (.slice TA' ta' td') := by
    rw [← hW1, ← hH]
    have := Box2.new (w.alloc (.cells #[.string x.1, .slice TA ta td] 92)) 92 (.string x.1) (.slice TA' ta' td')
    simpa using this
  have hb1 : Below w.heap.size w W1 := by rw [← hW1]; exact ((Below.refl _ _).alloc (Nat.le_refl _) _).alloc (by simp) _
  have HC := Lib.hid (eqVas_K x.2 W1 ((kVa.list 33).keep hy hb1) ((kVa.list 33).keep hy' hb1))
  have HW1 := Lib.hid hW1
  have HB1 := Lib.hid hb1
  have x0 := b0.c0
  have x1 := b0.c1
  have y0 := b1.c0
  have y1 := b1.c1
  generalize x.1 = nm at HW1 x0 y0 hs ⊢
  clear h h' hy hy' hW1 b0 b1 hb1
  go_enter Tryz.func136, Tryz.ntmps136
  go_wp2_with fail
  rw [HW1.out]
  go_wp2_with fail
  refine HC.out.mono ?_
  rintro e w2 ⟨rfl, hb2⟩
  have HB2 := Lib.hid (HB1.out.trans (hb2.mono HB1.out.size))
  clear hb2
  go_wp2_with fail
  go_ret
  exact ⟨rfl, HB2.out⟩

set_option maxHeartbeats 800000 in
set_option maxRecDepth 100000 in
theorem eqDdS_same (xs : List Dd) (w : World) (A B : Option Addr) (c d : Nat) (hA : RL kDd w A xs) (hB : RL kDd w B xs) (hl : xs.length ≤ 9223372036854775807) :
    Calls Tryz.prog 88 #[.slice A xs.length c, .slice B xs.length d] w (LawYes w) := by
  have HA := Lib.hid hA
  have HB := Lib.hid hB
  clear hA hB
  go_enter Tryz.func88, Tryz.ntmps88
  go_wp2_with fail
  go_loopw [5] (fun i wr => ∃ k : Nat, k ≤ xs.length ∧ i = .int .i64 k ∧ Below w.heap.size w wr) (fun i _ => xs.length - (intOf i).toNat)
  case atStart => exact ⟨0, Nat.zero_le _, rfl, Below.refl _ _⟩
  case round =>
    obtain ⟨k, hk, rfl, hb⟩ := hrel
    by_cases hlt : k < xs.length
    · obtain ⟨ad, p, c0, c1, rfl, hpe, hr, q0, q1⟩ := rl_at2 kDd_n HA.out hb hlt
      obtain ⟨bd, p', d0, d1, rfl, hpe', hr', q0', q1'⟩ := rl_at2 kDd_n HB.out hb hlt
      have HR := Lib.hid hr
      have HR' := Lib.hid hr'
      have HBW := Lib.hid hb
      clear hr hr' hb
      go_wp2_with fail
      go_still_tail 8, (by kernel_rfl)
      change wpList _ _ _ _ _ wr.drew
      have hd : Below wr.heap.size wr wr.drew := (Below.refl _ _).drew
      have HC := Lib.hid (eqDd_same xs[k] wr.drew [c0, c1] [d0, d1] (kDd.keep HR.out hd) (kDd.keep HR'.out hd))
      have HB2 := Lib.hid (HBW.out.trans (hd.mono HBW.out.size))
      clear hd
      go_wp2_with fail
      refine HC.out.mono ?_
      rintro e w2 ⟨rfl, hb2⟩
      have HB3 := Lib.hid (HB2.out.trans (hb2.mono HB2.out.size))
      clear hb2
      go_wp2_with fail
      go_roundw
      case rel => exact ⟨k + 1, hlt, by go_num, HB3.out⟩
      case measure => simp [intOf]; omega
    · go_wp2_with fail
      go_ret
      exact ⟨rfl, hb⟩
end Go.Proofs.YtlcpekpgkllbkaaGreat

/-
  The laws' functions on a DB. Written by genwrap.py.
-/
namespace Go.Proofs.YtlcpekpgkllbkaaGreat
open Go.RowKit

set_option maxHeartbeats 800000 in
theorem szDB_any (t : Db) (w : World) (cs : List Value) (left : Int) (h : RDb w t cs) (h0 : 0 ≤ left) (h1 : left ≤ 1048576) : Calls Tryz.prog 30 #[.agg cs.toArray, .int .i64 left] w (SzV (wDb t) left w) := by
  obtain ⟨A, d, rfl, hl, _, hp⟩ := h.open
  obtain ⟨W1, hW1⟩ : ∃ W1, w.alloc (.cells #[.slice A t.length d] 62) = W1 := ⟨_, rfl⟩
  obtain ⟨H, hH⟩ : ∃ H, w.heap.size = H := ⟨_, rfl⟩
  have hbox : Box1 W1 H 62 (.slice A t.length d) := by rw [← hW1, ← hH]; exact Box1.new w _ _
  have hb0 : Below w.heap.size w W1 := by rw [← hW1]; exact (Below.refl _ _).alloc (Nat.le_refl _) _
  have HC := Lib.hid (szDdS_any t W1 A d left (hp.keep hb0) hl h0 h1)
  have HW1 := Lib.hid hW1
  have HB0 := Lib.hid hb0
  have x0 := hbox.c0
  have HWX : Hid (wDb t = wL wDd t) := Lib.hid rfl
  generalize wDb t = wx at HWX ⊢
  generalize wL wDd t = wy at HWX HC
  generalize t.length = n at HC HW1 x0 ⊢
  clear h hp hl hW1 hbox hb0
  go_enter Tryz.func30, Tryz.ntmps30
  go_wp2_with fail
  rw [HW1.out]
  go_wp2_with fail
  refine HC.out.mono ?_
  rintro e w2 ⟨r, rfl, hs1, hs2, hs3, hb2⟩
  have HS3 := Lib.hid hs3
  have HB2 := Lib.hid (HB0.out.trans (hb2.mono HB0.out.size))
  clear hs3 hb2
  by_cases hz : r < 0
  · go_wp2_with fail
    go_ret
    exact ⟨-1, rfl, by omega, by omega, by omega, HB2.out⟩
  · go_wp2_with fail
    go_ret
    exact ⟨r, rfl, by omega, by omega, fun _ => by rw [HWX.out]; exact HS3.out (by omega), HB2.out⟩

set_option maxHeartbeats 1600000 in
set_option maxRecDepth 100000 in
theorem toDB_any (t : Db) (w : World) (cs : List Value) (h : RDb w t cs) (hw : wDb t ≤ 1048576) : Calls Tryz.prog 32 #[.agg cs.toArray] w (MadeDb t w) := by
  obtain ⟨A, d, rfl, hl, _, hp⟩ := h.open
  obtain ⟨W1, hW1⟩ : ∃ W1, ((w.alloc (.cells #[.slice A t.length d] 62)).alloc (.cells #[.slice none 0 0] 29)).alloc (.cells #[.slice none 0 0] 29) = W1 := ⟨_, rfl⟩
  obtain ⟨H, hH⟩ : ∃ H, w.heap.size = H := ⟨_, rfl⟩
  have b0 : Box1 W1 H 62 (.slice A t.length d) := by rw [← hW1, ← hH]; exact ((Box1.new w _ _).alloc _).alloc _
  have b1 : Box1 W1 (H + 1) 29 (.slice none 0 0) := by
    rw [← hW1, ← hH]
    have := (Box1.new (w.alloc (.cells #[.slice A t.length d] 62)) 29 (.slice none 0 0)).alloc (.cells #[.slice none 0 0] 29)
    simpa using this
  have b2 : Box1 W1 (H + 1 + 1) 29 (.slice none 0 0) := by
    rw [← hW1, ← hH]
    have := Box1.new ((w.alloc (.cells #[.slice A t.length d] 62)).alloc (.cells #[.slice none 0 0] 29)) 29 (.slice none 0 0)
    simpa using this
  have hb1 : Below w.heap.size w W1 := by rw [← hW1]; exact (((Below.refl _ _).alloc (Nat.le_refl _) _).alloc (by simp) _).alloc (by simp; omega) _
  have hs1 : W1.heap.size = H + 1 + 1 + 1 := by rw [← hW1, ← hH]; simp
  have HC := Lib.hid (toDdS_any t W1 A d (hp.keep hb1) hw)
  have HMK : Hid (∀ (U : World) (A5 : Option Addr) (d5 : Nat) (fp : List Nat), OL kDd 92 U t (.slice A5 t.length d5) fp → (∀ b ∈ fp, w.heap.size ≤ b ∧ b < U.heap.size) → Below w.heap.size w U → MadeDb t w (.returned (.agg #[.slice A5 t.length d5])) U) := Lib.hid (fun U A5 d5 fp h1 h2 h3 => ⟨A5, d5, fp, rfl, ODb.ol.2 h1, h2, h3⟩)
  have HW1 := Lib.hid hW1
  have HB1 := Lib.hid hb1
  have HS1 := Lib.hid hs1
  have HH := Lib.hid hH
  have B1 := Lib.hid b1
  have B2 := Lib.hid b2
  have x0 := b0.c0
  clear h hp hl hW1 b0 b1 b2 hb1 hs1 hw
  go_enter Tryz.func32, Tryz.ntmps32
  go_wp2_with fail
  rw [HW1.out]
  go_wp2_with fail
  refine HC.out.mono ?_
  rintro e w2 ⟨A5, d5, fp, rfl, ho, hfp, hb2⟩
  have hz2 := hb2.size
  have hz1 := HS1.out
  have t1 := B1.out.under hb2 (by omega)
  have t2 := B2.out.under hb2 (by omega)
  have g0 := t2.c0
  have gf0 := t2.free 0
  have k0 := t1.c0
  have kf0 := t1.free 0
  have HO := Lib.hid ho
  have HFP := Lib.hid hfp
  have HB2 := Lib.hid hb2
  have T1 := Lib.hid t1
  have HZ2 := Lib.hid hz2
  clear ho hfp hb2 t1 t2 hz2 hz1 x0
  obtain ⟨n, hn⟩ : ∃ n, t.length = n := ⟨_, rfl⟩
  rw [hn] at HMK HO ⊢
  clear hn
  go_wp2_with fail
  generalize hV : w2.setCell ⟨H + 1 + 1, 0, none⟩ (.slice A5 n d5) = V
  generalize hU : V.setCell ⟨H + 1, 0, none⟩ (.slice A5 n d5) = U
  have hg5 : w2.grownBy V (some (H + 1 + 1)) := by rw [← hV]; exact grown_set (World.grownBy.refl _ _) _
  have hg6 : V.grownBy U (some (H + 1)) := by rw [← hU]; exact grown_set (World.grownBy.refl _ _) _
  have u1 : Box1 U (H + 1) 29 (.slice A5 n d5) := by
    rw [← hU, ← hV]
    exact (T1.out.far (by show H + 1 ≠ H + 1 + 1; omega) _).set0 _
  have hww := HH.out
  have hz1 := HS1.out
  have hz2 := HZ2.out
  have hs5 := hg5.size
  have hs6 := hg6.size
  have hne : ∀ b ∈ fp, H + 1 + 1 < b := fun b hb => by have := (HFP.out b hb).1; omega
  have hO := OL.held (OL.held HO.out (K := fun i => some i ≠ some (H + 1 + 1)) ⟨hg5.os, hg5.tape, hg5.output, hg5.size, fun i hi hd => hg5.block i hi hd⟩ (fun b hb e => by injection e with e; have := hne b hb; omega)) (K := fun i => some i ≠ some (H + 1)) ⟨hg6.os, hg6.tape, hg6.output, hg6.size, fun i hi hd => hg6.block i hi hd⟩ (fun b hb e => by injection e with e; have := hne b hb; omega)
  have hbU : Below w.heap.size w U := ((HB1.out.trans (HB2.out.mono HB1.out.size)).grown hg5 (HB1.out.trans (HB2.out.mono HB1.out.size)).size (fun q hq => by injection hq with hq; omega)).grown hg6 (by have := (HB1.out.trans (HB2.out.mono HB1.out.size)).size; omega) (fun q hq => by injection hq with hq; omega)
  have q0 := u1.c0
  have HR := Lib.hid (HMK.out U A5 d5 fp hO (fun b hb => by have := HFP.out b hb; omega) hbU)
  clear hO hbU hne hg5 hg6 hV hU u1
  exact bodyPost_ret (v := .agg #[.slice A5 n d5]) (by simp [results, Tryz.results32, go_sem, q0]) rfl HR.out

set_option maxHeartbeats 800000 in
set_option maxRecDepth 100000 in
theorem eqDB_same (t : Db) (w : World) (cs ds : List Value) (h : RDb w t cs) (h' : RDb w t ds) : Calls Tryz.prog 34 #[.agg cs.toArray, .agg ds.toArray] w (LawYes w) := by
  obtain ⟨A, c, rfl, hl, _, hp⟩ := h.open
  obtain ⟨B, d, rfl, _, _, hp'⟩ := h'.open
  obtain ⟨W1, hW1⟩ : ∃ W1, (w.alloc (.cells #[.slice A t.length c] 29)).alloc (.cells #[.slice B t.length d] 29) = W1 := ⟨_, rfl⟩
  obtain ⟨H, hH⟩ : ∃ H, w.heap.size = H := ⟨_, rfl⟩
  have b0 : Box1 W1 H 29 (.slice A t.length c) := by rw [← hW1, ← hH]; exact (Box1.new w _ _).alloc _
  have b1 : Box1 W1 (H + 1) 29 (.slice B t.length d) := by
    rw [← hW1, ← hH]
    have := Box1.new (w.alloc (.cells #[.slice A t.length c] 29)) 29 (.slice B t.length d)
    simpa using this
  have hb1 : Below w.heap.size w W1 := by rw [← hW1]; exact ((Below.refl _ _).alloc (Nat.le_refl _) _).alloc (by simp) _
  have HC := Lib.hid (eqDdS_same t W1 A B c d (hp.keep hb1) (hp'.keep hb1) hl)
  have HW1 := Lib.hid hW1
  have HB1 := Lib.hid hb1
  have x0 := b0.c0
  have y0 := b1.c0
  generalize t.length = n at HC HW1 x0 y0 ⊢
  clear h h' hp hp' hl hW1 b0 b1 hb1
  go_enter Tryz.func34, Tryz.ntmps34
  go_wp2_with fail
  rw [HW1.out]
  go_wp2_with fail
  refine HC.out.mono ?_
  rintro e w2 ⟨rfl, hb2⟩
  have HB2 := Lib.hid (HB1.out.trans (hb2.mono HB1.out.size))
  clear hb2
  go_wp2_with fail
  go_ret
  exact ⟨rfl, HB2.out⟩
end Go.Proofs.YtlcpekpgkllbkaaGreat

/-
  The model's SizeOfType.
-/
namespace Go.Proofs.YtlcpekpgkllbkaaGreat
open Go.RowKit

/-- an answer that is a number; all that was there is as it was -/
def Counts (n : Int) (w : World) (e : Ending) (w' : World) : Prop := e = .returned (.int .i64 n) ∧ Below w.heap.size w w'

end Go.Proofs.YtlcpekpgkllbkaaGreat

/-
  The model's DepthOfType and CountBags.
-/
namespace Go.Proofs.YtlcpekpgkllbkaaGreat
open Go.RowKit

/-- the depth: 1 without parts -/
def Tr.deep {α : Type} : Tr α → Nat
  | .node _ ks => (ks.attach.map fun ⟨t, _⟩ => t.deep).foldl max 0 + 1
theorem deep_node {α : Type} (a : α) (ks : List (Tr α)) : (Tr.node a ks).deep = (ks.map Tr.deep).foldl max 0 + 1 := by
  rw [Tr.deep]
  congr 2
  exact List.attach_map_val (l := ks) (f := Tr.deep) ▸ rfl
/-- the depth of the first k parts -/
def deepTo {α : Type} (ks : List (Tr α)) (k : Nat) : Nat := ((ks.take k).map Tr.deep).foldl max 0
theorem deepTo_zero {α : Type} (ks : List (Tr α)) : deepTo ks 0 = 0 := rfl
theorem deepTo_succ {α : Type} (ks : List (Tr α)) (k : Nat) (h : k < ks.length) : deepTo ks (k + 1) = max (deepTo ks k) ks[k].deep := by
  unfold deepTo
  rw [List.take_succ_eq_append_getElem h, List.map_append, List.foldl_append]
  rfl
theorem deepTo_all {α : Type} (a : α) (ks : List (Tr α)) : (Tr.node a ks).deep = deepTo ks ks.length + 1 := by rw [deep_node, deepTo, List.take_length]
theorem foldl_max_le {m : Nat} : ∀ (xs : List Nat) (a : Nat), a ≤ m → (∀ x ∈ xs, x ≤ m) → xs.foldl max a ≤ m
  | [], a, h, _ => h
  | x :: xs, a, h, hx => foldl_max_le xs _ (Nat.max_le.2 ⟨h, hx x (by simp)⟩) (fun y hy => hx y (by simp [hy]))
theorem kid_sum_le {β : Type} (f : β → Nat) {ks : List β} {t : β} (h : t ∈ ks) : f t ≤ (ks.map f).sum := by
  induction ks with
  | nil => cases h
  | cons x xs ih =>
    rcases List.mem_cons.1 h with rfl | h
    · simp
    · have := ih h; simp; omega
theorem deep_le_size : ∀ t : Ty, t.deep ≤ t.size := by
  refine Tr.ind ?_
  intro a ks ih
  rw [deep_node, size_node]
  have := foldl_max_le (m := (ks.map Tr.size).sum) (ks.map Tr.deep) 0 (Nat.zero_le _) (by
    intro x hx
    obtain ⟨t, ht, rfl⟩ := List.mem_map.1 hx
    exact Nat.le_trans (ih t ht) (kid_sum_le Tr.size ht))
  omega
theorem kid_size_lt {a : TyA} {ks : List Ty} {t : Ty} (h : t ∈ ks) : t.size < (Tr.node a ks).size := by
  rw [size_node]
  have := kid_sum_le Tr.size h
  omega

theorem l1Max_any {w : World} {a b : Nat} : Calls Tryz.prog 180 #[.int .i64 a, .int .i64 b] w (Counts (max a b : Nat) w) := by
  have h1 : b < a → (Counts (max a b : Nat) w (.returned (.int .i64 a)) w) := by
    intro h; refine ⟨?_, Below.refl _ _⟩; rw [Nat.max_eq_left (by omega)]
  have h2 : ¬ b < a → (Counts (max a b : Nat) w (.returned (.int .i64 b)) w) := by
    intro h; refine ⟨?_, Below.refl _ _⟩; rw [Nat.max_eq_right (by omega)]
  have H1 := Lib.hid h1
  have H2 := Lib.hid h2
  clear h1 h2
  go_enter Tryz.func180, Tryz.ntmps180
  by_cases h : b < a
  · have hH := Lib.hid (H1.out h)
    clear H1 H2
    go_wp2_with fail
    go_ret
    exact hH.out
  · have hH := Lib.hid (H2.out h)
    clear H1 H2
    go_wp2_with fail
    go_ret
    exact hH.out

set_option maxHeartbeats 800000 in
theorem specDepth_any : ∀ (t : Ty) (w : World) (cs : List Value), RTy w t cs → t.size ≤ 1048577 → Calls Tryz.prog 164 #[.agg cs.toArray] w (Counts t.deep w) := by
  refine Tr.ind ?_
  intro a ks ih w cs h hs
  obtain ⟨L, c, A, d, rfl, k1, k2, k3, k4, k5, k6, hp⟩ := h.out
  have hle := deep_le_size (.node a ks)
  have hkd : ∀ k, k ≤ ks.length → deepTo ks k < 1048577 := by
    intro k hk
    have := foldl_max_le (m := (ks.map Tr.size).sum) ((ks.take k).map Tr.deep) 0 (Nat.zero_le _) (by
      intro x hx
      obtain ⟨t, ht, rfl⟩ := List.mem_map.1 hx
      exact Nat.le_trans (deep_le_size t) (kid_sum_le Tr.size (List.mem_of_mem_take ht)))
    rw [size_node] at hs
    unfold deepTo
    omega
  have hall := deepTo_all a ks
  obtain ⟨W1, hW1⟩ : ∃ W1, w.alloc (.cells #[.int .i64 a.kind, .slice L a.labels.length c, .slice A ks.length d] 48) = W1 := ⟨_, rfl⟩
  have hb0 : Below w.heap.size w W1 := by rw [← hW1]; exact (Below.refl _ _).alloc (Nat.le_refl _) _
  have hbox : W1.cell? ⟨w.heap.size, 2, none⟩ = some (.slice A ks.length d) := by rw [← hW1]; exact cell_of_row _ _ 2 _ _ _ (heap_alloc_new w _)
  have HP := Lib.hid hp
  have HI := Lib.hid ih
  have HB0 := Lib.hid hb0
  have HBOX := Lib.hid hbox
  have HW1 := Lib.hid hW1
  have HS := Lib.hid hs
  have HKD := Lib.hid hkd
  have HALL := Lib.hid hall
  clear hp ih hb0 hbox hW1 k1 k5 h hkd hall hle hs
  go_enter Tryz.func164, Tryz.ntmps164
  go_wp2_with fail
  rw [HW1.out]
  go_loopw [3, 4] (fun n i wr => ∃ k : Nat, k ≤ ks.length ∧ i = .int .i64 k ∧ n = .int .i64 ((deepTo ks k : Nat) : Int) ∧ Below W1.heap.size W1 wr) (fun _ i _ => ks.length - (intOf i).toNat)
  case atStart => exact ⟨0, Nat.zero_le _, rfl, rfl, Below.refl _ _⟩
  case round =>
    obtain ⟨k, hk, rfl, rfl, hb⟩ := hrel
    have hbw := HB0.out.trans (hb.mono HB0.out.size)
    have hbx : wr.cell? ⟨w.heap.size, 2, none⟩ = some (.slice A ks.length d) := (hb.cell (World.block_lt_of_cell? W1 _ HBOX.out)).trans HBOX.out
    by_cases hlt : k < ks.length
    · obtain ⟨ad, p, c0, c1, c2, rfl, hpe, hr, q0, q1, q2⟩ := kid_at HP.out hbw hlt
      have hst := deepTo_succ ks k hlt
      have hd1 := HKD.out k hk
      have hd2 := HKD.out (k + 1) hlt
      have hc := HI.out ks[k] (List.getElem_mem hlt) wr [c0, c1, c2] hr (by have := kid_size_lt (a := a) (List.getElem_mem hlt); have := HS.out; omega)
      obtain ⟨n, hn⟩ : ∃ n, deepTo ks k = n := ⟨_, rfl⟩
      obtain ⟨m, hm⟩ : ∃ m, ks[k].deep = m := ⟨_, rfl⟩
      rw [hst] at hd2
      rw [hn, hm] at hst hd2
      rw [hn] at hd1
      rw [hm] at hc
      rw [hn]
      have hmx := fun W => l1Max_any (w := W) (a := n) (b := m)
      have HC := Lib.hid hc
      have HST := Lib.hid hst
      have HMX := Lib.hid hmx
      have hmm : m < 1048577 := by omega
      clear hc hr hst hn hm hd2 hmx
      go_wp2_with fail
      refine HC.out.mono ?_
      rintro e w2 ⟨rfl, hb2⟩
      have hb3 := hb.trans (hb2.mono hb.size)
      go_wp2_with fail
      refine (HMX.out w2).mono ?_
      rintro e w3 ⟨rfl, hb4⟩
      have hb5 := hb3.trans (hb4.mono hb3.size)
      go_wp2_with fail
      go_roundw
      case rel => exact ⟨k + 1, hlt, by go_num, by rw [HST.out], hb5⟩
      case measure => simp [intOf]; omega
    · have he : k = ks.length := by omega
      have hd1 := HKD.out k hk
      have HR : Hid (Counts (((Tr.node a ks).deep : Nat) : Int) w (.returned (.int .i64 (((deepTo ks k : Nat) : Int) + 1))) wr) := by
        rw [HALL.out, he]
        exact ⟨by rw [Int.natCast_add]; rfl, hbw⟩
      obtain ⟨n, hn⟩ : ∃ n, deepTo ks k = n := ⟨_, rfl⟩
      rw [hn] at HR hd1 ⊢
      clear he hn
      go_wp2_with fail
      go_ret
      exact HR.out

/-- how many nodes are bags -/
def Tr.bags (t : Ty) : Nat := t.sum fun a => if a.kind = 4 then 1 else 0
theorem bags_node (a : TyA) (ks : List Ty) : (Tr.node a ks).bags = (if a.kind = 4 then 1 else 0) + (ks.map Tr.bags).sum := Tr.sum_node _ a ks
theorem sum_le_sum {β : Type} (f g : β → Nat) : ∀ ks : List β, (∀ t ∈ ks, f t ≤ g t) → (ks.map f).sum ≤ (ks.map g).sum
  | [], _ => Nat.le_refl _
  | x :: xs, h => by
    have h1 := h x (by simp)
    have h2 := sum_le_sum f g xs (fun t ht => h t (by simp [ht]))
    simp
    omega
theorem bags_le_size : ∀ t : Ty, t.bags ≤ t.size := by
  refine Tr.ind ?_
  intro a ks ih
  rw [bags_node, size_node]
  have := sum_le_sum Tr.bags Tr.size ks ih
  split <;> omega

end Go.Proofs.YtlcpekpgkllbkaaGreat
