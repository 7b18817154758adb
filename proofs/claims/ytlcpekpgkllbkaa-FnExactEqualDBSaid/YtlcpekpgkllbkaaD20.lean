/-
  Merged by program: KdTy, KDc, Sc, TySize, TyNum.
-/
import Derived.Test.YtlcpekpgkllbkaaD9
import Derived.Test.YtlcpekpgkllbkaaD7
import Derived.Test.YtlcpekpgkllbkaaD11
import Derived.Test.YtlcpekpgkllbkaaD8
import Derived.Test.YtlcpekpgkllbkaaD19
import Derived.Test.YtlcpekpgkllbkaaD12
import Derived.Test.YtlcpekpgkllbkaaD15
import Derived.Test.YtlcpekpgkllbkaaD16
import Derived.Test.YtlcpekpgkllbkaaD1

/-
  Types as a kind of data; the laws' functions on them in the words of kinds.
-/
namespace Go.Proofs.Ytlcpekpgkllbkaa
open Go.RowKit

theorem kTy_shape {w : World} {t : Ty} {cs : List Value} (h : kTy.R w t cs) : ∃ tk TL TA tl tc ta td, cs = [.int .i64 tk, .slice TL tl tc, .slice TA ta td] := by
  cases t with
  | node a ks =>
    obtain ⟨L, c, A, d, rfl, _⟩ := RTy.out h
    exact ⟨_, _, _, _, _, _, _, rfl⟩
theorem szTy_K (t : Ty) (w : World) (cs : List Value) (left : Int) (h : kTy.R w t cs) (h0 : 0 ≤ left) (h1 : left ≤ 1048576) : Calls Try.prog 98 #[.agg cs.toArray, .int .i64 left] w (SzV (wt t) left w) := szType_any t w cs left h h0 h1
theorem toTy_K (t : Ty) (w : World) (cs : List Value) (h : kTy.R w t cs) (hw : wt t ≤ 1048576) : Calls Try.prog 102 #[.agg cs.toArray] w (MadeK kTy t (fun cs => .agg cs.toArray) w) :=
  (toType_any t w cs h hw).mono fun _ _ ⟨_, _, _, _, fp, he, ho, hb, hbw⟩ => ⟨_, fp, he, ho, hb, hbw⟩
theorem eqTy_K (t : Ty) (w : World) (cs ds : List Value) (h : kTy.R w t cs) (h' : kTy.R w t ds) : Calls Try.prog 16 #[.agg cs.toArray, .agg ds.toArray] w (LawYes w) := eqType_same t w cs ds h h'
end Go.Proofs.Ytlcpekpgkllbkaa

/-
  Structs of a name and a type (TableDecl). Written by genpair.py.
-/
namespace Go.Proofs.Ytlcpekpgkllbkaa
open Go.RowKit

abbrev Dc := ByteArray × Ty
def kDc : Kd Dc := kStr.prod kTy
theorem kDc_n : kDc.n = 4 := rfl
def wDc (x : Dc) : Nat := x.1.size + wt x.2
theorem kDc_open {w : World} {x : Dc} {cs : List Value} (h : kDc.R w x cs) : ∃ tk TL TA tl tc ta td, cs = [.string x.1, .int .i64 tk, .slice TL tl tc, .slice TA ta td] ∧ x.1.size ≤ 9223372036854775807 ∧ kTy.R w x.2 [.int .i64 tk, .slice TL tl tc, .slice TA ta td] := by
  obtain ⟨c1, c2, rfl, ⟨rfl, h1⟩, h2⟩ := h
  obtain ⟨tk, TL, TA, tl, tc, ta, td, rfl⟩ := kTy_shape h2
  exact ⟨tk, TL, TA, tl, tc, ta, td, rfl, h1, h2⟩
theorem kDc_make {w : World} {x : Dc} {ys : List Value} (h1 : x.1.size ≤ 9223372036854775807) (h2 : kTy.R w x.2 ys) : kDc.R w x (.string x.1 :: ys) := ⟨[.string x.1], ys, rfl, ⟨rfl, h1⟩, h2⟩
theorem kDc_omake {w : World} {x : Dc} {ys : List Value} {fp : List Nat} (h1 : x.1.size ≤ 9223372036854775807) (h2 : kTy.O w x.2 ys fp) : kDc.O w x (.string x.1 :: ys) fp := ⟨[.string x.1], ys, [], fp, rfl, ⟨rfl, h1, rfl⟩, h2, rfl, kTy.nodup h2⟩
theorem kDc_oopen {w : World} {x : Dc} {cs : List Value} {fp : List Nat} (h : kDc.O w x cs fp) : ∃ tk TL TA tl tc ta td, cs = [.string x.1, .int .i64 tk, .slice TL tl tc, .slice TA ta td] ∧ x.1.size ≤ 9223372036854775807 ∧ kTy.O w x.2 [.int .i64 tk, .slice TL tl tc, .slice TA ta td] fp := by
  obtain ⟨c1, c2, f1, f2, rfl, ⟨rfl, h1, rfl⟩, h2, rfl, _⟩ := h
  obtain ⟨tk, TL, TA, tl, tc, ta, td, rfl⟩ := kTy_shape (kTy.reads h2)
  exact ⟨tk, TL, TA, tl, tc, ta, td, rfl, h1, h2⟩
end Go.Proofs.Ytlcpekpgkllbkaa

/-
  Schema: a struct of one field, a list of TableDecl. Written by genwrap.py.
-/
namespace Go.Proofs.Ytlcpekpgkllbkaa
open Go.RowKit

abbrev Sc := List Dc
def RSc (w : World) (t : Sc) (cs : List Value) : Prop := (kDc.list 64).R w t cs
def OSc (w : World) (t : Sc) (cs : List Value) (fp : List Nat) : Prop := (kDc.list 64).O w t cs fp
def wSc (t : Sc) : Nat := wL wDc t
theorem RSc.keep {w w' : World} {t : Sc} {cs : List Value} (h : RSc w t cs) (hb : Below w.heap.size w w') : RSc w' t cs := (kDc.list 64).keep h hb
theorem RSc.open {w : World} {t : Sc} {cs : List Value} (h : RSc w t cs) : ∃ A d, cs = [.slice A t.length d] ∧ t.length ≤ 9223372036854775807 ∧ t.length ≤ d ∧ RL kDc w A t := h
theorem RSc.one {w : World} {t : Sc} {cs : List Value} (h : RSc w t cs) : ∃ c0, cs = [c0] := by
  obtain ⟨A, d, rfl, _⟩ := h
  exact ⟨_, rfl⟩
theorem OSc.reads {w : World} {t : Sc} {cs : List Value} {fp : List Nat} (h : OSc w t cs fp) : RSc w t cs := (kDc.list 64).reads h
theorem OSc.under {w w' : World} {t : Sc} {cs : List Value} {fp : List Nat} (h : OSc w t cs fp) (hb : Below w.heap.size w w') : OSc w' t cs fp := (kDc.list 64).under h hb
theorem OSc.ol {w : World} {t : Sc} {s : Value} {fp : List Nat} : OSc w t [s] fp ↔ OL kDc 64 w t s fp := by
  constructor
  · rintro ⟨s', e, h⟩
    injection e with e _
    subst e
    exact h
  · intro h
    exact ⟨s, rfl, h⟩
/-- in new memory -/
def MadeSc (t : Sc) (w : World) (e : Ending) (w' : World) : Prop :=
  ∃ (A : Option Addr) (d : Nat) (fp : List Nat), e = .returned (.agg #[.slice A t.length d]) ∧ OSc w' t [.slice A t.length d] fp ∧ (∀ b ∈ fp, w.heap.size ≤ b ∧ b < w'.heap.size) ∧ Below w.heap.size w w'
theorem len_wSc (t : Sc) : t.length ≤ wSc t := by unfold wSc wL; omega
end Go.Proofs.Ytlcpekpgkllbkaa

/-
  The model's SizeOfType.
-/
namespace Go.Proofs.Ytlcpekpgkllbkaa
open Go.RowKit

/-- an answer that is a number; all that was there is as it was -/
def Counts (n : Int) (w : World) (e : Ending) (w' : World) : Prop := e = .returned (.int .i64 n) ∧ Below w.heap.size w w'

end Go.Proofs.Ytlcpekpgkllbkaa

/-
  The model's DepthOfType and CountBags.
-/
namespace Go.Proofs.Ytlcpekpgkllbkaa
open Go.RowKit

/-- the depth: 1 without parts -/
def Tr.deep {α : Type} : Tr α → Nat
  | .node _ ks => (ks.attach.map fun ⟨t, _⟩ => t.deep).foldl max 0 + 1
theorem deep_node {α : Type} (a : α) (ks : List (Tr α)) : (Tr.node a ks).deep = (ks.map Tr.deep).foldl max 0 + 1 := by
  rw [Tr.deep]
  congr 2
  exact List.attach_map_val (l := ks) (f := Tr.deep) ▸ rfl
/-- the depth of the first k parts -/
def deepTo {α : Type} (ks : List (Tr α)) (k : Nat) : Nat := ((ks.take k).map Tr.deep).foldl max 0
theorem deepTo_zero {α : Type} (ks : List (Tr α)) : deepTo ks 0 = 0 := rfl
theorem deepTo_succ {α : Type} (ks : List (Tr α)) (k : Nat) (h : k < ks.length) : deepTo ks (k + 1) = max (deepTo ks k) ks[k].deep := by
  unfold deepTo
  rw [List.take_succ_eq_append_getElem h, List.map_append, List.foldl_append]
  rfl
theorem deepTo_all {α : Type} (a : α) (ks : List (Tr α)) : (Tr.node a ks).deep = deepTo ks ks.length + 1 := by rw [deep_node, deepTo, List.take_length]
theorem foldl_max_le {m : Nat} : ∀ (xs : List Nat) (a : Nat), a ≤ m → (∀ x ∈ xs, x ≤ m) → xs.foldl max a ≤ m
  | [], a, h, _ => h
  | x :: xs, a, h, hx => foldl_max_le xs _ (Nat.max_le.2 ⟨h, hx x (by simp)⟩) (fun y hy => hx y (by simp [hy]))
theorem kid_sum_le {β : Type} (f : β → Nat) {ks : List β} {t : β} (h : t ∈ ks) : f t ≤ (ks.map f).sum := by
  induction ks with
  | nil => cases h
  | cons x xs ih =>
    rcases List.mem_cons.1 h with rfl | h
    · simp
    · have := ih h; simp; omega
theorem deep_le_size : ∀ t : Ty, t.deep ≤ t.size := by
  refine Tr.ind ?_
  intro a ks ih
  rw [deep_node, size_node]
  have := foldl_max_le (m := (ks.map Tr.size).sum) (ks.map Tr.deep) 0 (Nat.zero_le _) (by
    intro x hx
    obtain ⟨t, ht, rfl⟩ := List.mem_map.1 hx
    exact Nat.le_trans (ih t ht) (kid_sum_le Tr.size ht))
  omega
theorem kid_size_lt {a : TyA} {ks : List Ty} {t : Ty} (h : t ∈ ks) : t.size < (Tr.node a ks).size := by
  rw [size_node]
  have := kid_sum_le Tr.size h
  omega

theorem l1Max_any {w : World} {a b : Nat} : Calls Try.prog 122 #[.int .i64 a, .int .i64 b] w (Counts (max a b : Nat) w) := by
  have h1 : b < a → (Counts (max a b : Nat) w (.returned (.int .i64 a)) w) := by
    intro h; refine ⟨?_, Below.refl _ _⟩; rw [Nat.max_eq_left (by omega)]
  have h2 : ¬ b < a → (Counts (max a b : Nat) w (.returned (.int .i64 b)) w) := by
    intro h; refine ⟨?_, Below.refl _ _⟩; rw [Nat.max_eq_right (by omega)]
  have H1 := Lib.hid h1
  have H2 := Lib.hid h2
  clear h1 h2
  go_enter Try.func122, Try.ntmps122
  by_cases h : b < a
  · have hH := Lib.hid (H1.out h)
    clear H1 H2
    go_wp2_with fail
    go_ret
    exact hH.out
  · have hH := Lib.hid (H2.out h)
    clear H1 H2
    go_wp2_with fail
    go_ret
    exact hH.out

set_option maxHeartbeats 800000 in
theorem specDepth_any : ∀ (t : Ty) (w : World) (cs : List Value), RTy w t cs → t.size ≤ 1048577 → Calls Try.prog 100 #[.agg cs.toArray] w (Counts t.deep w) := by
  refine Tr.ind ?_
  intro a ks ih w cs h hs
  obtain ⟨L, c, A, d, rfl, k1, k2, k3, k4, k5, k6, hp⟩ := h.out
  have hle := deep_le_size (.node a ks)
  have hkd : ∀ k, k ≤ ks.length → deepTo ks k < 1048577 := by
    intro k hk
    have := foldl_max_le (m := (ks.map Tr.size).sum) ((ks.take k).map Tr.deep) 0 (Nat.zero_le _) (by
      intro x hx
      obtain ⟨t, ht, rfl⟩ := List.mem_map.1 hx
      exact Nat.le_trans (deep_le_size t) (kid_sum_le Tr.size (List.mem_of_mem_take ht)))
    rw [size_node] at hs
    unfold deepTo
    omega
  have hall := deepTo_all a ks
  obtain ⟨W1, hW1⟩ : ∃ W1, w.alloc (.cells #[.int .i64 a.kind, .slice L a.labels.length c, .slice A ks.length d] 36) = W1 := ⟨_, rfl⟩
  have hb0 : Below w.heap.size w W1 := by rw [← hW1]; exact (Below.refl _ _).alloc (Nat.le_refl _) _
  have hbox : W1.cell? ⟨w.heap.size, 2, none⟩ = some (.slice A ks.length d) := by rw [← hW1]; exact cell_of_row _ _ 2 _ _ _ (heap_alloc_new w _)
  have HP := Lib.hid hp
  have HI := Lib.hid ih
  have HB0 := Lib.hid hb0
  have HBOX := Lib.hid hbox
  have HW1 := Lib.hid hW1
  have HS := Lib.hid hs
  have HKD := Lib.hid hkd
  have HALL := Lib.hid hall
  clear hp ih hb0 hbox hW1 k1 k5 h hkd hall hle hs
  go_enter Try.func100, Try.ntmps100
  go_wp2_with fail
  rw [HW1.out]
  go_loopw [3, 4] (fun n i wr => ∃ k : Nat, k ≤ ks.length ∧ i = .int .i64 k ∧ n = .int .i64 ((deepTo ks k : Nat) : Int) ∧ Below W1.heap.size W1 wr) (fun _ i _ => ks.length - (intOf i).toNat)
  case atStart => exact ⟨0, Nat.zero_le _, rfl, rfl, Below.refl _ _⟩
  case round =>
    obtain ⟨k, hk, rfl, rfl, hb⟩ := hrel
    have hbw := HB0.out.trans (hb.mono HB0.out.size)
    have hbx : wr.cell? ⟨w.heap.size, 2, none⟩ = some (.slice A ks.length d) := (hb.cell (World.block_lt_of_cell? W1 _ HBOX.out)).trans HBOX.out
    by_cases hlt : k < ks.length
    · obtain ⟨ad, p, c0, c1, c2, rfl, hpe, hr, q0, q1, q2⟩ := kid_at HP.out hbw hlt
      have hst := deepTo_succ ks k hlt
      have hd1 := HKD.out k hk
      have hd2 := HKD.out (k + 1) hlt
      have hc := HI.out ks[k] (List.getElem_mem hlt) wr [c0, c1, c2] hr (by have := kid_size_lt (a := a) (List.getElem_mem hlt); have := HS.out; omega)
      obtain ⟨n, hn⟩ : ∃ n, deepTo ks k = n := ⟨_, rfl⟩
      obtain ⟨m, hm⟩ : ∃ m, ks[k].deep = m := ⟨_, rfl⟩
      rw [hst] at hd2
      rw [hn, hm] at hst hd2
      rw [hn] at hd1
      rw [hm] at hc
      rw [hn]
      have hmx := fun W => l1Max_any (w := W) (a := n) (b := m)
      have HC := Lib.hid hc
      have HST := Lib.hid hst
      have HMX := Lib.hid hmx
      have hmm : m < 1048577 := by omega
      clear hc hr hst hn hm hd2 hmx
      go_wp2_with fail
      refine HC.out.mono ?_
      rintro e w2 ⟨rfl, hb2⟩
      have hb3 := hb.trans (hb2.mono hb.size)
      go_wp2_with fail
      refine (HMX.out w2).mono ?_
      rintro e w3 ⟨rfl, hb4⟩
      have hb5 := hb3.trans (hb4.mono hb3.size)
      go_wp2_with fail
      go_roundw
      case rel => exact ⟨k + 1, hlt, by go_num, by rw [HST.out], hb5⟩
      case measure => simp [intOf]; omega
    · have he : k = ks.length := by omega
      have hd1 := HKD.out k hk
      have HR : Hid (Counts (((Tr.node a ks).deep : Nat) : Int) w (.returned (.int .i64 (((deepTo ks k : Nat) : Int) + 1))) wr) := by
        rw [HALL.out, he]
        exact ⟨by rw [Int.natCast_add]; rfl, hbw⟩
      obtain ⟨n, hn⟩ : ∃ n, deepTo ks k = n := ⟨_, rfl⟩
      rw [hn] at HR hd1 ⊢
      clear he hn
      go_wp2_with fail
      go_ret
      exact HR.out

/-- how many nodes are bags -/
def Tr.bags (t : Ty) : Nat := t.sum fun a => if a.kind = 4 then 1 else 0
theorem bags_node (a : TyA) (ks : List Ty) : (Tr.node a ks).bags = (if a.kind = 4 then 1 else 0) + (ks.map Tr.bags).sum := Tr.sum_node _ a ks
theorem sum_le_sum {β : Type} (f g : β → Nat) : ∀ ks : List β, (∀ t ∈ ks, f t ≤ g t) → (ks.map f).sum ≤ (ks.map g).sum
  | [], _ => Nat.le_refl _
  | x :: xs, h => by
    have h1 := h x (by simp)
    have h2 := sum_le_sum f g xs (fun t ht => h t (by simp [ht]))
    simp
    omega
theorem bags_le_size : ∀ t : Ty, t.bags ≤ t.size := by
  refine Tr.ind ?_
  intro a ks ih
  rw [bags_node, size_node]
  have := sum_le_sum Tr.bags Tr.size ks ih
  split <;> omega

end Go.Proofs.Ytlcpekpgkllbkaa
