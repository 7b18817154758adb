/-
  Merged by program: TyNum, Box.
-/
import Derived.Test.YtlikmgkjilmjpaaH2
import Derived.Test.YtlikmgkjilmjpaaH1
import Derived.Laws.Rows

/-
  The model's DepthOfType and CountBags.
-/
namespace Go.Proofs.Ytlikmgkjilmjpaa
open Go.RowKit

/-- the depth: 1 without parts -/
def Tr.deep {α : Type} : Tr α → Nat
  | .node _ ks => (ks.attach.map fun ⟨t, _⟩ => t.deep).foldl max 0 + 1
theorem deep_node {α : Type} (a : α) (ks : List (Tr α)) : (Tr.node a ks).deep = (ks.map Tr.deep).foldl max 0 + 1 := by
  rw [Tr.deep]
  congr 2
  exact List.attach_map_val (l := ks) (f := Tr.deep) ▸ rfl
/-- the depth of the first k parts -/
def deepTo {α : Type} (ks : List (Tr α)) (k : Nat) : Nat := ((ks.take k).map Tr.deep).foldl max 0
theorem deepTo_zero {α : Type} (ks : List (Tr α)) : deepTo ks 0 = 0 := rfl
theorem deepTo_succ {α : Type} (ks : List (Tr α)) (k : Nat) (h : k < ks.length) : deepTo ks (k + 1) = max (deepTo ks k) ks[k].deep := by
  unfold deepTo
  rw [List.take_succ_eq_append_getElem h, List.map_append, List.foldl_append]
  rfl
theorem deepTo_all {α : Type} (a : α) (ks : List (Tr α)) : (Tr.node a ks).deep = deepTo ks ks.length + 1 := by rw [deep_node, deepTo, List.take_length]
theorem foldl_max_le {m : Nat} : ∀ (xs : List Nat) (a : Nat), a ≤ m → (∀ x ∈ xs, x ≤ m) → xs.foldl max a ≤ m
  | [], a, h, _ => h
  | x :: xs, a, h, hx => foldl_max_le xs _ (Nat.max_le.2 ⟨h, hx x (by simp)⟩) (fun y hy => hx y (by simp [hy]))
theorem kid_sum_le {β : Type} (f : β → Nat) {ks : List β} {t : β} (h : t ∈ ks) : f t ≤ (ks.map f).sum := by
  induction ks with
  | nil => cases h
  | cons x xs ih =>
    rcases List.mem_cons.1 h with rfl | h
    · simp
    · have := ih h; simp; omega
theorem deep_le_size : ∀ t : Ty, t.deep ≤ t.size := by
  refine Tr.ind ?_
  intro a ks ih
  rw [deep_node, size_node]
  have := foldl_max_le (m := (ks.map Tr.size).sum) (ks.map Tr.deep) 0 (Nat.zero_le _) (by
    intro x hx
    obtain ⟨t, ht, rfl⟩ := List.mem_map.1 hx
    exact Nat.le_trans (ih t ht) (kid_sum_le Tr.size ht))
  omega
theorem kid_size_lt {a : TyA} {ks : List Ty} {t : Ty} (h : t ∈ ks) : t.size < (Tr.node a ks).size := by
  rw [size_node]
  have := kid_sum_le Tr.size h
  omega

theorem l1Max_any {w : World} {a b : Nat} : Calls Try.prog 115 #[.int .i64 a, .int .i64 b] w (Counts (max a b : Nat) w) := by
  have h1 : b < a → (Counts (max a b : Nat) w (.returned (.int .i64 a)) w) := by
    intro h; refine ⟨?_, Below.refl _ _⟩; rw [Nat.max_eq_left (by omega)]
  have h2 : ¬ b < a → (Counts (max a b : Nat) w (.returned (.int .i64 b)) w) := by
    intro h; refine ⟨?_, Below.refl _ _⟩; rw [Nat.max_eq_right (by omega)]
  have H1 := Lib.hid h1
  have H2 := Lib.hid h2
  clear h1 h2
  go_enter Try.func115, Try.ntmps115
  by_cases h : b < a
  · have hH := Lib.hid (H1.out h)
    clear H1 H2
    go_wp2_with fail
    go_ret
    exact hH.out
  · have hH := Lib.hid (H2.out h)
    clear H1 H2
    go_wp2_with fail
    go_ret
    exact hH.out

set_option maxHeartbeats 800000 in
theorem specDepth_any : ∀ (t : Ty) (w : World) (cs : List Value), RTy w t cs → t.size ≤ 1048577 → Calls Try.prog 95 #[.agg cs.toArray] w (Counts t.deep w) := by
  refine Tr.ind ?_
  intro a ks ih w cs h hs
  obtain ⟨L, c, A, d, rfl, k1, k2, k3, k4, k5, k6, hp⟩ := h.out
  have hle := deep_le_size (.node a ks)
  have hkd : ∀ k, k ≤ ks.length → deepTo ks k < 1048577 := by
    intro k hk
    have := foldl_max_le (m := (ks.map Tr.size).sum) ((ks.take k).map Tr.deep) 0 (Nat.zero_le _) (by
      intro x hx
      obtain ⟨t, ht, rfl⟩ := List.mem_map.1 hx
      exact Nat.le_trans (deep_le_size t) (kid_sum_le Tr.size (List.mem_of_mem_take ht)))
    rw [size_node] at hs
    unfold deepTo
    omega
  have hall := deepTo_all a ks
  obtain ⟨W1, hW1⟩ : ∃ W1, w.alloc (.cells #[.int .i64 a.kind, .slice L a.labels.length c, .slice A ks.length d] 41) = W1 := ⟨_, rfl⟩
  have hb0 : Below w.heap.size w W1 := by rw [← hW1]; exact (Below.refl _ _).alloc (Nat.le_refl _) _
  have hbox : W1.cell? ⟨w.heap.size, 2, none⟩ = some (.slice A ks.length d) := by rw [← hW1]; exact cell_of_row _ _ 2 _ _ _ (heap_alloc_new w _)
  have HP := Lib.hid hp
  have HI := Lib.hid ih
  have HB0 := Lib.hid hb0
  have HBOX := Lib.hid hbox
  have HW1 := Lib.hid hW1
  have HS := Lib.hid hs
  have HKD := Lib.hid hkd
  have HALL := Lib.hid hall
  clear hp ih hb0 hbox hW1 k1 k5 h hkd hall hle hs
  go_enter Try.func95, Try.ntmps95
  go_wp2_with fail
  rw [HW1.out]
  go_loopw [3, 4] (fun n i wr => ∃ k : Nat, k ≤ ks.length ∧ i = .int .i64 k ∧ n = .int .i64 ((deepTo ks k : Nat) : Int) ∧ Below W1.heap.size W1 wr) (fun _ i _ => ks.length - (intOf i).toNat)
  case atStart => exact ⟨0, Nat.zero_le _, rfl, rfl, Below.refl _ _⟩
  case round =>
    obtain ⟨k, hk, rfl, rfl, hb⟩ := hrel
    have hbw := HB0.out.trans (hb.mono HB0.out.size)
    have hbx : wr.cell? ⟨w.heap.size, 2, none⟩ = some (.slice A ks.length d) := (hb.cell (World.block_lt_of_cell? W1 _ HBOX.out)).trans HBOX.out
    by_cases hlt : k < ks.length
    · obtain ⟨ad, p, c0, c1, c2, rfl, hpe, hr, q0, q1, q2⟩ := kid_at HP.out hbw hlt
      have hst := deepTo_succ ks k hlt
      have hd1 := HKD.out k hk
      have hd2 := HKD.out (k + 1) hlt
      have hc := HI.out ks[k] (List.getElem_mem hlt) wr [c0, c1, c2] hr (by have := kid_size_lt (a := a) (List.getElem_mem hlt); have := HS.out; omega)
      obtain ⟨n, hn⟩ : ∃ n, deepTo ks k = n := ⟨_, rfl⟩
      obtain ⟨m, hm⟩ : ∃ m, ks[k].deep = m := ⟨_, rfl⟩
      rw [hst] at hd2
      rw [hn, hm] at hst hd2
      rw [hn] at hd1
      rw [hm] at hc
      rw [hn]
      have hmx := fun W => l1Max_any (w := W) (a := n) (b := m)
      have HC := Lib.hid hc
      have HST := Lib.hid hst
      have HMX := Lib.hid hmx
      have hmm : m < 1048577 := by omega
      clear hc hr hst hn hm hd2 hmx
      go_wp2_with fail
      refine HC.out.mono ?_
      rintro e w2 ⟨rfl, hb2⟩
      have hb3 := hb.trans (hb2.mono hb.size)
      go_wp2_with fail
      refine (HMX.out w2).mono ?_
      rintro e w3 ⟨rfl, hb4⟩
      have hb5 := hb3.trans (hb4.mono hb3.size)
      go_wp2_with fail
      go_roundw
      case rel => exact ⟨k + 1, hlt, by go_num, by rw [HST.out], hb5⟩
      case measure => simp [intOf]; omega
    · have he : k = ks.length := by omega
      have hd1 := HKD.out k hk
      have HR : Hid (Counts (((Tr.node a ks).deep : Nat) : Int) w (.returned (.int .i64 (((deepTo ks k : Nat) : Int) + 1))) wr) := by
        rw [HALL.out, he]
        exact ⟨by rw [Int.natCast_add]; rfl, hbw⟩
      obtain ⟨n, hn⟩ : ∃ n, deepTo ks k = n := ⟨_, rfl⟩
      rw [hn] at HR hd1 ⊢
      clear he hn
      go_wp2_with fail
      go_ret
      exact HR.out

/-- how many nodes are bags -/
def Tr.bags (t : Ty) : Nat := t.sum fun a => if a.kind = 4 then 1 else 0
theorem bags_node (a : TyA) (ks : List Ty) : (Tr.node a ks).bags = (if a.kind = 4 then 1 else 0) + (ks.map Tr.bags).sum := Tr.sum_node _ a ks
theorem sum_le_sum {β : Type} (f g : β → Nat) : ∀ ks : List β, (∀ t ∈ ks, f t ≤ g t) → (ks.map f).sum ≤ (ks.map g).sum
  | [], _ => Nat.le_refl _
  | x :: xs, h => by
    have h1 := h x (by simp)
    have h2 := sum_le_sum f g xs (fun t ht => h t (by simp [ht]))
    simp
    omega
theorem bags_le_size : ∀ t : Ty, t.bags ≤ t.size := by
  refine Tr.ind ?_
  intro a ks ih
  rw [bags_node, size_node]
  have := sum_le_sum Tr.bags Tr.size ks ih
  split <;> omega

end Go.Proofs.Ytlikmgkjilmjpaa

/-
  A block of three cells that is known whole (a struct that was boxed, declared, or is a result). Hangs on no program.
-/
namespace Go.Proofs.Ytlikmgkjilmjpaa
open Go.RowKit

def Box3 (w : World) (g : Nat) (t : TypeId) (a b c : Value) : Prop := w.heap[g]? = some (.cells #[a, b, c] t (0, 0))
section
variable {w w' : World} {g : Nat} {t : TypeId} {a b c : Value}
theorem Box3.new (w : World) (t : TypeId) (a b c : Value) : Box3 (w.alloc (.cells #[a, b, c] t)) w.heap.size t a b c := heap_alloc_new w _
theorem Box3.lt (h : Box3 w g t a b c) : g < w.heap.size := (Array.getElem?_eq_some_iff.1 h).1
theorem Box3.c0 (h : Box3 w g t a b c) : w.cell? ⟨g, 0, none⟩ = some a := cell_of_row w g 0 _ t (0, 0) h
theorem Box3.c1 (h : Box3 w g t a b c) : w.cell? ⟨g, 1, none⟩ = some b := cell_of_row w g 1 _ t (0, 0) h
theorem Box3.c2 (h : Box3 w g t a b c) : w.cell? ⟨g, 2, none⟩ = some c := cell_of_row w g 2 _ t (0, 0) h
theorem Box3.free (h : Box3 w g t a b c) (i : Nat) : w.frozen? ⟨g, i, none⟩ = false := frozen_of_row w g i _ t h
theorem Box3.under (h : Box3 w g t a b c) {B : Nat} (hb : Below B w w') (hg : g < B) : Box3 w' g t a b c := (hb.block g hg).trans h
theorem Box3.alloc (h : Box3 w g t a b c) (o : Obj) : Box3 (w.alloc o) g t a b c := ((((Below.refl _ _).alloc (Nat.le_refl _) o : Below w.heap.size w (w.alloc o))).block g h.lt).trans h
theorem Box3.far (h : Box3 w g t a b c) {p : Addr} (hp : g ≠ p.block) (u : Value) : Box3 (w.setCell p u) g t a b c := (Below.heap_setCell w p u g hp).trans h
theorem Box3.set0 (h : Box3 w g t a b c) (u : Value) : Box3 (w.setCell ⟨g, 0, none⟩ u) g t u b c := heap_setCell_same w g 0 _ t u h
theorem Box3.set1 (h : Box3 w g t a b c) (u : Value) : Box3 (w.setCell ⟨g, 1, none⟩ u) g t a u c := heap_setCell_same w g 1 _ t u h
theorem Box3.set2 (h : Box3 w g t a b c) (u : Value) : Box3 (w.setCell ⟨g, 2, none⟩ u) g t a b u := heap_setCell_same w g 2 _ t u h
end
end Go.Proofs.Ytlikmgkjilmjpaa
