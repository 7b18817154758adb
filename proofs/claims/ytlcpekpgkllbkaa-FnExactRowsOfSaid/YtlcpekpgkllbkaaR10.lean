/-
  Merged by program: TySize, TyNum, OnlyG, TyOnly.
-/
import Derived.Test.YtlcpekpgkllbkaaR1
import Derived.Test.YtlcpekpgkllbkaaR8
import Derived.Test.YtlcpekpgkllbkaaR3
import Derived.Test.YtlcpekpgkllbkaaR5
import Derived.Test.YtlcpekpgkllbkaaR9

/-
  The model's SizeOfType.
-/
namespace Go.Proofs.Ytlcpekpgkllbkaa
open Go.RowKit

/-- an answer that is a number; all that was there is as it was -/
def Counts (n : Int) (w : World) (e : Ending) (w' : World) : Prop := e = .returned (.int .i64 n) ∧ Below w.heap.size w w'

end Go.Proofs.Ytlcpekpgkllbkaa

/-
  The model's DepthOfType and CountBags.
-/
namespace Go.Proofs.Ytlcpekpgkllbkaa
open Go.RowKit

/-- the depth: 1 without parts -/
def Tr.deep {α : Type} : Tr α → Nat
  | .node _ ks => (ks.attach.map fun ⟨t, _⟩ => t.deep).foldl max 0 + 1
theorem deep_node {α : Type} (a : α) (ks : List (Tr α)) : (Tr.node a ks).deep = (ks.map Tr.deep).foldl max 0 + 1 := by
  rw [Tr.deep]
  congr 2
  exact List.attach_map_val (l := ks) (f := Tr.deep) ▸ rfl
/-- the depth of the first k parts -/
def deepTo {α : Type} (ks : List (Tr α)) (k : Nat) : Nat := ((ks.take k).map Tr.deep).foldl max 0
theorem deepTo_zero {α : Type} (ks : List (Tr α)) : deepTo ks 0 = 0 := rfl
theorem deepTo_succ {α : Type} (ks : List (Tr α)) (k : Nat) (h : k < ks.length) : deepTo ks (k + 1) = max (deepTo ks k) ks[k].deep := by
  unfold deepTo
  rw [List.take_succ_eq_append_getElem h, List.map_append, List.foldl_append]
  rfl
theorem deepTo_all {α : Type} (a : α) (ks : List (Tr α)) : (Tr.node a ks).deep = deepTo ks ks.length + 1 := by rw [deep_node, deepTo, List.take_length]
theorem foldl_max_le {m : Nat} : ∀ (xs : List Nat) (a : Nat), a ≤ m → (∀ x ∈ xs, x ≤ m) → xs.foldl max a ≤ m
  | [], a, h, _ => h
  | x :: xs, a, h, hx => foldl_max_le xs _ (Nat.max_le.2 ⟨h, hx x (by simp)⟩) (fun y hy => hx y (by simp [hy]))
theorem kid_sum_le {β : Type} (f : β → Nat) {ks : List β} {t : β} (h : t ∈ ks) : f t ≤ (ks.map f).sum := by
  induction ks with
  | nil => cases h
  | cons x xs ih =>
    rcases List.mem_cons.1 h with rfl | h
    · simp
    · have := ih h; simp; omega
theorem deep_le_size : ∀ t : Ty, t.deep ≤ t.size := by
  refine Tr.ind ?_
  intro a ks ih
  rw [deep_node, size_node]
  have := foldl_max_le (m := (ks.map Tr.size).sum) (ks.map Tr.deep) 0 (Nat.zero_le _) (by
    intro x hx
    obtain ⟨t, ht, rfl⟩ := List.mem_map.1 hx
    exact Nat.le_trans (ih t ht) (kid_sum_le Tr.size ht))
  omega
theorem kid_size_lt {a : TyA} {ks : List Ty} {t : Ty} (h : t ∈ ks) : t.size < (Tr.node a ks).size := by
  rw [size_node]
  have := kid_sum_le Tr.size h
  omega

theorem l1Max_any {w : World} {a b : Nat} : Calls Try.prog 122 #[.int .i64 a, .int .i64 b] w (Counts (max a b : Nat) w) := by
  have h1 : b < a → (Counts (max a b : Nat) w (.returned (.int .i64 a)) w) := by
    intro h; refine ⟨?_, Below.refl _ _⟩; rw [Nat.max_eq_left (by omega)]
  have h2 : ¬ b < a → (Counts (max a b : Nat) w (.returned (.int .i64 b)) w) := by
    intro h; refine ⟨?_, Below.refl _ _⟩; rw [Nat.max_eq_right (by omega)]
  have H1 := Lib.hid h1
  have H2 := Lib.hid h2
  clear h1 h2
  go_enter Try.func122, Try.ntmps122
  by_cases h : b < a
  · have hH := Lib.hid (H1.out h)
    clear H1 H2
    go_wp2_with fail
    go_ret
    exact hH.out
  · have hH := Lib.hid (H2.out h)
    clear H1 H2
    go_wp2_with fail
    go_ret
    exact hH.out

set_option maxHeartbeats 800000 in
theorem specDepth_any : ∀ (t : Ty) (w : World) (cs : List Value), RTy w t cs → t.size ≤ 1048577 → Calls Try.prog 100 #[.agg cs.toArray] w (Counts t.deep w) := by
  refine Tr.ind ?_
  intro a ks ih w cs h hs
  obtain ⟨L, c, A, d, rfl, k1, k2, k3, k4, k5, k6, hp⟩ := h.out
  have hle := deep_le_size (.node a ks)
  have hkd : ∀ k, k ≤ ks.length → deepTo ks k < 1048577 := by
    intro k hk
    have := foldl_max_le (m := (ks.map Tr.size).sum) ((ks.take k).map Tr.deep) 0 (Nat.zero_le _) (by
      intro x hx
      obtain ⟨t, ht, rfl⟩ := List.mem_map.1 hx
      exact Nat.le_trans (deep_le_size t) (kid_sum_le Tr.size (List.mem_of_mem_take ht)))
    rw [size_node] at hs
    unfold deepTo
    omega
  have hall := deepTo_all a ks
  obtain ⟨W1, hW1⟩ : ∃ W1, w.alloc (.cells #[.int .i64 a.kind, .slice L a.labels.length c, .slice A ks.length d] 36) = W1 := ⟨_, rfl⟩
  have hb0 : Below w.heap.size w W1 := by rw [← hW1]; exact (Below.refl _ _).alloc (Nat.le_refl _) _
  have hbox : W1.cell? ⟨w.heap.size, 2, none⟩ = some (.slice A ks.length d) := by rw [← hW1]; exact cell_of_row _ _ 2 _ _ _ (heap_alloc_new w _)
  have HP := Lib.hid hp
  have HI := Lib.hid ih
  have HB0 := Lib.hid hb0
  have HBOX := Lib.hid hbox
  have HW1 := Lib.hid hW1
  have HS := Lib.hid hs
  have HKD := Lib.hid hkd
  have HALL := Lib.hid hall
  clear hp ih hb0 hbox hW1 k1 k5 h hkd hall hle hs
  go_enter Try.func100, Try.ntmps100
  go_wp2_with fail
  rw [HW1.out]
  go_loopw [3, 4] (fun n i wr => ∃ k : Nat, k ≤ ks.length ∧ i = .int .i64 k ∧ n = .int .i64 ((deepTo ks k : Nat) : Int) ∧ Below W1.heap.size W1 wr) (fun _ i _ => ks.length - (intOf i).toNat)
  case atStart => exact ⟨0, Nat.zero_le _, rfl, rfl, Below.refl _ _⟩
  case round =>
    obtain ⟨k, hk, rfl, rfl, hb⟩ := hrel
    have hbw := HB0.out.trans (hb.mono HB0.out.size)
    have hbx : wr.cell? ⟨w.heap.size, 2, none⟩ = some (.slice A ks.length d) := (hb.cell (World.block_lt_of_cell? W1 _ HBOX.out)).trans HBOX.out
    by_cases hlt : k < ks.length
    · obtain ⟨ad, p, c0, c1, c2, rfl, hpe, hr, q0, q1, q2⟩ := kid_at HP.out hbw hlt
      have hst := deepTo_succ ks k hlt
      have hd1 := HKD.out k hk
      have hd2 := HKD.out (k + 1) hlt
      have hc := HI.out ks[k] (List.getElem_mem hlt) wr [c0, c1, c2] hr (by have := kid_size_lt (a := a) (List.getElem_mem hlt); have := HS.out; omega)
      obtain ⟨n, hn⟩ : ∃ n, deepTo ks k = n := ⟨_, rfl⟩
      obtain ⟨m, hm⟩ : ∃ m, ks[k].deep = m := ⟨_, rfl⟩
      rw [hst] at hd2
      rw [hn, hm] at hst hd2
      rw [hn] at hd1
      rw [hm] at hc
      rw [hn]
      have hmx := fun W => l1Max_any (w := W) (a := n) (b := m)
      have HC := Lib.hid hc
      have HST := Lib.hid hst
      have HMX := Lib.hid hmx
      have hmm : m < 1048577 := by omega
      clear hc hr hst hn hm hd2 hmx
      go_wp2_with fail
      refine HC.out.mono ?_
      rintro e w2 ⟨rfl, hb2⟩
      have hb3 := hb.trans (hb2.mono hb.size)
      go_wp2_with fail
      refine (HMX.out w2).mono ?_
      rintro e w3 ⟨rfl, hb4⟩
      have hb5 := hb3.trans (hb4.mono hb3.size)
      go_wp2_with fail
      go_roundw
      case rel => exact ⟨k + 1, hlt, by go_num, by rw [HST.out], hb5⟩
      case measure => simp [intOf]; omega
    · have he : k = ks.length := by omega
      have hd1 := HKD.out k hk
      have HR : Hid (Counts (((Tr.node a ks).deep : Nat) : Int) w (.returned (.int .i64 (((deepTo ks k : Nat) : Int) + 1))) wr) := by
        rw [HALL.out, he]
        exact ⟨by rw [Int.natCast_add]; rfl, hbw⟩
      obtain ⟨n, hn⟩ : ∃ n, deepTo ks k = n := ⟨_, rfl⟩
      rw [hn] at HR hd1 ⊢
      clear he hn
      go_wp2_with fail
      go_ret
      exact HR.out

/-- how many nodes are bags -/
def Tr.bags (t : Ty) : Nat := t.sum fun a => if a.kind = 4 then 1 else 0
theorem bags_node (a : TyA) (ks : List Ty) : (Tr.node a ks).bags = (if a.kind = 4 then 1 else 0) + (ks.map Tr.bags).sum := Tr.sum_node _ a ks
theorem sum_le_sum {β : Type} (f g : β → Nat) : ∀ ks : List β, (∀ t ∈ ks, f t ≤ g t) → (ks.map f).sum ≤ (ks.map g).sum
  | [], _ => Nat.le_refl _
  | x :: xs, h => by
    have h1 := h x (by simp)
    have h2 := sum_le_sum f g xs (fun t ht => h t (by simp [ht]))
    simp
    omega
theorem bags_le_size : ∀ t : Ty, t.bags ≤ t.size := by
  refine Tr.ind ?_
  intro a ks ih
  rw [bags_node, size_node]
  have := sum_le_sum Tr.bags Tr.size ks ih
  split <;> omega

end Go.Proofs.Ytlcpekpgkllbkaa

/-
  Worlds in which only the named blocks have turned; marks as texts. The laws' markStringS.
-/
namespace Go.Proofs.Ytlcpekpgkllbkaa
open Go.RowKit

/-- but for new blocks, only the blocks of fp have turned -/
structure Only (fp : List Nat) (w w' : World) : Prop where
  os : w'.os = w.os
  tape : w'.tape = w.tape
  output : w'.output = w.output
  size : w.heap.size ≤ w'.heap.size
  block : ∀ b, b < w.heap.size → b ∉ fp → w'.heap[b]? = w.heap[b]?
section
variable {fp gp : List Nat} {a b c : World}
theorem Only.refl (fp : List Nat) (w : World) : Only fp w w := ⟨rfl, rfl, rfl, Nat.le_refl _, fun _ _ _ => rfl⟩
theorem Only.trans (h : Only fp a b) (k : Only fp b c) : Only fp a c :=
  ⟨k.os.trans h.os, k.tape.trans h.tape, k.output.trans h.output, Nat.le_trans h.size k.size, fun i hi hn => (k.block i (Nat.lt_of_lt_of_le hi h.size) hn).trans (h.block i hi hn)⟩
theorem Only.more (h : Only fp a b) (hs : ∀ x ∈ fp, x ∈ gp) : Only gp a b := ⟨h.os, h.tape, h.output, h.size, fun i hi hn => h.block i hi (fun hm => hn (hs i hm))⟩
theorem Only.of_below (h : Below a.heap.size a b) : Only fp a b := ⟨h.os, h.tape, h.output, h.size, fun i hi _ => h.block i hi⟩
theorem Only.of_grown {row : Option Nat} (h : a.grownBy b row) (hr : ∀ g, row = some g → g ∈ fp) : Only fp a b :=
  ⟨h.os, h.tape, h.output, h.size, fun i hi hn => h.block i hi (fun e => hn (hr i e.symm))⟩
theorem Only.below {B : Nat} (h : Only fp a b) (hB : B ≤ a.heap.size) (hf : ∀ x ∈ fp, B ≤ x) : Below B a b :=
  ⟨h.os, h.tape, h.output, h.size, fun i hi => h.block i (by omega) (fun hm => by have := hf i hm; omega)⟩
end
theorem own_only {w w' : World} {base size n : Nat} {e : TypeId} {A : Option Addr} {c : Nat} {xs : List Value} {fp : List Nat} (h : w.ownsRow base e size (.slice A n c) n xs) (ho : Only fp w w') (hne : ∀ b ∈ blk A, b ∉ fp) : w'.ownsRow base e size (.slice A n c) n xs := by
  refine ⟨h.1, h.2.imp id ?_⟩
  rintro ⟨g, cap, cur, hv, hb, hg, rest⟩
  refine ⟨g, cap, cur, hv, hb, ?_, rest⟩
  injection hv with e1 _ _
  subst e1
  exact (ho.block g (Array.getElem?_eq_some_iff.1 hg).1 (hne g (by simp [blk]))).trans hg
/-- the marks as texts -/
def marksB (k : Int) (n : Nat) : List ByteArray := (List.range n).map fun (j : Nat) => ⟨(mtext (k + (j : Int))).toArray⟩
theorem marks_eq (k : Int) (n : Nat) : marks k n = (marksB k n).map Value.string := by simp [marks, marksB]
theorem marksB_len (k : Int) (n : Nat) : (marksB k n).length = n := by simp [marksB]
theorem mtext_len (k : Int) (h0 : 0 ≤ k) (h : k ≤ 1000000000000) : (mtext k).length ≤ 20 := by
  unfold mtext
  have := digs_len k.natAbs (by omega)
  simp
  omega
theorem marksB_size (k : Int) (n : Nat) (h0 : 0 < k) (h : k + n ≤ 1000000000000) : ∀ x ∈ marksB k n, x.size ≤ 9223372036854775807 := by
  intro x hx
  obtain ⟨j, hj, rfl⟩ := List.mem_map.1 hx
  have hj' := List.mem_range.1 hj
  have := mtext_len (k + (j : Int)) (by omega) (by omega)
  show (mtext (k + (j : Int))).toArray.size ≤ _
  rw [List.size_toArray]
  omega
/-- marks in the labels of one node -/
def MarkedS (L : Option Addr) (n c : Nat) (k : Int) (w : World) (e : Ending) (w' : World) : Prop :=
  e = .returned (.int .i64 (k + n)) ∧ w'.ownsRow 0 9 1 (.slice L n c) n (marks k n) ∧ Only (blk L) w w'
set_option maxHeartbeats 800000 in
theorem markS_any (L : Option Addr) (n c : Nat) (k : Int) (xs : List Value) (w : World) (h : w.ownsRow 0 9 1 (.slice L n c) n xs) (hx : ∀ u ∈ xs, ∃ s, u = .string s) (hk : 0 < k) (hk1 : k + n ≤ 1000000000000) :
    Calls Try.prog 53 #[.slice L n c, .int .i64 k] w (MarkedS L n c k w) := by
  rcases h.2 with ⟨hv, hn⟩ | ⟨g, cap, cur, hv, _⟩
  · injection hv with h1 h2 h3
    subst h1
    subst hn
    subst h3
    have hxs : xs = [] := List.eq_nil_of_length_eq_zero (by simpa using h.1)
    subst hxs
    have HR := Lib.hid h
    clear h
    go_enter Try.func53, Try.ntmps53
    go_wp2_with fail
    refine wp_loop_rounds 1 ?_
    rw [rounds_succ]
    go_wp2_with fail
    go_ret
    exact ⟨by simp, HR.out, Only.refl _ _⟩
  · injection hv with h1 h2 h3
    subst h1
    subst h3
    refine (markStringS_any g n c 0 k xs w h hx hk hk1).mono ?_
    rintro e w' ⟨rfl, hown, hg⟩
    exact ⟨rfl, hown, Only.of_grown hg (fun g' e => by injection e with e; subst e; simp [blk])⟩
theorem flat_mem {n : Nat} {fs : Nat → List Nat} {i x : Nat} (hi : i < n) (hx : x ∈ fs i) : x ∈ (List.range n).flatMap fs := List.mem_flatMap.2 ⟨i, List.mem_range.2 hi, hx⟩
theorem flat_apart : ∀ {n : Nat} {fs : Nat → List Nat}, ((List.range n).flatMap fs).Nodup → ∀ {i j x : Nat}, i < n → j < n → i ≠ j → x ∈ fs i → x ∉ fs j
  | 0, _, _, _, _, _, h, _, _, _ => by omega
  | n + 1, fs, hnd, i, j, x, hi, hj, hij, hx => by
    rw [List.range_succ, List.flatMap_append] at hnd
    have hs : [n].flatMap fs = fs n := by simp
    rw [hs] at hnd
    obtain ⟨h1, _, h3⟩ := List.nodup_append.1 hnd
    intro hy
    rcases Nat.lt_or_ge i n with h | h
    · rcases Nat.lt_or_ge j n with h' | h'
      · exact flat_apart h1 h h' hij hx hy
      · rw [show j = n by omega] at hy
        exact h3 x (flat_mem h hx) x hy rfl
    · rw [show i = n by omega] at hx
      exact h3 x (flat_mem (i := j) (by omega) hy) x hx rfl
end Go.Proofs.Ytlcpekpgkllbkaa

/-
  Marks in types of the call's own: what a law writes into them, and how they stay apart. Worlds in which only the named blocks have turned.
-/
namespace Go.Proofs.Ytlcpekpgkllbkaa
open Go.RowKit

theorem OTy.only {w w' : World} {t : Ty} {cs : List Value} {fp gp : List Nat} (h : OTy w t cs fp) (ho : Only gp w w') (hne : ∀ b ∈ fp, b ∉ gp) : OTy w' t cs fp := by
  induction h with
  | node a ks L A c d xs fs h0 h1 h2 h3 h4 h5 ih =>
    refine .node a ks L A c d xs fs h0 (own_only h1 ho (fun b hb => hne b (by simp [hb]))) h2 (own_only h3 ho (fun b hb => hne b (by simp [hb]))) (fun j t hj => ih j t hj (fun b hb => hne b ?_)) h5
    rw [List.mem_append, List.mem_flatMap]
    exact .inr ⟨j, List.mem_range.2 (List.getElem?_eq_some_iff.1 hj).1, hb⟩
theorem box_only {w w' : World} {g : Nat} {t : TypeId} {a b c : Value} {fp : List Nat} (h : Box3 w g t a b c) (ho : Only fp w w') (hne : g ∉ fp) : Box3 w' g t a b c := (ho.block g h.lt hne).trans h

/-- how many marks a type takes -/
def Tr.cnt (t : Ty) : Nat := t.sum fun a => 1 + a.labels.length
def cntK (ks : List Ty) : Nat := (ks.map Tr.cnt).sum
theorem cnt_node (a : TyA) (ks : List Ty) : (Tr.node a ks).cnt = 1 + a.labels.length + cntK ks := Tr.sum_node _ a ks
/-- the types hold the marks from k on, k1 is the next -/
inductive HeldK : Int → List Ty → Int → Prop where
  | nil (k : Int) : HeldK k [] k
  | cons (k k1 k2 : Int) (n : Nat) (cs ks : List Ty) (h1 : HeldK (k + 1 + n) cs k1) (h2 : HeldK k1 ks k2) : HeldK k (.node ⟨k, marksB (k + 1) n⟩ cs :: ks) k2
theorem HeldK.snoc {k k1 k2 : Int} {n : Nat} {ks cs : List Ty} (h : HeldK k ks k1) (h2 : HeldK (k1 + 1 + n) cs k2) : HeldK k (ks ++ [.node ⟨k1, marksB (k1 + 1) n⟩ cs]) k2 := by
  induction h with
  | nil k => exact .cons k k2 k2 n cs [] h2 (.nil _)
  | cons k ka kb m ds ks h1 _ _ ih2 => exact .cons k ka k2 m ds _ h1 (ih2 h2)

/-- marks in a row of types -/
def MarkedK (ks : List Ty) (A : Option Addr) (d : Nat) (fs : Nat → List Nat) (k : Int) (w : World) (e : Ending) (w' : World) : Prop :=
  ∃ (ks' : List Ty) (xs' : List Value), e = .returned (.int .i64 (k + cntK ks)) ∧ ks'.length = ks.length ∧ HeldK k ks' (k + cntK ks) ∧ w'.ownsRow 0 36 3 (.slice A ks.length d) ks.length xs' ∧
    (∀ j t, ks'[j]? = some t → OTy w' t (part3 xs' j) (fs j)) ∧ Only (blk A ++ (List.range ks.length).flatMap fs) w w'
def MarkKids (ks : List Ty) : Prop := ∀ (w : World) (A : Option Addr) (d : Nat) (xs : List Value) (fs : Nat → List Nat) (k : Int), w.ownsRow 0 36 3 (.slice A ks.length d) ks.length xs → (∀ j t, ks[j]? = some t → OTy w t (part3 xs j) (fs j)) →
  (blk A ++ (List.range ks.length).flatMap fs).Nodup → ks.length ≤ 9223372036854775807 → 0 < k → k + cntK ks ≤ 1000000000000 → Calls Try.prog 54 #[.slice A ks.length d, .int .i64 k] w (MarkedK ks A d fs k w)
/-- the first i of the row are marked -/
def MInv (ks : List Ty) (w : World) (A : Option Addr) (d : Nat) (fs : Nat → List Nat) (k0 : Int) (kv iv : Value) (wr : World) : Prop :=
  ∃ (i : Nat) (ks' : List Ty) (xs : List Value), i ≤ ks.length ∧ iv = .int .i64 i ∧ kv = .int .i64 (k0 + cntK (ks.take i)) ∧ ks'.length = i ∧ HeldK k0 ks' (k0 + cntK (ks.take i)) ∧ wr.ownsRow 0 36 3 (.slice A ks.length d) ks.length xs ∧
    (∀ j t, ks'[j]? = some t → OTy wr t (part3 xs j) (fs j)) ∧ (∀ j t, i ≤ j → ks[j]? = some t → OTy wr t (part3 xs j) (fs j)) ∧ Only (blk A ++ (List.range ks.length).flatMap fs) w wr
theorem cntK_take (ks : List Ty) (i : Nat) (h : i < ks.length) : cntK (ks.take (i + 1)) = cntK (ks.take i) + ks[i].cnt := sum_take_succ Tr.cnt ks i h
theorem cntK_take_le (ks : List Ty) (i : Nat) : cntK (ks.take i) ≤ cntK ks := sum_take_le Tr.cnt ks i
theorem part3_set0 (xs : List Value) (i j : Nat) (u : Value) (h : i * 3 + 3 ≤ xs.length) : part3 (xs.set (i * 3) u) j = if j = i then u :: (part3 xs i).tail else part3 xs j := by
  split
  · rename_i e
    subst e
    apply List.ext_getElem?
    intro m
    by_cases hm : m < 3
    · rw [part3_get _ _ _ hm]
      match m, hm with
      | 0, _ => simp [show j * 3 < xs.length by omega]
      | 1, _ => rw [List.getElem?_set_ne (by omega), List.getElem?_cons_succ, List.getElem?_tail, part3_get _ _ _ (by omega)]
      | 2, _ => rw [List.getElem?_set_ne (by omega), List.getElem?_cons_succ, List.getElem?_tail, part3_get _ _ _ (by omega)]
    · rw [List.getElem?_eq_none (by rw [part3_len _ _ (by simpa using h)]; omega), List.getElem?_eq_none (by rw [List.length_cons, List.length_tail, part3_len _ _ h]; omega)]
  · rename_i e
    exact part3_ext fun m hm => by rw [List.getElem?_set_ne (by omega)]
/-- one more node of the row is marked -/
theorem minv_more {ks : List Ty} {w wr w1 w2 w3 : World} {A : Option Addr} {g d d' : Nat} {fs fs2 : Nat → List Nat} {k0 : Int} {i n : Nat} {ks' js : List Ty} {xs ys' : List Value} {L B : Option Addr} {c : Nat} {a : TyA} {cs : List Ty} {kv iv : Value}
    (hA : A = some ⟨g, 0, none⟩) (hnd : (blk A ++ (List.range ks.length).flatMap fs).Nodup) (hi : i < ks.length) (hk : ks[i] = .node a cs) (hn : a.labels.length = n) (hfs : fs i = blk L ++ blk B ++ (List.range cs.length).flatMap fs2) (hk0 : 0 < k0) (hkb : k0 + cntK ks ≤ 1000000000000) (hcl : cs.length ≤ 9223372036854775807)
    (hlen : ks'.length = i) (hheld : HeldK k0 ks' (k0 + cntK (ks.take i))) (hrow : wr.ownsRow 0 36 3 (.slice A ks.length d) ks.length xs) (hdone : ∀ j t, ks'[j]? = some t → OTy wr t (part3 xs j) (fs j)) (hrest : ∀ j t, i ≤ j → ks[j]? = some t → OTy wr t (part3 xs j) (fs j)) (honly : Only (blk A ++ (List.range ks.length).flatMap fs) w wr)
    (hpart : part3 xs i = [.int .i64 a.kind, .slice L n c, .slice B cs.length d'])
    (hw1 : wr.setCell ⟨g, i * 3, none⟩ (.int .i64 (k0 + cntK (ks.take i))) = w1)
    (hlab : w2.ownsRow 0 9 1 (.slice L n c) n (marks (k0 + cntK (ks.take i) + 1) n)) (ho2 : Only (blk L) w1 w2)
    (hjl : js.length = cs.length) (hheld2 : HeldK (k0 + cntK (ks.take i) + 1 + n) js (k0 + cntK (ks.take i) + 1 + n + cntK cs)) (hrow2 : w3.ownsRow 0 36 3 (.slice B cs.length d') cs.length ys') (hkids2 : ∀ j t, js[j]? = some t → OTy w3 t (part3 ys' j) (fs2 j)) (ho3 : Only (blk B ++ (List.range cs.length).flatMap fs2) w2 w3)
    (hkv : kv = .int .i64 (k0 + cntK (ks.take i) + 1 + n + cntK cs)) (hiv : iv = .int .i64 ((i + 1 : Nat) : Int)) : MInv ks w A d fs k0 kv iv w3 := by
  have hxl : xs.length = ks.length * 3 := hrow.1
  have hct := cntK_take ks i hi
  have hcl' := cntK_take_le ks (i + 1)
  rw [hk, cnt_node, hn] at hct
  have hst : (wr.setCell ⟨g, i * 3, none⟩ (.int .i64 (k0 + cntK (ks.take i)))).ownsRow 0 36 3 (.slice A ks.length d) ks.length (xs.set (i * 3) (.int .i64 (k0 + cntK (ks.take i)))) ∧ wr.grownBy (wr.setCell ⟨g, i * 3, none⟩ (.int .i64 (k0 + cntK (ks.take i)))) (some g) := by
    subst hA
    exact hrow.stored (i * 3) _
  rw [hw1] at hst
  obtain ⟨hst1, hst2⟩ := hst
  have hgA : g ∈ blk A := by rw [hA]; simp [blk]
  have ho1 : Only [g] wr w1 := Only.of_grown hst2 (fun x e => by injection e with e; simp [e])
  obtain ⟨hndA, hndF, hdis⟩ := List.nodup_append.1 hnd
  have hfi : ∀ x ∈ fs i, x ∈ (List.range ks.length).flatMap fs := fun x hx => flat_mem hi hx
  have hgf : ∀ j, j < ks.length → g ∉ fs j := fun j hj hm => hdis g hgA g (flat_mem hj hm) rfl
  have ho2' : Only (fs i) w1 w2 := ho2.more (fun x hx => by rw [hfs]; simp [hx])
  have ho3' : Only (fs i) w2 w3 := ho3.more (fun x hx => by
    rw [hfs]
    rcases List.mem_append.1 hx with h | h
    · simp [h]
    · exact List.mem_append.2 (.inr h))
  have ho23 := ho2'.trans ho3'
  have hlt : ∀ j t, ks'[j]? = some t → j < i := fun j t hj => by have := (List.getElem?_eq_some_iff.1 hj).1; omega
  have hoth : ∀ j, j < ks.length → j ≠ i → ∀ t, OTy wr t (part3 xs j) (fs j) → OTy w3 t (part3 (xs.set (i * 3) (.int .i64 (k0 + cntK (ks.take i)))) j) (fs j) := by
    intro j hj hne t ht
    rw [part3_set0 xs i j _ (by omega), if_neg hne]
    refine (ht.only ho1 (fun b hb hm => ?_)).only ho23 (fun b hb hm => flat_apart hndF hj hi hne hb hm)
    have e : b = g := by simpa using hm
    subst e
    exact hgf j hj hb
  refine ⟨i + 1, ks' ++ [.node ⟨k0 + cntK (ks.take i), marksB (k0 + cntK (ks.take i) + 1) n⟩ js], xs.set (i * 3) (.int .i64 (k0 + cntK (ks.take i))), hi, hiv, ?_, by simp [hlen], ?_, ?_, ?_, ?_, ?_⟩
  · rw [hkv, hct]
    congr 1
    omega
  · have e : k0 + (cntK (ks.take (i + 1)) : Int) = k0 + cntK (ks.take i) + 1 + n + cntK cs := by rw [hct]; omega
    rw [e]
    exact hheld.snoc hheld2
  · refine own_only hst1 ho23 (fun b hb hm => hdis b hb b (hfi b hm) rfl)
  · intro j t hj
    rcases Nat.lt_or_ge j i with h | h
    · rw [List.getElem?_append_left (by omega)] at hj
      exact hoth j (by omega) (by omega) t (hdone j t hj)
    · have hji : j = i := by
        have := (List.getElem?_eq_some_iff.1 hj).1
        simp [hlen] at this
        omega
      subst hji
      rw [List.getElem?_append_right (by omega), hlen, Nat.sub_self] at hj
      have e : .node ⟨k0 + cntK (ks.take j), marksB (k0 + cntK (ks.take j) + 1) n⟩ js = t := by simpa using hj
      subst e
      rw [part3_set0 xs j j _ (by omega), if_pos rfl, hpart, hfs]
      have hold := hrest j (.node a cs) (Nat.le_refl _) (by rw [List.getElem?_eq_getElem hi, hk])
      have hnd5 := hold.nodup
      rw [hfs] at hnd5
      obtain ⟨nL, nB, nF, dLB, dLF, dBF⟩ := nodup3.1 hnd5
      have hml := marksB_len (k0 + (cntK (ks.take j) : Int) + 1) n
      have hlab3 := own_only hlab ho3 (fun b hb hm => by
        rcases List.mem_append.1 hm with h | h
        · exact dLB b hb h
        · exact dLF b hb h)
      have hnode := OTy.node (w := w3) ⟨k0 + cntK (ks.take j), marksB (k0 + cntK (ks.take j) + 1) n⟩ js L B c d' ys' fs2 ⟨by show (-9223372036854775808 : Int) ≤ k0 + cntK (ks.take j); omega, by show k0 + (cntK (ks.take j) : Int) ≤ 9223372036854775807; omega, by show (marksB _ n).length ≤ _; rw [hml]; omega, marksB_size _ n (by omega) (by omega)⟩
        (by show w3.ownsRow 0 9 1 (.slice L (marksB _ n).length c) (marksB _ n).length _; rw [hml, ← marks_eq]; exact hlab3) (by omega) (by rw [hjl]; exact hrow2) hkids2 (by rw [hjl]; exact hnd5)
      show OTy w3 _ [.int .i64 (k0 + cntK (ks.take j)), .slice L n c, .slice B cs.length d'] _
      have e2 : (.slice L (marksB (k0 + (cntK (ks.take j) : Int) + 1) n).length c : Value) = .slice L n c := by rw [hml]
      have e3 : (.slice B js.length d' : Value) = .slice B cs.length d' := by rw [hjl]
      rw [e2, e3, hjl] at hnode
      exact hnode
  · intro j t hj ht
    exact hoth j ((List.getElem?_eq_some_iff.1 ht).1) (by omega) t (hrest j t (by omega) ht)
  · refine (honly.trans (ho1.more (fun x hx => ?_))).trans (ho23.more (fun x hx => List.mem_append.2 (.inr (hfi x hx))))
    have e : x = g := by simpa using hx
    subst e
    simp [hgA]
end Go.Proofs.Ytlcpekpgkllbkaa
