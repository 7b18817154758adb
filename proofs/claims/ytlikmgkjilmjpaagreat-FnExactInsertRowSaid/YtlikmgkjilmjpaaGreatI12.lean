/-
  Merged by program: VaOnly, VaTree, VaMark.
-/
import Derived.Test.YtlikmgkjilmjpaaGreatI7
import Derived.Test.YtlikmgkjilmjpaaGreatI11
import Derived.Test.YtlikmgkjilmjpaaGreatI9

/-
  Marks in values of the call's own: what a law writes into them, and how they stay apart.
-/
namespace Go.Proofs.YtlikmgkjilmjpaaGreat
open Go.RowKit

theorem OVa.only {w w' : World} {t : Va} {cs : List Value} {fp gp : List Nat} (h : OVa w t cs fp) (ho : Only gp w w') (hne : ∀ b ∈ fp, b ∉ gp) : OVa w' t cs fp := by
  induction h with
  | node a ks L A c d xs fs h0 h1 h2 h3 h4 h5 ih =>
    refine .node a ks L A c d xs fs h0 (own_only h1 ho (fun b hb => hne b (by simp [hb]))) h2 (own_only h3 ho (fun b hb => hne b (by simp [hb]))) (fun j t hj => ih j t hj (fun b hb => hne b ?_)) h5
    rw [List.mem_append, List.mem_flatMap]
    exact .inr ⟨j, List.mem_range.2 (List.getElem?_eq_some_iff.1 hj).1, hb⟩
theorem box4_only {w w' : World} {g : Nat} {t : TypeId} {a b c d : Value} {fp : List Nat} (h : Box4 w g t a b c d) (ho : Only fp w w') (hne : g ∉ fp) : Box4 w' g t a b c d := (ho.block g h.lt hne).trans h

/-- how many marks a type takes -/
def Tr.cntV (t : Va) : Nat := t.sum fun a => 2 + a.labels.length
def cntVK (ks : List Va) : Nat := (ks.map Tr.cntV).sum
theorem cntV_node (a : VaA) (ks : List Va) : (Tr.node a ks).cntV = 2 + a.labels.length + cntVK ks := Tr.sum_node _ a ks
/-- the types hold the marks from k on, k1 is the next -/
inductive HeldVK : Int → List Va → Int → Prop where
  | nil (k : Int) : HeldVK k [] k
  | cons (k k1 k2 : Int) (n : Nat) (cs ks : List Va) (h1 : HeldVK (k + 2 + n) cs k1) (h2 : HeldVK k1 ks k2) : HeldVK k (.node ⟨k, k + 1, marksB (k + 2) n⟩ cs :: ks) k2
theorem HeldVK.snoc {k k1 k2 : Int} {n : Nat} {ks cs : List Va} (h : HeldVK k ks k1) (h2 : HeldVK (k1 + 2 + n) cs k2) : HeldVK k (ks ++ [.node ⟨k1, k1 + 1, marksB (k1 + 2) n⟩ cs]) k2 := by
  induction h with
  | nil k => exact .cons k k2 k2 n cs [] h2 (.nil _)
  | cons k ka kb m ds ks h1 _ _ ih2 => exact .cons k ka k2 m ds _ h1 (ih2 h2)

/-- marks in a row of types -/
def MarkedVK (ks : List Va) (A : Option Addr) (d : Nat) (fs : Nat → List Nat) (k : Int) (w : World) (e : Ending) (w' : World) : Prop :=
  ∃ (ks' : List Va) (xs' : List Value), e = .returned (.int .i64 (k + cntVK ks)) ∧ ks'.length = ks.length ∧ HeldVK k ks' (k + cntVK ks) ∧ w'.ownsRow 0 47 4 (.slice A ks.length d) ks.length xs' ∧
    (∀ j t, ks'[j]? = some t → OVa w' t (part4 xs' j) (fs j)) ∧ Only (blk A ++ (List.range ks.length).flatMap fs) w w'
def MarkVKids (ks : List Va) : Prop := ∀ (w : World) (A : Option Addr) (d : Nat) (xs : List Value) (fs : Nat → List Nat) (k : Int), w.ownsRow 0 47 4 (.slice A ks.length d) ks.length xs → (∀ j t, ks[j]? = some t → OVa w t (part4 xs j) (fs j)) →
  (blk A ++ (List.range ks.length).flatMap fs).Nodup → ks.length ≤ 9223372036854775807 → 0 < k → k + cntVK ks ≤ 1000000000000 → Calls Tryz.prog 44 #[.slice A ks.length d, .int .i64 k] w (MarkedVK ks A d fs k w)
/-- the first i of the row are marked -/
def MVInv (ks : List Va) (w : World) (A : Option Addr) (d : Nat) (fs : Nat → List Nat) (k0 : Int) (kv iv : Value) (wr : World) : Prop :=
  ∃ (i : Nat) (ks' : List Va) (xs : List Value), i ≤ ks.length ∧ iv = .int .i64 i ∧ kv = .int .i64 (k0 + cntVK (ks.take i)) ∧ ks'.length = i ∧ HeldVK k0 ks' (k0 + cntVK (ks.take i)) ∧ wr.ownsRow 0 47 4 (.slice A ks.length d) ks.length xs ∧
    (∀ j t, ks'[j]? = some t → OVa wr t (part4 xs j) (fs j)) ∧ (∀ j t, i ≤ j → ks[j]? = some t → OVa wr t (part4 xs j) (fs j)) ∧ Only (blk A ++ (List.range ks.length).flatMap fs) w wr
theorem cntVK_take (ks : List Va) (i : Nat) (h : i < ks.length) : cntVK (ks.take (i + 1)) = cntVK (ks.take i) + ks[i].cntV := sum_take_succ Tr.cntV ks i h
theorem cntVK_take_le (ks : List Va) (i : Nat) : cntVK (ks.take i) ≤ cntVK ks := sum_take_le Tr.cntV ks i
theorem part4_set2 (xs : List Value) (i j : Nat) (u v : Value) (h : i * 4 + 4 ≤ xs.length) : part4 ((xs.set (i * 4) u).set (i * 4 + 1) v) j = if j = i then u :: v :: (part4 xs i).tail.tail else part4 xs j := by
  split
  · rename_i e
    subst e
    apply List.ext_getElem?
    intro m
    by_cases hm : m < 4
    · rw [part4_get _ _ _ hm]
      match m, hm with
      | 0, _ => rw [List.getElem?_set_ne (by omega)]; simp [show j * 4 < xs.length by omega]
      | 1, _ => simp [show j * 4 + 1 < xs.length by omega]
      | 2, _ => rw [List.getElem?_set_ne (by omega), List.getElem?_set_ne (by omega), List.getElem?_cons_succ, List.getElem?_cons_succ, List.getElem?_tail, List.getElem?_tail, part4_get _ _ _ (by omega)]
      | 3, _ => rw [List.getElem?_set_ne (by omega), List.getElem?_set_ne (by omega), List.getElem?_cons_succ, List.getElem?_cons_succ, List.getElem?_tail, List.getElem?_tail, part4_get _ _ _ (by omega)]
    · rw [List.getElem?_eq_none (by rw [part4_len _ _ (by simpa using h)]; omega), List.getElem?_eq_none (by rw [List.length_cons, List.length_cons, List.length_tail, List.length_tail, part4_len _ _ h]; omega)]
  · rename_i e
    exact part4_ext fun m hm => by rw [List.getElem?_set_ne (by omega), List.getElem?_set_ne (by omega)]
/-- one more node of the row is marked -/
theorem mvinv_more {ks : List Va} {w wr w1 w2 w3 : World} {A : Option Addr} {g d d' : Nat} {fs fs2 : Nat → List Nat} {k0 : Int} {i n : Nat} {ks' js : List Va} {xs ys' : List Value} {L B : Option Addr} {c : Nat} {a : VaA} {cs : List Va} {kv iv : Value}
    (hA : A = some ⟨g, 0, none⟩) (hnd : (blk A ++ (List.range ks.length).flatMap fs).Nodup) (hi : i < ks.length) (hk : ks[i] = .node a cs) (hn : a.labels.length = n) (hfs : fs i = blk L ++ blk B ++ (List.range cs.length).flatMap fs2) (hk0 : 0 < k0) (hkb : k0 + cntVK ks ≤ 1000000000000) (hcl : cs.length ≤ 9223372036854775807)
    (hlen : ks'.length = i) (hheld : HeldVK k0 ks' (k0 + cntVK (ks.take i))) (hrow : wr.ownsRow 0 47 4 (.slice A ks.length d) ks.length xs) (hdone : ∀ j t, ks'[j]? = some t → OVa wr t (part4 xs j) (fs j)) (hrest : ∀ j t, i ≤ j → ks[j]? = some t → OVa wr t (part4 xs j) (fs j)) (honly : Only (blk A ++ (List.range ks.length).flatMap fs) w wr)
    (hpart : part4 xs i = [.int .i64 a.kind, .int .i64 a.num, .slice L n c, .slice B cs.length d'])
    (hw1 : (wr.setCell ⟨g, i * 4, none⟩ (.int .i64 (k0 + cntVK (ks.take i)))).setCell ⟨g, i * 4 + 1, none⟩ (.int .i64 (k0 + cntVK (ks.take i) + 1)) = w1)
    (hlab : w2.ownsRow 0 9 1 (.slice L n c) n (marks (k0 + cntVK (ks.take i) + 2) n)) (ho2 : Only (blk L) w1 w2)
    (hjl : js.length = cs.length) (hheld2 : HeldVK (k0 + cntVK (ks.take i) + 2 + n) js (k0 + cntVK (ks.take i) + 2 + n + cntVK cs)) (hrow2 : w3.ownsRow 0 47 4 (.slice B cs.length d') cs.length ys') (hkids2 : ∀ j t, js[j]? = some t → OVa w3 t (part4 ys' j) (fs2 j)) (ho3 : Only (blk B ++ (List.range cs.length).flatMap fs2) w2 w3)
    (hkv : kv = .int .i64 (k0 + cntVK (ks.take i) + 2 + n + cntVK cs)) (hiv : iv = .int .i64 ((i + 1 : Nat) : Int)) : MVInv ks w A d fs k0 kv iv w3 := by
  have hxl : xs.length = ks.length * 4 := hrow.1
  have hct := cntVK_take ks i hi
  have hcl' := cntVK_take_le ks (i + 1)
  rw [hk, cntV_node, hn] at hct
  have hst : ((wr.setCell ⟨g, i * 4, none⟩ (.int .i64 (k0 + cntVK (ks.take i)))).setCell ⟨g, i * 4 + 1, none⟩ (.int .i64 (k0 + cntVK (ks.take i) + 1))).ownsRow 0 47 4 (.slice A ks.length d) ks.length ((xs.set (i * 4) (.int .i64 (k0 + cntVK (ks.take i)))).set (i * 4 + 1) (.int .i64 (k0 + cntVK (ks.take i) + 1))) ∧ wr.grownBy ((wr.setCell ⟨g, i * 4, none⟩ (.int .i64 (k0 + cntVK (ks.take i)))).setCell ⟨g, i * 4 + 1, none⟩ (.int .i64 (k0 + cntVK (ks.take i) + 1))) (some g) := by
    subst hA
    have s1 := hrow.stored (i * 4) (.int .i64 (k0 + cntVK (ks.take i)))
    have s2 := s1.1.stored (i * 4 + 1) (.int .i64 (k0 + cntVK (ks.take i) + 1))
    exact ⟨s2.1, grown_set s1.2 _⟩
  rw [hw1] at hst
  obtain ⟨hst1, hst2⟩ := hst
  have hgA : g ∈ blk A := by rw [hA]; simp [blk]
  have ho1 : Only [g] wr w1 := Only.of_grown hst2 (fun x e => by injection e with e; simp [e])
  obtain ⟨hndA, hndF, hdis⟩ := List.nodup_append.1 hnd
  have hfi : ∀ x ∈ fs i, x ∈ (List.range ks.length).flatMap fs := fun x hx => flat_mem hi hx
  have hgf : ∀ j, j < ks.length → g ∉ fs j := fun j hj hm => hdis g hgA g (flat_mem hj hm) rfl
  have ho2' : Only (fs i) w1 w2 := ho2.more (fun x hx => by rw [hfs]; simp [hx])
  have ho3' : Only (fs i) w2 w3 := ho3.more (fun x hx => by
    rw [hfs]
    rcases List.mem_append.1 hx with h | h
    · simp [h]
    · exact List.mem_append.2 (.inr h))
  have ho23 := ho2'.trans ho3'
  have hlt : ∀ j t, ks'[j]? = some t → j < i := fun j t hj => by have := (List.getElem?_eq_some_iff.1 hj).1; omega
  have hoth : ∀ j, j < ks.length → j ≠ i → ∀ t, OVa wr t (part4 xs j) (fs j) → OVa w3 t (part4 ((xs.set (i * 4) (.int .i64 (k0 + cntVK (ks.take i)))).set (i * 4 + 1) (.int .i64 (k0 + cntVK (ks.take i) + 1))) j) (fs j) := by
    intro j hj hne t ht
    rw [part4_set2 xs i j _ _ (by omega), if_neg hne]
    refine (ht.only ho1 (fun b hb hm => ?_)).only ho23 (fun b hb hm => flat_apart hndF hj hi hne hb hm)
    have e : b = g := by simpa using hm
    subst e
    exact hgf j hj hb
  refine ⟨i + 1, ks' ++ [.node ⟨k0 + cntVK (ks.take i), k0 + cntVK (ks.take i) + 1, marksB (k0 + cntVK (ks.take i) + 2) n⟩ js], (xs.set (i * 4) (.int .i64 (k0 + cntVK (ks.take i)))).set (i * 4 + 1) (.int .i64 (k0 + cntVK (ks.take i) + 1)), hi, hiv, ?_, by simp [hlen], ?_, ?_, ?_, ?_, ?_⟩
  · rw [hkv, hct]
    congr 1
    omega
  · have e : k0 + (cntVK (ks.take (i + 1)) : Int) = k0 + cntVK (ks.take i) + 2 + n + cntVK cs := by rw [hct]; omega
    rw [e]
    exact hheld.snoc hheld2
  · refine own_only hst1 ho23 (fun b hb hm => hdis b hb b (hfi b hm) rfl)
  · intro j t hj
    rcases Nat.lt_or_ge j i with h | h
    · rw [List.getElem?_append_left (by omega)] at hj
      exact hoth j (by omega) (by omega) t (hdone j t hj)
    · have hji : j = i := by
        have := (List.getElem?_eq_some_iff.1 hj).1
        simp [hlen] at this
        omega
      subst hji
      rw [List.getElem?_append_right (by omega), hlen, Nat.sub_self] at hj
      have e : .node ⟨k0 + cntVK (ks.take j), k0 + cntVK (ks.take j) + 1, marksB (k0 + cntVK (ks.take j) + 2) n⟩ js = t := by simpa using hj
      subst e
      rw [part4_set2 xs j j _ _ (by omega), if_pos rfl, hpart, hfs]
      have hold := hrest j (.node a cs) (Nat.le_refl _) (by rw [List.getElem?_eq_getElem hi, hk])
      have hnd5 := hold.nodup
      rw [hfs] at hnd5
      obtain ⟨nL, nB, nF, dLB, dLF, dBF⟩ := nodup3.1 hnd5
      have hml := marksB_len (k0 + (cntVK (ks.take j) : Int) + 2) n
      have hlab3 := own_only hlab ho3 (fun b hb hm => by
        rcases List.mem_append.1 hm with h | h
        · exact dLB b hb h
        · exact dLF b hb h)
      have hnode := OVa.node (w := w3) ⟨k0 + cntVK (ks.take j), k0 + cntVK (ks.take j) + 1, marksB (k0 + cntVK (ks.take j) + 2) n⟩ js L B c d' ys' fs2 ⟨by show (-9223372036854775808 : Int) ≤ k0 + cntVK (ks.take j); omega, by show k0 + (cntVK (ks.take j) : Int) ≤ 9223372036854775807; omega, by show (-9223372036854775808 : Int) ≤ k0 + cntVK (ks.take j) + 1; omega, by show k0 + (cntVK (ks.take j) : Int) + 1 ≤ 9223372036854775807; omega, by show (marksB _ n).length ≤ _; rw [hml]; omega, marksB_size _ n (by omega) (by omega)⟩
        (by show w3.ownsRow 0 9 1 (.slice L (marksB _ n).length c) (marksB _ n).length _; rw [hml, ← marks_eq]; exact hlab3) (by omega) (by rw [hjl]; exact hrow2) hkids2 (by rw [hjl]; exact hnd5)
      show OVa w3 _ [.int .i64 (k0 + cntVK (ks.take j)), .int .i64 (k0 + cntVK (ks.take j) + 1), .slice L n c, .slice B cs.length d'] _
      have e2 : (.slice L (marksB (k0 + (cntVK (ks.take j) : Int) + 2) n).length c : Value) = .slice L n c := by rw [hml]
      have e3 : (.slice B js.length d' : Value) = .slice B cs.length d' := by rw [hjl]
      rw [e2, e3, hjl] at hnode
      exact hnode
  · intro j t hj ht
    exact hoth j ((List.getElem?_eq_some_iff.1 ht).1) (by omega) t (hrest j t (by omega) ht)
  · refine (honly.trans (ho1.more (fun x hx => ?_))).trans (ho23.more (fun x hx => List.mem_append.2 (.inr (hfi x hx))))
    have e : x = g := by simpa using hx
    subst e
    simp [hgA]
end Go.Proofs.YtlikmgkjilmjpaaGreat

/-
  A value of the call's own, taken apart.
-/
namespace Go.Proofs.YtlikmgkjilmjpaaGreat
open Go.RowKit

theorem ovtree {w : World} {a : VaA} {ks : List Va} {cs : List Value} {fp : List Nat} (h : OVa w (.node a ks) cs fp) : ∃ (L A : Option Addr) (c d : Nat) (xs : List Value) (fs : Nat → List Nat), cs = [.int .i64 a.kind, .int .i64 a.num, .slice L a.labels.length c, .slice A ks.length d] ∧ fp = blk L ++ blk A ++ (List.range ks.length).flatMap fs ∧ a.ok ∧
    w.ownsRow 0 9 1 (.slice L a.labels.length c) a.labels.length (a.labels.map Value.string) ∧ ks.length ≤ 9223372036854775807 ∧ w.ownsRow 0 47 4 (.slice A ks.length d) ks.length xs ∧ (∀ j t, ks[j]? = some t → OVa w t (part4 xs j) (fs j)) ∧ (blk L ++ blk A ++ (List.range ks.length).flatMap fs).Nodup := by
  cases h with
  | node a ks L A c d xs fs h0 h1 h2 h3 h4 h5 => exact ⟨L, A, c, d, xs, fs, rfl, rfl, h0, h1, h2, h3, h4, h5⟩
end Go.Proofs.YtlikmgkjilmjpaaGreat

/-
  The walks of the laws' markValueS, markValue, heldValueS, heldValue.
-/
namespace Go.Proofs.YtlikmgkjilmjpaaGreat
open Go.RowKit

set_option maxRecDepth 100000 in
set_option maxHeartbeats 3000000 in
theorem markVKids_any (ks : List Va) (ih : ∀ t ∈ ks, MarkVKids t.kids) : MarkVKids ks := by
  intro w A d xs fs k0 hown hkids hnd hlen hk0 hkb
  have HI := Lib.hid ih
  have HND := Lib.hid hnd
  have HOW := Lib.hid hown
  have HKD := Lib.hid hkids
  clear ih hnd hown hkids
  go_enter Tryz.func44, Tryz.ntmps44
  go_wp2_with fail
  go_loopw [1, 5] (fun kv iv wr => MVInv ks w A d fs k0 kv iv wr) (fun _ iv _ => ks.length - (intOf iv).toNat)
  case atStart => exact ⟨0, [], xs, Nat.zero_le _, rfl, by simp [cntVK], rfl, by simpa [cntVK] using HeldVK.nil k0, HOW.out, fun j t hj => by simp at hj, fun j t _ hj => HKD.out j t hj, Only.refl _ _⟩
  case round =>
    obtain ⟨i, ks', ys, hi, rfl, rfl, hkl, hheld, hrow, hdone, hrest, honly⟩ := hrel
    have hyl : ys.length = ks.length * 4 := hrow.1
    by_cases hlt : i < ks.length
    · have hold := hrest i ks[i] (Nat.le_refl _) (List.getElem?_eq_getElem hlt)
      obtain ⟨a, cs, hnode⟩ : ∃ a cs, ks[i] = .node a cs := ⟨_, _, (match ks[i] with | .node a cs => rfl : ks[i] = .node ks[i].top ks[i].kids)⟩
      rw [hnode] at hold
      obtain ⟨L, B, c, d', zs, fs2, hpart, hfs, haok, hl, hcl, hrow2, hkids2, hnd2⟩ := ovtree hold
      have hct := cntVK_take ks i hlt
      have hcle := cntVK_take_le ks (i + 1)
      rw [hnode, cntV_node] at hct
      have hK := HI.out ks[i] (List.getElem_mem hlt)
      rw [hnode] at hK
      obtain ⟨g, rfl⟩ : ∃ g, A = some ⟨g, 0, none⟩ := by
        rcases hrow.2 with ⟨_, h0⟩ | ⟨g, _, _, hv, _⟩
        · omega
        · injection hv with e _ _
          exact ⟨g, e⟩
      obtain ⟨n, hn⟩ : ∃ n, a.labels.length = n := ⟨_, rfl⟩
      have HN := Lib.hid hn
      rw [hn] at hpart hl hct
      obtain ⟨T, hT⟩ : ∃ T, cntVK (ks.take i) = T := ⟨_, rfl⟩
      rw [hT] at hct
      obtain ⟨w1, hw1⟩ : ∃ w1, (wr.setCell ⟨g, i * 4, none⟩ (.int .i64 (k0 + T))).setCell ⟨g, i * 4 + 1, none⟩ (.int .i64 (k0 + T + 1)) = w1 := ⟨_, rfl⟩
      have hst0 := hrow.stored (i * 4) (.int .i64 (k0 + (T : Int)))
      have hst1 := hst0.1.stored (i * 4 + 1) (.int .i64 (k0 + (T : Int) + 1))
      have hst := And.intro hst1.1 (grown_set (j := i * 4 + 1) hst0.2 (.int .i64 (k0 + (T : Int) + 1)))
      rw [hw1] at hst
      have hgA : g ∈ blk (some (⟨g, 0, none⟩ : Addr)) := by simp [blk]
      obtain ⟨_, hndF, hdis⟩ := List.nodup_append.1 HND.out
      have hgf : g ∉ fs i := fun hm => hdis g hgA g (flat_mem hlt hm) rfl
      have ho1 : Only [g] wr w1 := Only.of_grown hst.2 (fun x e => by injection e with e; simp [e])
      rw [hfs] at hgf
      have hl1 := own_only hl ho1 (fun b hb hm => by
        have e : b = g := by simpa using hm
        subst e
        exact hgf (by simp [hb]))
      have hp0 : ys[i * 4]? = some (.int .i64 a.kind) := by have := part4_get ys i 0 (by omega); rw [hpart] at this; simpa using this.symm
      have hpn : ys[i * 4 + 1]? = some (.int .i64 a.num) := by have := part4_get ys i 1 (by omega); rw [hpart] at this; simpa using this.symm
      have hp1 : ys[i * 4 + 2]? = some (.slice L n c) := by have := part4_get ys i 2 (by omega); rw [hpart] at this; simpa using this.symm
      have hp2 : ys[i * 4 + 3]? = some (.slice B cs.length d') := by have := part4_get ys i 3 (by omega); rw [hpart] at this; simpa using this.symm
      have q0 : wr.cell? ⟨g, i * 4, none⟩ = some (.int .i64 a.kind) := by rw [hrow.cellAt _ (by omega)]; exact hp0
      have f0 := hrow.frozenAt (i * 4)
      have qn : wr.cell? ⟨g, i * 4 + 1, none⟩ = some (.int .i64 a.num) := by rw [hrow.cellAt _ (by omega)]; exact hpn
      have f1 := hrow.frozenAt (i * 4 + 1)
      have q1 : wr.cell? ⟨g, i * 4 + 2, none⟩ = some (.slice L n c) := by rw [hrow.cellAt _ (by omega)]; exact hp1
      have HC1 := Lib.hid (markS_any L n c (k0 + T + 2) _ w1 hl1 (strs_strs _) (by omega) (by omega))
      have HALL : Hid (∀ (w2 : World), w2.ownsRow 0 9 1 (.slice L n c) n (marks (k0 + T + 2) n) → Only (blk L) w1 w2 → w2.cell? ⟨g, i * 4 + 3, none⟩ = some (.slice B cs.length d') ∧
          Calls Tryz.prog 44 #[.slice B cs.length d', .int .i64 (k0 + T + 2 + n)] w2 (fun e w3 => ∃ v : Int, e = .returned (.int .i64 v) ∧ ∀ kv iv, kv = Value.int .i64 v → iv = Value.int .i64 ((i + 1 : Nat) : Int) → MVInv ks w (some ⟨g, 0, none⟩) d fs k0 kv iv w3)) := Lib.hid (by
        intro w2 hl2 ho2
        have hnd3 := hnd2
        obtain ⟨nL, nB, nF, dLB, dLF, dBF⟩ := nodup3.1 hnd3
        have hgL : g ∉ blk L := fun hm => hgf (by simp [hm])
        have hr2 : w2.ownsRow 0 47 4 (.slice (some ⟨g, 0, none⟩) ks.length d) ks.length ((ys.set (i * 4) (.int .i64 (k0 + T))).set (i * 4 + 1) (.int .i64 (k0 + T + 1))) := own_only hst.1 ho2 (fun b hb hm => by
          have e : b = g := by simpa [blk] using hb
          subst e
          exact hgL hm)
        have hgB : ∀ b ∈ blk B, b ∉ [g] := fun b hb hm => by
          have e : b = g := by simpa using hm
          subst e
          exact hgf (by simp [hb])
        have hgF : ∀ b ∈ (List.range cs.length).flatMap fs2, b ∉ [g] := fun b hb hm => by
          have e : b = g := by simpa using hm
          subst e
          exact hgf (List.mem_append.2 (.inr hb))
        have hrow22 := own_only (own_only hrow2 ho1 hgB) ho2 (fun b hb hm => dLB b hm hb)
        have hk22 : ∀ j t, cs[j]? = some t → OVa w2 t (part4 zs j) (fs2 j) := fun j t hj =>
          have hjl := (List.getElem?_eq_some_iff.1 hj).1
          ((hkids2 j t hj).only ho1 (fun b hb => hgF b (flat_mem hjl hb))).only ho2 (fun b hb hm => dLF b hm (flat_mem hjl hb))
        refine ⟨by rw [hr2.cellAt _ (by omega), List.getElem?_set_ne (by omega), List.getElem?_set_ne (by omega)]; exact hp2, ?_⟩
        refine (hK w2 B d' zs fs2 (k0 + T + 2 + n) hrow22 hk22 (List.nodup_append.2 ⟨nB, nF, fun x hx y hy e => dBF x hx (e ▸ hy)⟩) hcl (by omega) (by show k0 + (T : Int) + 2 + n + cntVK cs ≤ _; omega)).mono ?_
        rintro e w3 ⟨js, ys', rfl, hjl, hheld2, hrow3, hkids3, ho3⟩
        refine ⟨_, rfl, fun kv iv hkv hiv => ?_⟩
        exact mvinv_more (a := a) (cs := cs) (n := n) (w1 := w1) (w2 := w2) (xs := ys) (L := L) (B := B) (c := c) (d' := d') (js := js) (ys' := ys') (fs2 := fs2) rfl HND.out hlt hnode HN.out hfs hk0 hkb hcl hkl hheld hrow hdone hrest honly hpart (by rw [hT]; exact hw1) (by rw [hT]; exact hl2) ho2 hjl (by rw [hT]; exact hheld2) hrow3 hkids3 ho3 (by rw [hT]; exact hkv) hiv)
      have HW1 := Lib.hid hw1
      have hTb : (T : Int) ≤ 1000000000000 := by omega
      have hnb : (n : Int) ≤ 1000000000000 := by omega
      have hkT : k0 + (T : Int) + 2 + n ≤ 1000000000000 := by omega
      rw [hT]
      clear hold hnode hpart hfs haok hl hrow2 hkids2 hnd2 hct hcle hK hn hT hw1 hst hndF hdis hgf ho1 hl1 hst0 hst1 hp0 hpn hp1 hp2 hkl hheld hrow hdone hrest honly hcl hkb
      go_wp2_with fail
      rw [HW1.out, show k0 + (T : Int) + 1 + 1 = k0 + T + 2 by omega]
      refine HC1.out.mono ?_
      rintro e w2 ⟨rfl, hl2, ho2⟩
      obtain ⟨r2, hcall⟩ := HALL.out w2 hl2 ho2
      have HC2 := Lib.hid hcall
      clear hcall hl2 ho2 q0 f0 qn f1 q1 HALL HC1
      go_wp2_with fail
      refine HC2.out.mono ?_
      rintro e w3 ⟨v, rfl, hfin⟩
      have HF := Lib.hid hfin
      clear hfin HC2 r2
      go_wp2_with fail
      go_roundw
      case rel => exact HF.out _ _ rfl (by go_num)
      case measure => simp [intOf]; omega
    · have he : i = ks.length := by omega
      have HF : Hid (MarkedVK ks A d fs k0 w (.returned (.int .i64 (k0 + cntVK (ks.take i)))) wr) := by
        rw [he, List.take_length]
        rw [he, List.take_length] at hheld
        exact ⟨ks', ys, rfl, by omega, hheld, hrow, hdone, honly⟩
      clear he hkl hheld hrow hdone hrest honly
      go_wp2_with fail
      go_ret
      exact HF.out

theorem markVTree : ∀ t : Va, MarkVKids t.kids := by
  refine Tr.ind ?_
  intro a ks ih
  exact markVKids_any ks ih

/-- a type that holds marks: its own kind is as it was -/
def HeldVT (k : Int) (t : Va) (k' : Int) : Prop := ∃ n cs, t = .node ⟨t.top.kind, t.top.num, marksB k n⟩ cs ∧ HeldVK (k + n) cs k'
/-- .. the marks go up to at most K -/
def MarkedVTK (K : Int) (cs : List Value) (fp : List Nat) (k : Int) (w : World) (e : Ending) (w' : World) : Prop :=
  ∃ (t' : Va) (k' : Int), e = .returned (.int .i64 k') ∧ 0 < k' ∧ k' ≤ K ∧ OVa w' t' cs fp ∧ HeldVT k t' k' ∧ Only fp w w'
def MarkedVT (cs : List Value) (fp : List Nat) (k : Int) (w : World) (e : Ending) (w' : World) : Prop := MarkedVTK 1000000000000 cs fp k w e w'

set_option maxRecDepth 100000 in
set_option maxHeartbeats 1600000 in
theorem markValueK_any (K : Int) (hK : K ≤ 1000000000000) (t : Va) (w : World) (cs : List Value) (fp : List Nat) (k : Int) (h : OVa w t cs fp) (hk : 0 < k) (hkb : k + t.cntV ≤ K) : Calls Tryz.prog 18 #[.agg cs.toArray, .int .i64 k] w (MarkedVTK K cs fp k w) := by
  obtain ⟨a, ks⟩ := t
  obtain ⟨L, A, c, d, xs, fs, rfl, rfl, haok, hl, hcl, hrow, hkids, hnd⟩ := ovtree h
  rw [cntV_node] at hkb
  obtain ⟨nL, nA, nF, dLA, dLF, dAF⟩ := nodup3.1 hnd
  obtain ⟨n, hn⟩ : ∃ n, a.labels.length = n := ⟨_, rfl⟩
  rw [hn] at hl hkb ⊢
  obtain ⟨W1, hW1⟩ : ∃ W1, w.alloc (.cells #[.int .i64 a.kind, .int .i64 a.num, .slice L n c, .slice A ks.length d] 47) = W1 := ⟨_, rfl⟩
  obtain ⟨H, hH⟩ : ∃ H, w.heap.size = H := ⟨_, rfl⟩
  have b0 : Box4 W1 H 47 (.int .i64 a.kind) (.int .i64 a.num) (.slice L n c) (.slice A ks.length d) := by rw [← hW1, ← hH]; exact Box4.new w _ _ _ _ _
  have hb1 : Below w.heap.size w W1 := by rw [← hW1]; exact (Below.refl _ _).alloc (Nat.le_refl _) _
  have ho0 : Only ([] : List Nat) w W1 := Only.of_below hb1
  have hl1 := own_only hl ho0 (fun b _ => by simp)
  have hHL : H ∉ blk L := fun hm => by have := (hl.lt H ((blk_own L n c H).2 hm)).2; omega
  have HC1 := Lib.hid (markS_any L n c k _ W1 hl1 (strs_strs _) hk (by omega))
  have HALL : Hid (∀ (w2 : World), w2.ownsRow 0 9 1 (.slice L n c) n (marks k n) → Only (blk L) W1 w2 → w2.cell? ⟨H, 3, none⟩ = some (.slice A ks.length d) ∧
      Calls Tryz.prog 44 #[.slice A ks.length d, .int .i64 (k + n)] w2 (fun e w3 => ∃ v : Int, e = .returned (.int .i64 v) ∧ MarkedVTK K [.int .i64 a.kind, .int .i64 a.num, .slice L n c, .slice A ks.length d] (blk L ++ blk A ++ (List.range ks.length).flatMap fs) k w (.returned (.int .i64 v)) w3)) := Lib.hid (by
    intro w2 hl2 ho2
    refine ⟨(box4_only b0 ho2 hHL).c3, ?_⟩
    have hrow2 := own_only (own_only hrow ho0 (fun b _ => by simp)) ho2 (fun b hb hm => dLA b hm hb)
    have hk2 : ∀ j t, ks[j]? = some t → OVa w2 t (part4 xs j) (fs j) := fun j t hj =>
      have hjl := (List.getElem?_eq_some_iff.1 hj).1
      ((hkids j t hj).only ho0 (fun b _ => by simp)).only ho2 (fun b hb hm => dLF b hm (flat_mem hjl hb))
    refine (markVKids_any ks (fun t _ => markVTree t) w2 A d xs fs (k + n) hrow2 hk2 (List.nodup_append.2 ⟨nA, nF, fun x hx y hy e => dAF x hx (e ▸ hy)⟩) hcl (by omega) (by omega)).mono ?_
    rintro e w3 ⟨js, ys', rfl, hjl, hheld, hrow3, hkids3, ho3⟩
    have hml := marksB_len k n
    refine ⟨_, rfl, .node ⟨a.kind, a.num, marksB k n⟩ js, _, rfl, by omega, by omega, ?_, ⟨n, js, rfl, hheld⟩, ?_⟩
    · have hlab3 := own_only hl2 ho3 (fun b hb hm => by
        rcases List.mem_append.1 hm with h | h
        · exact dLA b hb h
        · exact dLF b hb h)
      have hnode := OVa.node (w := w3) ⟨a.kind, a.num, marksB k n⟩ js L A c d ys' fs ⟨haok.1, haok.2.1, haok.2.2.1, haok.2.2.2.1, by show (marksB k n).length ≤ _; rw [hml]; omega, marksB_size k n hk (by omega)⟩
        (by show w3.ownsRow 0 9 1 (.slice L (marksB k n).length c) (marksB k n).length _; rw [hml, ← marks_eq]; exact hlab3) (by omega) (by rw [hjl]; exact hrow3) hkids3 (by rw [hjl]; exact hnd)
      have e2 : (.slice L (marksB k n).length c : Value) = .slice L n c := by rw [hml]
      have e3 : (.slice A js.length d : Value) = .slice A ks.length d := by rw [hjl]
      rw [e2, e3, hjl] at hnode
      exact hnode
    · refine ((ho0.more (fun x hx => by cases hx)).trans (ho2.more (fun x hx => by simp [hx]))).trans (ho3.more (fun x hx => ?_))
      rcases List.mem_append.1 hx with h | h
      · simp [h]
      · exact List.mem_append.2 (.inr h))
  have HW1 := Lib.hid hW1
  have x1 := b0.c2
  have hkn : k + (n : Int) ≤ 1000000000000 := by omega
  clear h hl hrow hkids hnd nL nA nF dLA dLF dAF hn hW1 b0 hb1 ho0 hl1 hHL haok hkb
  go_enter Tryz.func18, Tryz.ntmps18
  go_wp2_with fail
  rw [HW1.out]
  go_wp2_with fail
  refine HC1.out.mono ?_
  rintro e w2 ⟨rfl, hl2, ho2⟩
  obtain ⟨r2, hcall⟩ := HALL.out w2 hl2 ho2
  have HC2 := Lib.hid hcall
  clear hcall hl2 ho2 x1 HALL HC1
  go_wp2_with fail
  refine HC2.out.mono ?_
  rintro e w3 ⟨v, rfl, hfin⟩
  have HF := Lib.hid hfin
  clear hfin HC2 r2
  go_wp2_with fail
  go_ret
  exact HF.out
theorem markValue_any (t : Va) (w : World) (cs : List Value) (fp : List Nat) (k : Int) (h : OVa w t cs fp) (hk : 0 < k) (hkb : k + t.cntV ≤ 1000000000000) : Calls Tryz.prog 18 #[.agg cs.toArray, .int .i64 k] w (MarkedVT cs fp k w) := markValueK_any _ (Int.le_refl _) t w cs fp k h hk hkb
end Go.Proofs.YtlikmgkjilmjpaaGreat
