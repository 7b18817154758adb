/-
  Merged by program: VaOnly.
-/
import Derived.Test.YtlcpekpgkllbkaaT10
import Derived.Test.YtlcpekpgkllbkaaT18

/-
  Marks in values of the call's own: what a law writes into them, and how they stay apart.
-/
namespace Go.Proofs.Ytlcpekpgkllbkaa
open Go.RowKit

theorem OVa.only {w w' : World} {t : Va} {cs : List Value} {fp gp : List Nat} (h : OVa w t cs fp) (ho : Only gp w w') (hne : ∀ b ∈ fp, b ∉ gp) : OVa w' t cs fp := by
  induction h with
  | node a ks L A c d xs fs h0 h1 h2 h3 h4 h5 ih =>
    refine .node a ks L A c d xs fs h0 (own_only h1 ho (fun b hb => hne b (by simp [hb]))) h2 (own_only h3 ho (fun b hb => hne b (by simp [hb]))) (fun j t hj => ih j t hj (fun b hb => hne b ?_)) h5
    rw [List.mem_append, List.mem_flatMap]
    exact .inr ⟨j, List.mem_range.2 (List.getElem?_eq_some_iff.1 hj).1, hb⟩
theorem box4_only {w w' : World} {g : Nat} {t : TypeId} {a b c d : Value} {fp : List Nat} (h : Box4 w g t a b c d) (ho : Only fp w w') (hne : g ∉ fp) : Box4 w' g t a b c d := (ho.block g h.lt hne).trans h

/-- how many marks a type takes -/
def Tr.cntV (t : Va) : Nat := t.sum fun a => 2 + a.labels.length
def cntVK (ks : List Va) : Nat := (ks.map Tr.cntV).sum
theorem cntV_node (a : VaA) (ks : List Va) : (Tr.node a ks).cntV = 2 + a.labels.length + cntVK ks := Tr.sum_node _ a ks
/-- the types hold the marks from k on, k1 is the next -/
inductive HeldVK : Int → List Va → Int → Prop where
  | nil (k : Int) : HeldVK k [] k
  | cons (k k1 k2 : Int) (n : Nat) (cs ks : List Va) (h1 : HeldVK (k + 2 + n) cs k1) (h2 : HeldVK k1 ks k2) : HeldVK k (.node ⟨k, k + 1, marksB (k + 2) n⟩ cs :: ks) k2
theorem HeldVK.snoc {k k1 k2 : Int} {n : Nat} {ks cs : List Va} (h : HeldVK k ks k1) (h2 : HeldVK (k1 + 2 + n) cs k2) : HeldVK k (ks ++ [.node ⟨k1, k1 + 1, marksB (k1 + 2) n⟩ cs]) k2 := by
  induction h with
  | nil k => exact .cons k k2 k2 n cs [] h2 (.nil _)
  | cons k ka kb m ds ks h1 _ _ ih2 => exact .cons k ka k2 m ds _ h1 (ih2 h2)

/-- marks in a row of types -/
def MarkedVK (ks : List Va) (A : Option Addr) (d : Nat) (fs : Nat → List Nat) (k : Int) (w : World) (e : Ending) (w' : World) : Prop :=
  ∃ (ks' : List Va) (xs' : List Value), e = .returned (.int .i64 (k + cntVK ks)) ∧ ks'.length = ks.length ∧ HeldVK k ks' (k + cntVK ks) ∧ w'.ownsRow 0 92 4 (.slice A ks.length d) ks.length xs' ∧
    (∀ j t, ks'[j]? = some t → OVa w' t (part4 xs' j) (fs j)) ∧ Only (blk A ++ (List.range ks.length).flatMap fs) w w'
def MarkVKids (ks : List Va) : Prop := ∀ (w : World) (A : Option Addr) (d : Nat) (xs : List Value) (fs : Nat → List Nat) (k : Int), w.ownsRow 0 92 4 (.slice A ks.length d) ks.length xs → (∀ j t, ks[j]? = some t → OVa w t (part4 xs j) (fs j)) →
  (blk A ++ (List.range ks.length).flatMap fs).Nodup → ks.length ≤ 9223372036854775807 → 0 < k → k + cntVK ks ≤ 1000000000000 → Calls Try.prog 27 #[.slice A ks.length d, .int .i64 k] w (MarkedVK ks A d fs k w)
/-- the first i of the row are marked -/
def MVInv (ks : List Va) (w : World) (A : Option Addr) (d : Nat) (fs : Nat → List Nat) (k0 : Int) (kv iv : Value) (wr : World) : Prop :=
  ∃ (i : Nat) (ks' : List Va) (xs : List Value), i ≤ ks.length ∧ iv = .int .i64 i ∧ kv = .int .i64 (k0 + cntVK (ks.take i)) ∧ ks'.length = i ∧ HeldVK k0 ks' (k0 + cntVK (ks.take i)) ∧ wr.ownsRow 0 92 4 (.slice A ks.length d) ks.length xs ∧
    (∀ j t, ks'[j]? = some t → OVa wr t (part4 xs j) (fs j)) ∧ (∀ j t, i ≤ j → ks[j]? = some t → OVa wr t (part4 xs j) (fs j)) ∧ Only (blk A ++ (List.range ks.length).flatMap fs) w wr
theorem cntVK_take (ks : List Va) (i : Nat) (h : i < ks.length) : cntVK (ks.take (i + 1)) = cntVK (ks.take i) + ks[i].cntV := sum_take_succ Tr.cntV ks i h
theorem cntVK_take_le (ks : List Va) (i : Nat) : cntVK (ks.take i) ≤ cntVK ks := sum_take_le Tr.cntV ks i
theorem part4_set2 (xs : List Value) (i j : Nat) (u v : Value) (h : i * 4 + 4 ≤ xs.length) : part4 ((xs.set (i * 4) u).set (i * 4 + 1) v) j = if j = i then u :: v :: (part4 xs i).tail.tail else part4 xs j := by
  split
  · rename_i e
    subst e
    apply List.ext_getElem?
    intro m
    by_cases hm : m < 4
    · rw [part4_get _ _ _ hm]
      match m, hm with
      | 0, _ => rw [List.getElem?_set_ne (by omega)]; simp [show j * 4 < xs.length by omega]
      | 1, _ => simp [show j * 4 + 1 < xs.length by omega]
      | 2, _ => rw [List.getElem?_set_ne (by omega), List.getElem?_set_ne (by omega), List.getElem?_cons_succ, List.getElem?_cons_succ, List.getElem?_tail, List.getElem?_tail, part4_get _ _ _ (by omega)]
      | 3, _ => rw [List.getElem?_set_ne (by omega), List.getElem?_set_ne (by omega), List.getElem?_cons_succ, List.getElem?_cons_succ, List.getElem?_tail, List.getElem?_tail, part4_get _ _ _ (by omega)]
    · rw [List.getElem?_eq_none (by rw [part4_len _ _ (by simpa using h)]; omega), List.getElem?_eq_none (by rw [List.length_cons, List.length_cons, List.length_tail, List.length_tail, part4_len _ _ h]; omega)]
  · rename_i e
    exact part4_ext fun m hm => by rw [List.getElem?_set_ne (by omega), List.getElem?_set_ne (by omega)]
/-- one more node of the row is marked -/
theorem mvinv_more {ks : List Va} {w wr w1 w2 w3 : World} {A : Option Addr} {g d d' : Nat} {fs fs2 : Nat → List Nat} {k0 : Int} {i n : Nat} {ks' js : List Va} {xs ys' : List Value} {L B : Option Addr} {c : Nat} {a : VaA} {cs : List Va} {kv iv : Value}
    (hA : A = some ⟨g, 0, none⟩) (hnd : (blk A ++ (List.range ks.length).flatMap fs).Nodup) (hi : i < ks.length) (hk : ks[i] = .node a cs) (hn : a.labels.length = n) (hfs : fs i = blk L ++ blk B ++ (List.range cs.length).flatMap fs2) (hk0 : 0 < k0) (hkb : k0 + cntVK ks ≤ 1000000000000) (hcl : cs.length ≤ 9223372036854775807)
    (hlen : ks'.length = i) (hheld : HeldVK k0 ks' (k0 + cntVK (ks.take i))) (hrow : wr.ownsRow 0 92 4 (.slice A ks.length d) ks.length xs) (hdone : ∀ j t, ks'[j]? = some t → OVa wr t (part4 xs j) (fs j)) (hrest : ∀ j t, i ≤ j → ks[j]? = some t → OVa wr t (part4 xs j) (fs j)) (honly : Only (blk A ++ (List.range ks.length).flatMap fs) w wr)
    (hpart : part4 xs i = [.int .i64 a.kind, .int .i64 a.num, .slice L n c, .slice B cs.length d'])
    (hw1 : (wr.setCell ⟨g, i * 4, none⟩ (.int .i64 (k0 + cntVK (ks.take i)))).setCell ⟨g, i * 4 + 1, none⟩ (.int .i64 (k0 + cntVK (ks.take i) + 1)) = w1)
    (hlab : w2.ownsRow 0 9 1 (.slice L n c) n (marks (k0 + cntVK (ks.take i) + 2) n)) (ho2 : Only (blk L) w1 w2)
    (hjl : js.length = cs.length) (hheld2 : HeldVK (k0 + cntVK (ks.take i) + 2 + n) js (k0 + cntVK (ks.take i) + 2 + n + cntVK cs)) (hrow2 : w3.ownsRow 0 92 4 (.slice B cs.length d') cs.length ys') (hkids2 : ∀ j t, js[j]? = some t → OVa w3 t (part4 ys' j) (fs2 j)) (ho3 : Only (blk B ++ (List.range cs.length).flatMap fs2) w2 w3)
    (hkv : kv = .int .i64 (k0 + cntVK (ks.take i) + 2 + n + cntVK cs)) (hiv : iv = .int .i64 ((i + 1 : Nat) : Int)) : MVInv ks w A d fs k0 kv iv w3 := by
  have hxl : xs.length = ks.length * 4 := hrow.1
  have hct := cntVK_take ks i hi
  have hcl' := cntVK_take_le ks (i + 1)
  rw [hk, cntV_node, hn] at hct
  have hst : ((wr.setCell ⟨g, i * 4, none⟩ (.int .i64 (k0 + cntVK (ks.take i)))).setCell ⟨g, i * 4 + 1, none⟩ (.int .i64 (k0 + cntVK (ks.take i) + 1))).ownsRow 0 92 4 (.slice A ks.length d) ks.length ((xs.set (i * 4) (.int .i64 (k0 + cntVK (ks.take i)))).set (i * 4 + 1) (.int .i64 (k0 + cntVK (ks.take i) + 1))) ∧ wr.grownBy ((wr.setCell ⟨g, i * 4, none⟩ (.int .i64 (k0 + cntVK (ks.take i)))).setCell ⟨g, i * 4 + 1, none⟩ (.int .i64 (k0 + cntVK (ks.take i) + 1))) (some g) := by
    subst hA
    have s1 := hrow.stored (i * 4) (.int .i64 (k0 + cntVK (ks.take i)))
    have s2 := s1.1.stored (i * 4 + 1) (.int .i64 (k0 + cntVK (ks.take i) + 1))
    exact ⟨s2.1, grown_set s1.2 _⟩
  rw [hw1] at hst
  obtain ⟨hst1, hst2⟩ := hst
  have hgA : g ∈ blk A := by rw [hA]; simp [blk]
  have ho1 : Only [g] wr w1 := Only.of_grown hst2 (fun x e => by injection e with e; simp [e])
  obtain ⟨hndA, hndF, hdis⟩ := List.nodup_append.1 hnd
  have hfi : ∀ x ∈ fs i, x ∈ (List.range ks.length).flatMap fs := fun x hx => flat_mem hi hx
  have hgf : ∀ j, j < ks.length → g ∉ fs j := fun j hj hm => hdis g hgA g (flat_mem hj hm) rfl
  have ho2' : Only (fs i) w1 w2 := ho2.more (fun x hx => by rw [hfs]; simp [hx])
  have ho3' : Only (fs i) w2 w3 := ho3.more (fun x hx => by
    rw [hfs]
    rcases List.mem_append.1 hx with h | h
    · simp [h]
    · exact List.mem_append.2 (.inr h))
  have ho23 := ho2'.trans ho3'
  have hlt : ∀ j t, ks'[j]? = some t → j < i := fun j t hj => by have := (List.getElem?_eq_some_iff.1 hj).1; omega
  have hoth : ∀ j, j < ks.length → j ≠ i → ∀ t, OVa wr t (part4 xs j) (fs j) → OVa w3 t (part4 ((xs.set (i * 4) (.int .i64 (k0 + cntVK (ks.take i)))).set (i * 4 + 1) (.int .i64 (k0 + cntVK (ks.take i) + 1))) j) (fs j) := by
    intro j hj hne t ht
    rw [part4_set2 xs i j _ _ (by omega), if_neg hne]
    refine (ht.only ho1 (fun b hb hm => ?_)).only ho23 (fun b hb hm => flat_apart hndF hj hi hne hb hm)
    have e : b = g := by simpa using hm
    subst e
    exact hgf j hj hb
  refine ⟨i + 1, ks' ++ [.node ⟨k0 + cntVK (ks.take i), k0 + cntVK (ks.take i) + 1, marksB (k0 + cntVK (ks.take i) + 2) n⟩ js], (xs.set (i * 4) (.int .i64 (k0 + cntVK (ks.take i)))).set (i * 4 + 1) (.int .i64 (k0 + cntVK (ks.take i) + 1)), hi, hiv, ?_, by simp [hlen], ?_, ?_, ?_, ?_, ?_⟩
  · rw [hkv, hct]
    congr 1
    omega
  · have e : k0 + (cntVK (ks.take (i + 1)) : Int) = k0 + cntVK (ks.take i) + 2 + n + cntVK cs := by rw [hct]; omega
    rw [e]
    exact hheld.snoc hheld2
  · refine own_only hst1 ho23 (fun b hb hm => hdis b hb b (hfi b hm) rfl)
  · intro j t hj
    rcases Nat.lt_or_ge j i with h | h
    · rw [List.getElem?_append_left (by omega)] at hj
      exact hoth j (by omega) (by omega) t (hdone j t hj)
    · have hji : j = i := by
        have := (List.getElem?_eq_some_iff.1 hj).1
        simp [hlen] at this
        omega
      subst hji
      rw [List.getElem?_append_right (by omega), hlen, Nat.sub_self] at hj
      have e : .node ⟨k0 + cntVK (ks.take j), k0 + cntVK (ks.take j) + 1, marksB (k0 + cntVK (ks.take j) + 2) n⟩ js = t := by simpa using hj
      subst e
      rw [part4_set2 xs j j _ _ (by omega), if_pos rfl, hpart, hfs]
      have hold := hrest j (.node a cs) (Nat.le_refl _) (by rw [List.getElem?_eq_getElem hi, hk])
      have hnd5 := hold.nodup
      rw [hfs] at hnd5
      obtain ⟨nL, nB, nF, dLB, dLF, dBF⟩ := nodup3.1 hnd5
      have hml := marksB_len (k0 + (cntVK (ks.take j) : Int) + 2) n
      have hlab3 := own_only hlab ho3 (fun b hb hm => by
        rcases List.mem_append.1 hm with h | h
        · exact dLB b hb h
        · exact dLF b hb h)
      have hnode := OVa.node (w := w3) ⟨k0 + cntVK (ks.take j), k0 + cntVK (ks.take j) + 1, marksB (k0 + cntVK (ks.take j) + 2) n⟩ js L B c d' ys' fs2 ⟨by show (-9223372036854775808 : Int) ≤ k0 + cntVK (ks.take j); omega, by show k0 + (cntVK (ks.take j) : Int) ≤ 9223372036854775807; omega, by show (-9223372036854775808 : Int) ≤ k0 + cntVK (ks.take j) + 1; omega, by show k0 + (cntVK (ks.take j) : Int) + 1 ≤ 9223372036854775807; omega, by show (marksB _ n).length ≤ _; rw [hml]; omega, marksB_size _ n (by omega) (by omega)⟩
        (by show w3.ownsRow 0 9 1 (.slice L (marksB _ n).length c) (marksB _ n).length _; rw [hml, ← marks_eq]; exact hlab3) (by omega) (by rw [hjl]; exact hrow2) hkids2 (by rw [hjl]; exact hnd5)
      show OVa w3 _ [.int .i64 (k0 + cntVK (ks.take j)), .int .i64 (k0 + cntVK (ks.take j) + 1), .slice L n c, .slice B cs.length d'] _
      have e2 : (.slice L (marksB (k0 + (cntVK (ks.take j) : Int) + 2) n).length c : Value) = .slice L n c := by rw [hml]
      have e3 : (.slice B js.length d' : Value) = .slice B cs.length d' := by rw [hjl]
      rw [e2, e3, hjl] at hnode
      exact hnode
  · intro j t hj ht
    exact hoth j ((List.getElem?_eq_some_iff.1 ht).1) (by omega) t (hrest j t (by omega) ht)
  · refine (honly.trans (ho1.more (fun x hx => ?_))).trans (ho23.more (fun x hx => List.mem_append.2 (.inr (hfi x hx))))
    have e : x = g := by simpa using hx
    subst e
    simp [hgA]
end Go.Proofs.Ytlcpekpgkllbkaa
