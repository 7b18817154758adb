/-
  Merged by program: TyOnly.
-/
import Derived.Test.YtlcpekpgkllbkaaT9
import Derived.Test.YtlcpekpgkllbkaaT10

/-
  Marks in types of the call's own: what a law writes into them, and how they stay apart. Worlds in which only the named blocks have turned.
-/
namespace Go.Proofs.Ytlcpekpgkllbkaa
open Go.RowKit

theorem OTy.only {w w' : World} {t : Ty} {cs : List Value} {fp gp : List Nat} (h : OTy w t cs fp) (ho : Only gp w w') (hne : ∀ b ∈ fp, b ∉ gp) : OTy w' t cs fp := by
  induction h with
  | node a ks L A c d xs fs h0 h1 h2 h3 h4 h5 ih =>
    refine .node a ks L A c d xs fs h0 (own_only h1 ho (fun b hb => hne b (by simp [hb]))) h2 (own_only h3 ho (fun b hb => hne b (by simp [hb]))) (fun j t hj => ih j t hj (fun b hb => hne b ?_)) h5
    rw [List.mem_append, List.mem_flatMap]
    exact .inr ⟨j, List.mem_range.2 (List.getElem?_eq_some_iff.1 hj).1, hb⟩
theorem box_only {w w' : World} {g : Nat} {t : TypeId} {a b c : Value} {fp : List Nat} (h : Box3 w g t a b c) (ho : Only fp w w') (hne : g ∉ fp) : Box3 w' g t a b c := (ho.block g h.lt hne).trans h

/-- how many marks a type takes -/
def Tr.cnt (t : Ty) : Nat := t.sum fun a => 1 + a.labels.length
def cntK (ks : List Ty) : Nat := (ks.map Tr.cnt).sum
theorem cnt_node (a : TyA) (ks : List Ty) : (Tr.node a ks).cnt = 1 + a.labels.length + cntK ks := Tr.sum_node _ a ks
/-- the types hold the marks from k on, k1 is the next -/
inductive HeldK : Int → List Ty → Int → Prop where
  | nil (k : Int) : HeldK k [] k
  | cons (k k1 k2 : Int) (n : Nat) (cs ks : List Ty) (h1 : HeldK (k + 1 + n) cs k1) (h2 : HeldK k1 ks k2) : HeldK k (.node ⟨k, marksB (k + 1) n⟩ cs :: ks) k2
theorem HeldK.snoc {k k1 k2 : Int} {n : Nat} {ks cs : List Ty} (h : HeldK k ks k1) (h2 : HeldK (k1 + 1 + n) cs k2) : HeldK k (ks ++ [.node ⟨k1, marksB (k1 + 1) n⟩ cs]) k2 := by
  induction h with
  | nil k => exact .cons k k2 k2 n cs [] h2 (.nil _)
  | cons k ka kb m ds ks h1 _ _ ih2 => exact .cons k ka k2 m ds _ h1 (ih2 h2)

/-- marks in a row of types -/
def MarkedK (ks : List Ty) (A : Option Addr) (d : Nat) (fs : Nat → List Nat) (k : Int) (w : World) (e : Ending) (w' : World) : Prop :=
  ∃ (ks' : List Ty) (xs' : List Value), e = .returned (.int .i64 (k + cntK ks)) ∧ ks'.length = ks.length ∧ HeldK k ks' (k + cntK ks) ∧ w'.ownsRow 0 36 3 (.slice A ks.length d) ks.length xs' ∧
    (∀ j t, ks'[j]? = some t → OTy w' t (part3 xs' j) (fs j)) ∧ Only (blk A ++ (List.range ks.length).flatMap fs) w w'
def MarkKids (ks : List Ty) : Prop := ∀ (w : World) (A : Option Addr) (d : Nat) (xs : List Value) (fs : Nat → List Nat) (k : Int), w.ownsRow 0 36 3 (.slice A ks.length d) ks.length xs → (∀ j t, ks[j]? = some t → OTy w t (part3 xs j) (fs j)) →
  (blk A ++ (List.range ks.length).flatMap fs).Nodup → ks.length ≤ 9223372036854775807 → 0 < k → k + cntK ks ≤ 1000000000000 → Calls Try.prog 54 #[.slice A ks.length d, .int .i64 k] w (MarkedK ks A d fs k w)
/-- the first i of the row are marked -/
def MInv (ks : List Ty) (w : World) (A : Option Addr) (d : Nat) (fs : Nat → List Nat) (k0 : Int) (kv iv : Value) (wr : World) : Prop :=
  ∃ (i : Nat) (ks' : List Ty) (xs : List Value), i ≤ ks.length ∧ iv = .int .i64 i ∧ kv = .int .i64 (k0 + cntK (ks.take i)) ∧ ks'.length = i ∧ HeldK k0 ks' (k0 + cntK (ks.take i)) ∧ wr.ownsRow 0 36 3 (.slice A ks.length d) ks.length xs ∧
    (∀ j t, ks'[j]? = some t → OTy wr t (part3 xs j) (fs j)) ∧ (∀ j t, i ≤ j → ks[j]? = some t → OTy wr t (part3 xs j) (fs j)) ∧ Only (blk A ++ (List.range ks.length).flatMap fs) w wr
theorem cntK_take (ks : List Ty) (i : Nat) (h : i < ks.length) : cntK (ks.take (i + 1)) = cntK (ks.take i) + ks[i].cnt := sum_take_succ Tr.cnt ks i h
theorem cntK_take_le (ks : List Ty) (i : Nat) : cntK (ks.take i) ≤ cntK ks := sum_take_le Tr.cnt ks i
theorem part3_set0 (xs : List Value) (i j : Nat) (u : Value) (h : i * 3 + 3 ≤ xs.length) : part3 (xs.set (i * 3) u) j = if j = i then u :: (part3 xs i).tail else part3 xs j := by
  split
  · rename_i e
    subst e
    apply List.ext_getElem?
    intro m
    by_cases hm : m < 3
    · rw [part3_get _ _ _ hm]
      match m, hm with
      | 0, _ => simp [show j * 3 < xs.length by omega]
      | 1, _ => rw [List.getElem?_set_ne (by omega), List.getElem?_cons_succ, List.getElem?_tail, part3_get _ _ _ (by omega)]
      | 2, _ => rw [List.getElem?_set_ne (by omega), List.getElem?_cons_succ, List.getElem?_tail, part3_get _ _ _ (by omega)]
    · rw [List.getElem?_eq_none (by rw [part3_len _ _ (by simpa using h)]; omega), List.getElem?_eq_none (by rw [List.length_cons, List.length_tail, part3_len _ _ h]; omega)]
  · rename_i e
    exact part3_ext fun m hm => by rw [List.getElem?_set_ne (by omega)]
/-- one more node of the row is marked -/
theorem minv_more {ks : List Ty} {w wr w1 w2 w3 : World} {A : Option Addr} {g d d' : Nat} {fs fs2 : Nat → List Nat} {k0 : Int} {i n : Nat} {ks' js : List Ty} {xs ys' : List Value} {L B : Option Addr} {c : Nat} {a : TyA} {cs : List Ty} {kv iv : Value}
    (hA : A = some ⟨g, 0, none⟩) (hnd : (blk A ++ (List.range ks.length).flatMap fs).Nodup) (hi : i < ks.length) (hk : ks[i] = .node a cs) (hn : a.labels.length = n) (hfs : fs i = blk L ++ blk B ++ (List.range cs.length).flatMap fs2) (hk0 : 0 < k0) (hkb : k0 + cntK ks ≤ 1000000000000) (hcl : cs.length ≤ 9223372036854775807)
    (hlen : ks'.length = i) (hheld : HeldK k0 ks' (k0 + cntK (ks.take i))) (hrow : wr.ownsRow 0 36 3 (.slice A ks.length d) ks.length xs) (hdone : ∀ j t, ks'[j]? = some t → OTy wr t (part3 xs j) (fs j)) (hrest : ∀ j t, i ≤ j → ks[j]? = some t → OTy wr t (part3 xs j) (fs j)) (honly : Only (blk A ++ (List.range ks.length).flatMap fs) w wr)
    (hpart : part3 xs i = [.int .i64 a.kind, .slice L n c, .slice B cs.length d'])
    (hw1 : wr.setCell ⟨g, i * 3, none⟩ (.int .i64 (k0 + cntK (ks.take i))) = w1)
    (hlab : w2.ownsRow 0 9 1 (.slice L n c) n (marks (k0 + cntK (ks.take i) + 1) n)) (ho2 : Only (blk L) w1 w2)
    (hjl : js.length = cs.length) (hheld2 : HeldK (k0 + cntK (ks.take i) + 1 + n) js (k0 + cntK (ks.take i) + 1 + n + cntK cs)) (hrow2 : w3.ownsRow 0 36 3 (.slice B cs.length d') cs.length ys') (hkids2 : ∀ j t, js[j]? = some t → OTy w3 t (part3 ys' j) (fs2 j)) (ho3 : Only (blk B ++ (List.range cs.length).flatMap fs2) w2 w3)
    (hkv : kv = .int .i64 (k0 + cntK (ks.take i) + 1 + n + cntK cs)) (hiv : iv = .int .i64 ((i + 1 : Nat) : Int)) : MInv ks w A d fs k0 kv iv w3 := by
  have hxl : xs.length = ks.length * 3 := hrow.1
  have hct := cntK_take ks i hi
  have hcl' := cntK_take_le ks (i + 1)
  rw [hk, cnt_node, hn] at hct
  have hst : (wr.setCell ⟨g, i * 3, none⟩ (.int .i64 (k0 + cntK (ks.take i)))).ownsRow 0 36 3 (.slice A ks.length d) ks.length (xs.set (i * 3) (.int .i64 (k0 + cntK (ks.take i)))) ∧ wr.grownBy (wr.setCell ⟨g, i * 3, none⟩ (.int .i64 (k0 + cntK (ks.take i)))) (some g) := by
    subst hA
    exact hrow.stored (i * 3) _
  rw [hw1] at hst
  obtain ⟨hst1, hst2⟩ := hst
  have hgA : g ∈ blk A := by rw [hA]; simp [blk]
  have ho1 : Only [g] wr w1 := Only.of_grown hst2 (fun x e => by injection e with e; simp [e])
  obtain ⟨hndA, hndF, hdis⟩ := List.nodup_append.1 hnd
  have hfi : ∀ x ∈ fs i, x ∈ (List.range ks.length).flatMap fs := fun x hx => flat_mem hi hx
  have hgf : ∀ j, j < ks.length → g ∉ fs j := fun j hj hm => hdis g hgA g (flat_mem hj hm) rfl
  have ho2' : Only (fs i) w1 w2 := ho2.more (fun x hx => by rw [hfs]; simp [hx])
  have ho3' : Only (fs i) w2 w3 := ho3.more (fun x hx => by
    rw [hfs]
    rcases List.mem_append.1 hx with h | h
    · simp [h]
    · exact List.mem_append.2 (.inr h))
  have ho23 := ho2'.trans ho3'
  have hlt : ∀ j t, ks'[j]? = some t → j < i := fun j t hj => by have := (List.getElem?_eq_some_iff.1 hj).1; omega
  have hoth : ∀ j, j < ks.length → j ≠ i → ∀ t, OTy wr t (part3 xs j) (fs j) → OTy w3 t (part3 (xs.set (i * 3) (.int .i64 (k0 + cntK (ks.take i)))) j) (fs j) := by
    intro j hj hne t ht
    rw [part3_set0 xs i j _ (by omega), if_neg hne]
    refine (ht.only ho1 (fun b hb hm => ?_)).only ho23 (fun b hb hm => flat_apart hndF hj hi hne hb hm)
    have e : b = g := by simpa using hm
    subst e
    exact hgf j hj hb
  refine ⟨i + 1, ks' ++ [.node ⟨k0 + cntK (ks.take i), marksB (k0 + cntK (ks.take i) + 1) n⟩ js], xs.set (i * 3) (.int .i64 (k0 + cntK (ks.take i))), hi, hiv, ?_, by simp [hlen], ?_, ?_, ?_, ?_, ?_⟩
  · rw [hkv, hct]
    congr 1
    omega
  · have e : k0 + (cntK (ks.take (i + 1)) : Int) = k0 + cntK (ks.take i) + 1 + n + cntK cs := by rw [hct]; omega
    rw [e]
    exact hheld.snoc hheld2
  · refine own_only hst1 ho23 (fun b hb hm => hdis b hb b (hfi b hm) rfl)
  · intro j t hj
    rcases Nat.lt_or_ge j i with h | h
    · rw [List.getElem?_append_left (by omega)] at hj
      exact hoth j (by omega) (by omega) t (hdone j t hj)
    · have hji : j = i := by
        have := (List.getElem?_eq_some_iff.1 hj).1
        simp [hlen] at this
        omega
      subst hji
      rw [List.getElem?_append_right (by omega), hlen, Nat.sub_self] at hj
      have e : .node ⟨k0 + cntK (ks.take j), marksB (k0 + cntK (ks.take j) + 1) n⟩ js = t := by simpa using hj
      subst e
      rw [part3_set0 xs j j _ (by omega), if_pos rfl, hpart, hfs]
      have hold := hrest j (.node a cs) (Nat.le_refl _) (by rw [List.getElem?_eq_getElem hi, hk])
      have hnd5 := hold.nodup
      rw [hfs] at hnd5
      obtain ⟨nL, nB, nF, dLB, dLF, dBF⟩ := nodup3.1 hnd5
      have hml := marksB_len (k0 + (cntK (ks.take j) : Int) + 1) n
      have hlab3 := own_only hlab ho3 (fun b hb hm => by
        rcases List.mem_append.1 hm with h | h
        · exact dLB b hb h
        · exact dLF b hb h)
      have hnode := OTy.node (w := w3) ⟨k0 + cntK (ks.take j), marksB (k0 + cntK (ks.take j) + 1) n⟩ js L B c d' ys' fs2 ⟨by show (-9223372036854775808 : Int) ≤ k0 + cntK (ks.take j); omega, by show k0 + (cntK (ks.take j) : Int) ≤ 9223372036854775807; omega, by show (marksB _ n).length ≤ _; rw [hml]; omega, marksB_size _ n (by omega) (by omega)⟩
        (by show w3.ownsRow 0 9 1 (.slice L (marksB _ n).length c) (marksB _ n).length _; rw [hml, ← marks_eq]; exact hlab3) (by omega) (by rw [hjl]; exact hrow2) hkids2 (by rw [hjl]; exact hnd5)
      show OTy w3 _ [.int .i64 (k0 + cntK (ks.take j)), .slice L n c, .slice B cs.length d'] _
      have e2 : (.slice L (marksB (k0 + (cntK (ks.take j) : Int) + 1) n).length c : Value) = .slice L n c := by rw [hml]
      have e3 : (.slice B js.length d' : Value) = .slice B cs.length d' := by rw [hjl]
      rw [e2, e3, hjl] at hnode
      exact hnode
  · intro j t hj ht
    exact hoth j ((List.getElem?_eq_some_iff.1 ht).1) (by omega) t (hrest j t (by omega) ht)
  · refine (honly.trans (ho1.more (fun x hx => ?_))).trans (ho23.more (fun x hx => List.mem_append.2 (.inr (hfi x hx))))
    have e : x = g := by simpa using hx
    subst e
    simp [hgA]
end Go.Proofs.Ytlcpekpgkllbkaa
