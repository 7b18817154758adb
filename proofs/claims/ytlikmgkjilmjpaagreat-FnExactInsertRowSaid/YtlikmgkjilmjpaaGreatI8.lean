/-
  Merged by program: TyOnly, TyMark, KdA.
-/
import Derived.Test.YtlikmgkjilmjpaaGreatI7
import Derived.Test.YtlikmgkjilmjpaaGreatI4
import Derived.Test.YtlikmgkjilmjpaaGreatI6
import Derived.Lib.Props

/-
  Marks in types of the call's own: what a law writes into them, and how they stay apart. Worlds in which only the named blocks have turned.
-/
namespace Go.Proofs.YtlikmgkjilmjpaaGreat
open Go.RowKit

theorem OTy.only {w w' : World} {t : Ty} {cs : List Value} {fp gp : List Nat} (h : OTy w t cs fp) (ho : Only gp w w') (hne : ∀ b ∈ fp, b ∉ gp) : OTy w' t cs fp := by
  induction h with
  | node a ks L A c d xs fs h0 h1 h2 h3 h4 h5 ih =>
    refine .node a ks L A c d xs fs h0 (own_only h1 ho (fun b hb => hne b (by simp [hb]))) h2 (own_only h3 ho (fun b hb => hne b (by simp [hb]))) (fun j t hj => ih j t hj (fun b hb => hne b ?_)) h5
    rw [List.mem_append, List.mem_flatMap]
    exact .inr ⟨j, List.mem_range.2 (List.getElem?_eq_some_iff.1 hj).1, hb⟩
theorem box_only {w w' : World} {g : Nat} {t : TypeId} {a b c : Value} {fp : List Nat} (h : Box3 w g t a b c) (ho : Only fp w w') (hne : g ∉ fp) : Box3 w' g t a b c := (ho.block g h.lt hne).trans h

/-- how many marks a type takes -/
def Tr.cnt (t : Ty) : Nat := t.sum fun a => 1 + a.labels.length
def cntK (ks : List Ty) : Nat := (ks.map Tr.cnt).sum
theorem cnt_node (a : TyA) (ks : List Ty) : (Tr.node a ks).cnt = 1 + a.labels.length + cntK ks := Tr.sum_node _ a ks
/-- the types hold the marks from k on, k1 is the next -/
inductive HeldK : Int → List Ty → Int → Prop where
  | nil (k : Int) : HeldK k [] k
  | cons (k k1 k2 : Int) (n : Nat) (cs ks : List Ty) (h1 : HeldK (k + 1 + n) cs k1) (h2 : HeldK k1 ks k2) : HeldK k (.node ⟨k, marksB (k + 1) n⟩ cs :: ks) k2
theorem HeldK.snoc {k k1 k2 : Int} {n : Nat} {ks cs : List Ty} (h : HeldK k ks k1) (h2 : HeldK (k1 + 1 + n) cs k2) : HeldK k (ks ++ [.node ⟨k1, marksB (k1 + 1) n⟩ cs]) k2 := by
  induction h with
  | nil k => exact .cons k k2 k2 n cs [] h2 (.nil _)
  | cons k ka kb m ds ks h1 _ _ ih2 => exact .cons k ka k2 m ds _ h1 (ih2 h2)

/-- marks in a row of types -/
def MarkedK (ks : List Ty) (A : Option Addr) (d : Nat) (fs : Nat → List Nat) (k : Int) (w : World) (e : Ending) (w' : World) : Prop :=
  ∃ (ks' : List Ty) (xs' : List Value), e = .returned (.int .i64 (k + cntK ks)) ∧ ks'.length = ks.length ∧ HeldK k ks' (k + cntK ks) ∧ w'.ownsRow 0 96 3 (.slice A ks.length d) ks.length xs' ∧
    (∀ j t, ks'[j]? = some t → OTy w' t (part3 xs' j) (fs j)) ∧ Only (blk A ++ (List.range ks.length).flatMap fs) w w'
def MarkKids (ks : List Ty) : Prop := ∀ (w : World) (A : Option Addr) (d : Nat) (xs : List Value) (fs : Nat → List Nat) (k : Int), w.ownsRow 0 96 3 (.slice A ks.length d) ks.length xs → (∀ j t, ks[j]? = some t → OTy w t (part3 xs j) (fs j)) →
  (blk A ++ (List.range ks.length).flatMap fs).Nodup → ks.length ≤ 9223372036854775807 → 0 < k → k + cntK ks ≤ 1000000000000 → Calls Tryz.prog 64 #[.slice A ks.length d, .int .i64 k] w (MarkedK ks A d fs k w)
/-- the first i of the row are marked -/
def MInv (ks : List Ty) (w : World) (A : Option Addr) (d : Nat) (fs : Nat → List Nat) (k0 : Int) (kv iv : Value) (wr : World) : Prop :=
  ∃ (i : Nat) (ks' : List Ty) (xs : List Value), i ≤ ks.length ∧ iv = .int .i64 i ∧ kv = .int .i64 (k0 + cntK (ks.take i)) ∧ ks'.length = i ∧ HeldK k0 ks' (k0 + cntK (ks.take i)) ∧ wr.ownsRow 0 96 3 (.slice A ks.length d) ks.length xs ∧
    (∀ j t, ks'[j]? = some t → OTy wr t (part3 xs j) (fs j)) ∧ (∀ j t, i ≤ j → ks[j]? = some t → OTy wr t (part3 xs j) (fs j)) ∧ Only (blk A ++ (List.range ks.length).flatMap fs) w wr
theorem cntK_take (ks : List Ty) (i : Nat) (h : i < ks.length) : cntK (ks.take (i + 1)) = cntK (ks.take i) + ks[i].cnt := sum_take_succ Tr.cnt ks i h
theorem cntK_take_le (ks : List Ty) (i : Nat) : cntK (ks.take i) ≤ cntK ks := sum_take_le Tr.cnt ks i
theorem part3_set0 (xs : List Value) (i j : Nat) (u : Value) (h : i * 3 + 3 ≤ xs.length) : part3 (xs.set (i * 3) u) j = if j = i then u :: (part3 xs i).tail else part3 xs j := by
  split
  · rename_i e
    subst e
    apply List.ext_getElem?
    intro m
    by_cases hm : m < 3
    · rw [part3_get _ _ _ hm]
      match m, hm with
      | 0, _ => simp [show j * 3 < xs.length by omega]
      | 1, _ => rw [List.getElem?_set_ne (by omega), List.getElem?_cons_succ, List.getElem?_tail, part3_get _ _ _ (by omega)]
      | 2, _ => rw [List.getElem?_set_ne (by omega), List.getElem?_cons_succ, List.getElem?_tail, part3_get _ _ _ (by omega)]
    · rw [List.getElem?_eq_none (by rw [part3_len _ _ (by simpa using h)]; omega), List.getElem?_eq_none (by rw [List.length_cons, List.length_tail, part3_len _ _ h]; omega)]
  · rename_i e
    exact part3_ext fun m hm => by rw [List.getElem?_set_ne (by omega)]
/-- one more node of the row is marked -/
theorem minv_more {ks : List Ty} {w wr w1 w2 w3 : World} {A : Option Addr} {g d d' : Nat} {fs fs2 : Nat → List Nat} {k0 : Int} {i n : Nat} {ks' js : List Ty} {xs ys' : List Value} {L B : Option Addr} {c : Nat} {a : TyA} {cs : List Ty} {kv iv : Value}
    (hA : A = some ⟨g, 0, none⟩) (hnd : (blk A ++ (List.range ks.length).flatMap fs).Nodup) (hi : i < ks.length) (hk : ks[i] = .node a cs) (hn : a.labels.length = n) (hfs : fs i = blk L ++ blk B ++ (List.range cs.length).flatMap fs2) (hk0 : 0 < k0) (hkb : k0 + cntK ks ≤ 1000000000000) (hcl : cs.length ≤ 9223372036854775807)
    (hlen : ks'.length = i) (hheld : HeldK k0 ks' (k0 + cntK (ks.take i))) (hrow : wr.ownsRow 0 96 3 (.slice A ks.length d) ks.length xs) (hdone : ∀ j t, ks'[j]? = some t → OTy wr t (part3 xs j) (fs j)) (hrest : ∀ j t, i ≤ j → ks[j]? = some t → OTy wr t (part3 xs j) (fs j)) (honly : Only (blk A ++ (List.range ks.length).flatMap fs) w wr)
    (hpart : part3 xs i = [.int .i64 a.kind, .slice L n c, .slice B cs.length d'])
    (hw1 : wr.setCell ⟨g, i * 3, none⟩ (.int .i64 (k0 + cntK (ks.take i))) = w1)
    (hlab : w2.ownsRow 0 9 1 (.slice L n c) n (marks (k0 + cntK (ks.take i) + 1) n)) (ho2 : Only (blk L) w1 w2)
    (hjl : js.length = cs.length) (hheld2 : HeldK (k0 + cntK (ks.take i) + 1 + n) js (k0 + cntK (ks.take i) + 1 + n + cntK cs)) (hrow2 : w3.ownsRow 0 96 3 (.slice B cs.length d') cs.length ys') (hkids2 : ∀ j t, js[j]? = some t → OTy w3 t (part3 ys' j) (fs2 j)) (ho3 : Only (blk B ++ (List.range cs.length).flatMap fs2) w2 w3)
    (hkv : kv = .int .i64 (k0 + cntK (ks.take i) + 1 + n + cntK cs)) (hiv : iv = .int .i64 ((i + 1 : Nat) : Int)) : MInv ks w A d fs k0 kv iv w3 := by
  have hxl : xs.length = ks.length * 3 := hrow.1
  have hct := cntK_take ks i hi
  have hcl' := cntK_take_le ks (i + 1)
  rw [hk, cnt_node, hn] at hct
  have hst : (wr.setCell ⟨g, i * 3, none⟩ (.int .i64 (k0 + cntK (ks.take i)))).ownsRow 0 96 3 (.slice A ks.length d) ks.length (xs.set (i * 3) (.int .i64 (k0 + cntK (ks.take i)))) ∧ wr.grownBy (wr.setCell ⟨g, i * 3, none⟩ (.int .i64 (k0 + cntK (ks.take i)))) (some g) := by
    subst hA
    exact hrow.stored (i * 3) _
  rw [hw1] at hst
  obtain ⟨hst1, hst2⟩ := hst
  have hgA : g ∈ blk A := by rw [hA]; simp [blk]
  have ho1 : Only [g] wr w1 := Only.of_grown hst2 (fun x e => by injection e with e; simp [e])
  obtain ⟨hndA, hndF, hdis⟩ := List.nodup_append.1 hnd
  have hfi : ∀ x ∈ fs i, x ∈ (List.range ks.length).flatMap fs := fun x hx => flat_mem hi hx
  have hgf : ∀ j, j < ks.length → g ∉ fs j := fun j hj hm => hdis g hgA g (flat_mem hj hm) rfl
  have ho2' : Only (fs i) w1 w2 := ho2.more (fun x hx => by rw [hfs]; simp [hx])
  have ho3' : Only (fs i) w2 w3 := ho3.more (fun x hx => by
    rw [hfs]
    rcases List.mem_append.1 hx with h | h
    · simp [h]
    · exact List.mem_append.2 (.inr h))
  have ho23 := ho2'.trans ho3'
  have hlt : ∀ j t, ks'[j]? = some t → j < i := fun j t hj => by have := (List.getElem?_eq_some_iff.1 hj).1; omega
  have hoth : ∀ j, j < ks.length → j ≠ i → ∀ t, OTy wr t (part3 xs j) (fs j) → OTy w3 t (part3 (xs.set (i * 3) (.int .i64 (k0 + cntK (ks.take i)))) j) (fs j) := by
    intro j hj hne t ht
    rw [part3_set0 xs i j _ (by omega), if_neg hne]
    refine (ht.only ho1 (fun b hb hm => ?_)).only ho23 (fun b hb hm => flat_apart hndF hj hi hne hb hm)
    have e : b = g := by simpa using hm
    subst e
    exact hgf j hj hb
  refine ⟨i + 1, ks' ++ [.node ⟨k0 + cntK (ks.take i), marksB (k0 + cntK (ks.take i) + 1) n⟩ js], xs.set (i * 3) (.int .i64 (k0 + cntK (ks.take i))), hi, hiv, ?_, by simp [hlen], ?_, ?_, ?_, ?_, ?_⟩
  · rw [hkv, hct]
    congr 1
    omega
  · have e : k0 + (cntK (ks.take (i + 1)) : Int) = k0 + cntK (ks.take i) + 1 + n + cntK cs := by rw [hct]; omega
    rw [e]
    exact hheld.snoc hheld2
  · refine own_only hst1 ho23 (fun b hb hm => hdis b hb b (hfi b hm) rfl)
  · intro j t hj
    rcases Nat.lt_or_ge j i with h | h
    · rw [List.getElem?_append_left (by omega)] at hj
      exact hoth j (by omega) (by omega) t (hdone j t hj)
    · have hji : j = i := by
        have := (List.getElem?_eq_some_iff.1 hj).1
        simp [hlen] at this
        omega
      subst hji
      rw [List.getElem?_append_right (by omega), hlen, Nat.sub_self] at hj
      have e : .node ⟨k0 + cntK (ks.take j), marksB (k0 + cntK (ks.take j) + 1) n⟩ js = t := by simpa using hj
      subst e
      rw [part3_set0 xs j j _ (by omega), if_pos rfl, hpart, hfs]
      have hold := hrest j (.node a cs) (Nat.le_refl _) (by rw [List.getElem?_eq_getElem hi, hk])
      have hnd5 := hold.nodup
      rw [hfs] at hnd5
      obtain ⟨nL, nB, nF, dLB, dLF, dBF⟩ := nodup3.1 hnd5
      have hml := marksB_len (k0 + (cntK (ks.take j) : Int) + 1) n
      have hlab3 := own_only hlab ho3 (fun b hb hm => by
        rcases List.mem_append.1 hm with h | h
        · exact dLB b hb h
        · exact dLF b hb h)
      have hnode := OTy.node (w := w3) ⟨k0 + cntK (ks.take j), marksB (k0 + cntK (ks.take j) + 1) n⟩ js L B c d' ys' fs2 ⟨by show (-9223372036854775808 : Int) ≤ k0 + cntK (ks.take j); omega, by show k0 + (cntK (ks.take j) : Int) ≤ 9223372036854775807; omega, by show (marksB _ n).length ≤ _; rw [hml]; omega, marksB_size _ n (by omega) (by omega)⟩
        (by show w3.ownsRow 0 9 1 (.slice L (marksB _ n).length c) (marksB _ n).length _; rw [hml, ← marks_eq]; exact hlab3) (by omega) (by rw [hjl]; exact hrow2) hkids2 (by rw [hjl]; exact hnd5)
      show OTy w3 _ [.int .i64 (k0 + cntK (ks.take j)), .slice L n c, .slice B cs.length d'] _
      have e2 : (.slice L (marksB (k0 + (cntK (ks.take j) : Int) + 1) n).length c : Value) = .slice L n c := by rw [hml]
      have e3 : (.slice B js.length d' : Value) = .slice B cs.length d' := by rw [hjl]
      rw [e2, e3, hjl] at hnode
      exact hnode
  · intro j t hj ht
    exact hoth j ((List.getElem?_eq_some_iff.1 ht).1) (by omega) t (hrest j t (by omega) ht)
  · refine (honly.trans (ho1.more (fun x hx => ?_))).trans (ho23.more (fun x hx => List.mem_append.2 (.inr (hfi x hx))))
    have e : x = g := by simpa using hx
    subst e
    simp [hgA]
end Go.Proofs.YtlikmgkjilmjpaaGreat

/-
  The walks of the laws' markTypeS, markType, heldTypeS, heldType.
-/
namespace Go.Proofs.YtlikmgkjilmjpaaGreat
open Go.RowKit

theorem otree {w : World} {a : TyA} {ks : List Ty} {cs : List Value} {fp : List Nat} (h : OTy w (.node a ks) cs fp) : ∃ (L A : Option Addr) (c d : Nat) (xs : List Value) (fs : Nat → List Nat), cs = [.int .i64 a.kind, .slice L a.labels.length c, .slice A ks.length d] ∧ fp = blk L ++ blk A ++ (List.range ks.length).flatMap fs ∧ a.ok ∧
    w.ownsRow 0 9 1 (.slice L a.labels.length c) a.labels.length (a.labels.map Value.string) ∧ ks.length ≤ 9223372036854775807 ∧ w.ownsRow 0 96 3 (.slice A ks.length d) ks.length xs ∧ (∀ j t, ks[j]? = some t → OTy w t (part3 xs j) (fs j)) ∧ (blk L ++ blk A ++ (List.range ks.length).flatMap fs).Nodup := by
  cases h with
  | node a ks L A c d xs fs h0 h1 h2 h3 h4 h5 => exact ⟨L, A, c, d, xs, fs, rfl, rfl, h0, h1, h2, h3, h4, h5⟩

set_option maxRecDepth 100000 in
set_option maxHeartbeats 2000000 in
theorem markKids_any (ks : List Ty) (ih : ∀ t ∈ ks, MarkKids t.kids) : MarkKids ks := by
  intro w A d xs fs k0 hown hkids hnd hlen hk0 hkb
  have HI := Lib.hid ih
  have HND := Lib.hid hnd
  have HOW := Lib.hid hown
  have HKD := Lib.hid hkids
  clear ih hnd hown hkids
  go_enter Tryz.func64, Tryz.ntmps64
  go_wp2_with fail
  go_loopw [1, 5] (fun kv iv wr => MInv ks w A d fs k0 kv iv wr) (fun _ iv _ => ks.length - (intOf iv).toNat)
  case atStart => exact ⟨0, [], xs, Nat.zero_le _, rfl, by simp [cntK], rfl, by simpa [cntK] using HeldK.nil k0, HOW.out, fun j t hj => by simp at hj, fun j t _ hj => HKD.out j t hj, Only.refl _ _⟩
  case round =>
    obtain ⟨i, ks', ys, hi, rfl, rfl, hkl, hheld, hrow, hdone, hrest, honly⟩ := hrel
    have hyl : ys.length = ks.length * 3 := hrow.1
    by_cases hlt : i < ks.length
    · have hold := hrest i ks[i] (Nat.le_refl _) (List.getElem?_eq_getElem hlt)
      obtain ⟨a, cs, hnode⟩ : ∃ a cs, ks[i] = .node a cs := ⟨_, _, (match ks[i] with | .node a cs => rfl : ks[i] = .node ks[i].top ks[i].kids)⟩
      rw [hnode] at hold
      obtain ⟨L, B, c, d', zs, fs2, hpart, hfs, haok, hl, hcl, hrow2, hkids2, hnd2⟩ := otree hold
      have hct := cntK_take ks i hlt
      have hcle := cntK_take_le ks (i + 1)
      rw [hnode, cnt_node] at hct
      have hK := HI.out ks[i] (List.getElem_mem hlt)
      rw [hnode] at hK
      obtain ⟨g, rfl⟩ : ∃ g, A = some ⟨g, 0, none⟩ := by
        rcases hrow.2 with ⟨_, h0⟩ | ⟨g, _, _, hv, _⟩
        · omega
        · injection hv with e _ _
          exact ⟨g, e⟩
      obtain ⟨n, hn⟩ : ∃ n, a.labels.length = n := ⟨_, rfl⟩
      have HN := Lib.hid hn
      rw [hn] at hpart hl hct
      obtain ⟨T, hT⟩ : ∃ T, cntK (ks.take i) = T := ⟨_, rfl⟩
      rw [hT] at hct
      obtain ⟨w1, hw1⟩ : ∃ w1, wr.setCell ⟨g, i * 3, none⟩ (.int .i64 (k0 + T)) = w1 := ⟨_, rfl⟩
      have hst := hrow.stored (i * 3) (.int .i64 (k0 + (T : Int)))
      rw [hw1] at hst
      have hgA : g ∈ blk (some (⟨g, 0, none⟩ : Addr)) := by simp [blk]
      obtain ⟨_, hndF, hdis⟩ := List.nodup_append.1 HND.out
      have hgf : g ∉ fs i := fun hm => hdis g hgA g (flat_mem hlt hm) rfl
      have ho1 : Only [g] wr w1 := Only.of_grown hst.2 (fun x e => by injection e with e; simp [e])
      rw [hfs] at hgf
      have hl1 := own_only hl ho1 (fun b hb hm => by
        have e : b = g := by simpa using hm
        subst e
        exact hgf (by simp [hb]))
      have hp0 : ys[i * 3]? = some (.int .i64 a.kind) := by have := part3_get ys i 0 (by omega); rw [hpart] at this; simpa using this.symm
      have hp1 : ys[i * 3 + 1]? = some (.slice L n c) := by have := part3_get ys i 1 (by omega); rw [hpart] at this; simpa using this.symm
      have hp2 : ys[i * 3 + 2]? = some (.slice B cs.length d') := by have := part3_get ys i 2 (by omega); rw [hpart] at this; simpa using this.symm
      have q0 : wr.cell? ⟨g, i * 3, none⟩ = some (.int .i64 a.kind) := by rw [hrow.cellAt _ (by omega)]; exact hp0
      have f0 := hrow.frozenAt (i * 3)
      have q1 : wr.cell? ⟨g, i * 3 + 1, none⟩ = some (.slice L n c) := by rw [hrow.cellAt _ (by omega)]; exact hp1
      have HC1 := Lib.hid (markS_any L n c (k0 + T + 1) _ w1 hl1 (strs_strs _) (by omega) (by omega))
      have HALL : Hid (∀ (w2 : World), w2.ownsRow 0 9 1 (.slice L n c) n (marks (k0 + T + 1) n) → Only (blk L) w1 w2 → w2.cell? ⟨g, i * 3 + 2, none⟩ = some (.slice B cs.length d') ∧
          Calls Tryz.prog 64 #[.slice B cs.length d', .int .i64 (k0 + T + 1 + n)] w2 (fun e w3 => ∃ v : Int, e = .returned (.int .i64 v) ∧ ∀ kv iv, kv = Value.int .i64 v → iv = Value.int .i64 ((i + 1 : Nat) : Int) → MInv ks w (some ⟨g, 0, none⟩) d fs k0 kv iv w3)) := Lib.hid (by
        intro w2 hl2 ho2
        have hnd3 := hnd2
        obtain ⟨nL, nB, nF, dLB, dLF, dBF⟩ := nodup3.1 hnd3
        have hgL : g ∉ blk L := fun hm => hgf (by simp [hm])
        have hr2 : w2.ownsRow 0 96 3 (.slice (some ⟨g, 0, none⟩) ks.length d) ks.length (ys.set (i * 3) (.int .i64 (k0 + T))) := own_only hst.1 ho2 (fun b hb hm => by
          have e : b = g := by simpa [blk] using hb
          subst e
          exact hgL hm)
        have hgB : ∀ b ∈ blk B, b ∉ [g] := fun b hb hm => by
          have e : b = g := by simpa using hm
          subst e
          exact hgf (by simp [hb])
        have hgF : ∀ b ∈ (List.range cs.length).flatMap fs2, b ∉ [g] := fun b hb hm => by
          have e : b = g := by simpa using hm
          subst e
          exact hgf (List.mem_append.2 (.inr hb))
        have hrow22 := own_only (own_only hrow2 ho1 hgB) ho2 (fun b hb hm => dLB b hm hb)
        have hk22 : ∀ j t, cs[j]? = some t → OTy w2 t (part3 zs j) (fs2 j) := fun j t hj =>
          have hjl := (List.getElem?_eq_some_iff.1 hj).1
          ((hkids2 j t hj).only ho1 (fun b hb => hgF b (flat_mem hjl hb))).only ho2 (fun b hb hm => dLF b hm (flat_mem hjl hb))
        refine ⟨by rw [hr2.cellAt _ (by omega), List.getElem?_set_ne (by omega)]; exact hp2, ?_⟩
        refine (hK w2 B d' zs fs2 (k0 + T + 1 + n) hrow22 hk22 (List.nodup_append.2 ⟨nB, nF, fun x hx y hy e => dBF x hx (e ▸ hy)⟩) hcl (by omega) (by show k0 + (T : Int) + 1 + n + cntK cs ≤ _; omega)).mono ?_
        rintro e w3 ⟨js, ys', rfl, hjl, hheld2, hrow3, hkids3, ho3⟩
        refine ⟨_, rfl, fun kv iv hkv hiv => ?_⟩
        exact minv_more (a := a) (cs := cs) (n := n) (w1 := w1) (w2 := w2) (xs := ys) (L := L) (B := B) (c := c) (d' := d') (js := js) (ys' := ys') (fs2 := fs2) rfl HND.out hlt hnode HN.out hfs hk0 hkb hcl hkl hheld hrow hdone hrest honly hpart (by rw [hT]; exact hw1) (by rw [hT]; exact hl2) ho2 hjl (by rw [hT]; exact hheld2) hrow3 hkids3 ho3 (by rw [hT]; exact hkv) hiv)
      have HW1 := Lib.hid hw1
      have hTb : (T : Int) ≤ 1000000000000 := by omega
      have hnb : (n : Int) ≤ 1000000000000 := by omega
      have hkT : k0 + (T : Int) + 1 + n ≤ 1000000000000 := by omega
      rw [hT]
      clear hold hnode hpart hfs haok hl hrow2 hkids2 hnd2 hct hcle hK hn hT hw1 hst hndF hdis hgf ho1 hl1 hp0 hp1 hp2 hkl hheld hrow hdone hrest honly hcl hkb
      go_wp2_with fail
      rw [HW1.out]
      refine HC1.out.mono ?_
      rintro e w2 ⟨rfl, hl2, ho2⟩
      obtain ⟨r2, hcall⟩ := HALL.out w2 hl2 ho2
      have HC2 := Lib.hid hcall
      clear hcall hl2 ho2 q0 f0 q1 HALL HC1
      go_wp2_with fail
      refine HC2.out.mono ?_
      rintro e w3 ⟨v, rfl, hfin⟩
      have HF := Lib.hid hfin
      clear hfin HC2 r2
      go_wp2_with fail
      go_roundw
      case rel => exact HF.out _ _ rfl (by go_num)
      case measure => simp [intOf]; omega
    · have he : i = ks.length := by omega
      have HF : Hid (MarkedK ks A d fs k0 w (.returned (.int .i64 (k0 + cntK (ks.take i)))) wr) := by
        rw [he, List.take_length]
        rw [he, List.take_length] at hheld
        exact ⟨ks', ys, rfl, by omega, hheld, hrow, hdone, honly⟩
      clear he hkl hheld hrow hdone hrest honly
      go_wp2_with fail
      go_ret
      exact HF.out

theorem markTree : ∀ t : Ty, MarkKids t.kids := by
  refine Tr.ind ?_
  intro a ks ih
  exact markKids_any ks ih

/-- a type that holds marks: its own kind is as it was -/
def HeldT (k : Int) (t : Ty) (k' : Int) : Prop := ∃ n cs, t = .node ⟨t.top.kind, marksB k n⟩ cs ∧ HeldK (k + n) cs k'
def MarkedT (cs : List Value) (fp : List Nat) (k : Int) (w : World) (e : Ending) (w' : World) : Prop :=
  ∃ (t' : Ty) (k' : Int), e = .returned (.int .i64 k') ∧ 0 < k' ∧ k' ≤ 1000000000000 ∧ OTy w' t' cs fp ∧ HeldT k t' k' ∧ Only fp w w'
/-- .. and how many marks it took -/
def MarkedTX (t : Ty) (cs : List Value) (fp : List Nat) (k : Int) (w : World) (e : Ending) (w' : World) : Prop :=
  ∃ (t' : Ty) (k' : Int), e = .returned (.int .i64 k') ∧ k' + 1 = k + t.cnt ∧ OTy w' t' cs fp ∧ HeldT k t' k' ∧ Only fp w w'

end Go.Proofs.YtlikmgkjilmjpaaGreat

/-
  A list of a kind that grows by append. Hangs on no program.
-/
namespace Go.Proofs.YtlikmgkjilmjpaaGreat
open Go.RowKit
/-- an append onto a row of the call's own, elements of any size -/
theorem wpList_append_at {P : Program} (w : World) {ops : Array Oper} {rest : List Oper} {o : Oper} {a : Act} {Q : Exit → Act → World → Prop} (hgd : o.guard = none) (s x : Operand) (t : TypeId)
    (ho : o.op = .call { callee := .builtin .append, args := #[s, x], argTypes := #[t, t] })
    (base : Nat) (e : TypeId) (i : TypeInfo) (z : Value) (size bytes : Nat) (ht : P.underlying t = some (.slice e)) (hi : P.info? e = some i) (hz : i.zero = some z) (hsize : i.size = size) (hby : i.bytes = bytes) (hzs : z.cells.size = size) (hsz : 0 < size)
    (v : Value) (n : Nat) (xs : List Value) (hs : a.eval s = v) (hown : w.ownsRow base e size v n xs) (ad : Addr) (m c : Nat) (news : List Value) (hx : a.eval x = .slice (some ad) m c) (hl : news.length = m * size)
    (hnews : ∀ j u, news[j]? = some u → w.cell? (ad.add j) = some u) (h1 : ∀ u ∈ news, u.oneCell' = true) (h63 : n + m ≤ maxLen) (hbytes : (n + m) * bytes ≤ 140737488355328) (hbase : base ≤ w.heap.size)
    (h : ∀ A4 d4 w4, w4.ownsRow base e size (.slice A4 (n + m) d4) (n + m) (xs ++ news) → w.grownBy w4 v.ownBlock → ((Value.slice A4 (n + m) d4).ownBlock = v.ownBlock ∨ (Value.slice A4 (n + m) d4).ownBlock = some w.heap.size) → wpList P ops Q rest (a.put o.dst (.slice A4 (n + m) d4)) w4) : wpList P ops Q (o :: rest) a w := by
  obtain ⟨v', w', hr, h2, h3, _, h4⟩ := run_append_own_at (P := P) w base t o.type e i z size bytes ht hi hz hsize hby hzs hsz v n xs hown ad m c news hl hnews h1 h63 hbytes hbase
  obtain ⟨A4, d4, rfl⟩ := own_shape3 h2
  exact Lib.wpList_append_run w hgd s x t t ho _ _ hs hx _ w' hr (h A4 d4 w' h2 h3 h4)
section
variable {α : Type}

/-- as OL, its parts named -/
def OLc (a : Kd α) (e : TypeId) (w : World) (xs : List α) (A : Option Addr) (d : Nat) (cells : List Value) (fs : Nat → List Nat) (fp : List Nat) : Prop :=
  xs.length ≤ 9223372036854775807 ∧ w.ownsRow 0 e a.n (.slice A xs.length d) xs.length cells ∧ (∀ (j : Nat) (x : α), xs[j]? = some x → a.O w x (partK a.n cells j) (fs j)) ∧ fp = blk A ++ (List.range xs.length).flatMap fs ∧ fp.Nodup
theorem OLc.ol {a : Kd α} {e : TypeId} {w : World} {xs : List α} {A : Option Addr} {d : Nat} {cells : List Value} {fs : Nat → List Nat} {fp : List Nat} (h : OLc a e w xs A d cells fs fp) : OL a e w xs (.slice A xs.length d) fp := ⟨A, d, cells, fs, rfl, h⟩
theorem OL.parts {a : Kd α} {e : TypeId} {w : World} {xs : List α} {A : Option Addr} {n d : Nat} {fp : List Nat} (h : OL a e w xs (.slice A n d) fp) : n = xs.length ∧ ∃ cells fs, OLc a e w xs A d cells fs fp := by
  obtain ⟨A', d', cells, fs, e1, h⟩ := h
  injection e1 with e1 e2 e3
  subst e1 e2 e3
  exact ⟨rfl, cells, fs, h⟩
theorem ol_nil (a : Kd α) (e : TypeId) (w : World) : OLc a e w [] none 0 [] (fun _ => []) [] :=
  ⟨by simp, ⟨by simp, .inl ⟨rfl, rfl⟩⟩, fun j x hj => by simp at hj, rfl, by simp⟩
/-- no element, in a block made for it -/
theorem ol_made (a : Kd α) (e : TypeId) (w : World) {base : Nat} {A : Option Addr} {d : Nat} (h : w.ownsRow base e a.n (.slice A 0 d) 0 []) : OLc a e w [] A d [] (fun _ => []) (blk A) :=
  ⟨by simp, own_zero h, fun j x hj => by simp at hj, by simp, blk_nodup A⟩
theorem partK_app {β : Type} {n : Nat} {xs rs : List β} {k j : Nat} (hl : xs.length = k * n) (hj : j < k) : partK n (xs ++ rs) j = partK n xs j := by
  apply List.ext_getElem?
  intro i
  by_cases hi : i < n
  · rw [partK_get _ _ _ _ hi, partK_get _ _ _ _ hi]
    have : j * n + n ≤ k * n := by
      have := Nat.mul_le_mul_right n (show j + 1 ≤ k from hj)
      rw [Nat.succ_mul] at this
      exact this
    rw [List.getElem?_append_left (by omega)]
  · unfold partK
    rw [List.getElem?_take_eq_none (by omega), List.getElem?_take_eq_none (by omega)]
theorem partK_end {β : Type} {n : Nat} {xs rs : List β} {k : Nat} (hl : xs.length = k * n) (hr : rs.length = n) : partK n (xs ++ rs) k = rs := by
  unfold partK
  rw [List.drop_append_of_le_length (by omega), List.drop_eq_nil_of_le (by omega), List.nil_append, List.take_of_length_le (by omega)]
theorem grown_none {w w' : World} (hb : Below w.heap.size w w') : w.grownBy w' none := ⟨hb.os, hb.tape, hb.output, hb.size, fun i hi _ => hb.block i hi⟩
theorem Held.of_grown {w w' : World} {row : Option Nat} (h : w.grownBy w' row) : Held (fun b => some b ≠ row) w w' := ⟨h.os, h.tape, h.output, h.size, fun i hi hd => h.block i hi hd⟩
theorem Held.all {w w' : World} {K : Nat → Prop} (h : Below w.heap.size w w') : Held (fun b => b < w.heap.size ∨ K b) w w' := ⟨h.os, h.tape, h.output, h.size, fun i hi _ => h.block i hi⟩
theorem OLc.held {a : Kd α} {e : TypeId} {w w' : World} {xs : List α} {A : Option Addr} {d : Nat} {cells : List Value} {fs : Nat → List Nat} {fp : List Nat} {K : Nat → Prop} (h : OLc a e w xs A d cells fs fp) (hH : Held K w w') (hK : ∀ b ∈ fp, K b) : OLc a e w' xs A d cells fs fp := by
  obtain ⟨h1, h2, h3, rfl, h5⟩ := h
  refine ⟨h1, own_heldK h2 hH fun b hb => hK b (by simp [hb]), fun j x hj => a.held (h3 j x hj) hH fun b hb => hK b ?_, rfl, h5⟩
  rw [List.mem_append, List.mem_flatMap]
  exact .inr ⟨j, List.mem_range.2 (List.getElem?_eq_some_iff.1 hj).1, hb⟩
theorem OLc.under {a : Kd α} {e : TypeId} {w w' : World} {xs : List α} {A : Option Addr} {d : Nat} {cells : List Value} {fs : Nat → List Nat} {fp : List Nat} (h : OLc a e w xs A d cells fs fp) (hb : Below w.heap.size w w') : OLc a e w' xs A d cells fs fp :=
  h.held (K := fun _ => True) ⟨hb.os, hb.tape, hb.output, hb.size, fun i hi _ => hb.block i hi⟩ fun _ _ => trivial
theorem OLc.row {a : Kd α} {e : TypeId} {w : World} {xs : List α} {A : Option Addr} {d : Nat} {cells : List Value} {fs : Nat → List Nat} {fp : List Nat} (h : OLc a e w xs A d cells fs fp) : w.ownsRow 0 e a.n (.slice A xs.length d) xs.length cells := h.2.1
theorem OLc.lt {a : Kd α} {e : TypeId} {w : World} {xs : List α} {A : Option Addr} {d : Nat} {cells : List Value} {fs : Nat → List Nat} {fp : List Nat} (h : OLc a e w xs A d cells fs fp) : ∀ b ∈ blk A, b < w.heap.size := fun b hb => (h.2.1.lt b ((blk_own A _ d b).2 hb)).2
/-- one more element: it lies in w3, the row of its cells was appended (w4) -/
theorem olc_append {a : Kd α} {e : TypeId} {w3 w4 : World} {xs : List α} {x : α} {A A' : Option Addr} {d d' : Nat} {cells rs : List Value} {fs : Nat → List Nat} {fp fx : List Nat} (h : OLc a e w3 xs A d cells fs fp) (hn : xs.length + 1 ≤ 9223372036854775807)
    (hx : a.O w3 x rs fx) (hdis : ∀ b ∈ fx, b ∉ fp) (hxl : ∀ b ∈ fx, b < w3.heap.size) (hfl : ∀ b ∈ fp, b < w3.heap.size) (hown : w4.ownsRow 0 e a.n (.slice A' (xs.length + 1) d') (xs.length + 1) (cells ++ rs)) (hgr : w3.grownBy w4 (Value.slice A xs.length d).ownBlock)
    (hor : (Value.slice A' (xs.length + 1) d').ownBlock = (Value.slice A xs.length d).ownBlock ∨ (Value.slice A' (xs.length + 1) d').ownBlock = some w3.heap.size) :
    ∃ fs' fp', OLc a e w4 (xs ++ [x]) A' d' (cells ++ rs) fs' fp' ∧ ∀ b ∈ fp', (b ∈ fp ∨ b ∈ fx ∨ b = w3.heap.size) ∧ b < w4.heap.size := by
  obtain ⟨h1, h2, h3, rfl, h5⟩ := h
  have hcl : cells.length = xs.length * a.n := h2.1
  have hrl : rs.length = a.n := a.len (a.reads hx)
  have hs4 := hgr.size
  obtain ⟨nA, nF, dAF⟩ := List.nodup_append.1 h5
  have hA' : ∀ b ∈ blk A', b ∈ blk A ∨ b = w3.heap.size := by
    intro b hm
    have e1 := (blk_own A' (xs.length + 1) d' b).2 hm
    rcases hor with h | h
    · rw [h] at e1; exact .inl ((blk_own A _ d b).1 e1)
    · rw [h] at e1; injection e1 with e1; exact .inr e1.symm
  have notrow : ∀ b, b ∉ blk A → some b ≠ (Value.slice A xs.length d).ownBlock := fun b hm e1 => hm ((blk_own A _ d b).1 e1.symm)
  have hfj : ∀ j, j < xs.length → ∀ b ∈ fs j, b ∈ (List.range xs.length).flatMap fs := fun j hj b hm => List.mem_flatMap.2 ⟨j, List.mem_range.2 hj, hm⟩
  have hfx : ∀ b ∈ fx, b ∉ blk A ∧ b ∉ (List.range xs.length).flatMap fs := fun b hb => ⟨fun h => hdis b hb (by simp [h]), fun h => hdis b hb (List.mem_append.2 (.inr h))⟩
  have hH := Held.of_grown hgr
  refine ⟨fun j => if j = xs.length then fx else fs j, blk A' ++ ((List.range xs.length).flatMap fs ++ fx), ⟨by rw [List.length_append]; exact hn, by rw [List.length_append]; exact hown, fun j y hj => ?_, ?_, ?_⟩, ?_⟩
  · by_cases ej : j = xs.length
    · subst ej
      rw [List.getElem?_append_right (Nat.le_refl _), Nat.sub_self] at hj
      obtain rfl : x = y := by simpa using hj
      show a.O _ _ _ (if xs.length = xs.length then fx else fs xs.length)
      rw [if_pos rfl, partK_end hcl hrl]
      exact a.held hx hH fun b hb => notrow b (hfx b hb).1
    · have hjl : j < xs.length := by
        have := (List.getElem?_eq_some_iff.1 hj).1
        rw [List.length_append] at this
        have e2 : [x].length = 1 := rfl
        omega
      rw [List.getElem?_append_left hjl] at hj
      show a.O _ _ _ (if j = xs.length then fx else fs j)
      rw [if_neg ej, partK_app hcl hjl]
      exact a.held (h3 j y hj) hH fun b hb => notrow b (fun hA => dAF b hA b (hfj j hjl b hb) rfl)
  · rw [List.length_append, show [x].length = 1 from rfl, flat_more]
  · refine List.nodup_append.2 ⟨blk_nodup _, List.nodup_append.2 ⟨nF, a.nodup hx, fun p hp q hq e1 => ?_⟩, fun p hp q hq e1 => ?_⟩
    · subst e1; exact (hfx p hq).2 hp
    · subst e1
      rcases hA' p hp with h | h
      · rcases List.mem_append.1 hq with h' | h'
        · exact dAF p h p h' rfl
        · exact (hfx p h').1 h
      · rcases List.mem_append.1 hq with h' | h'
        · have := hfl p (List.mem_append.2 (.inr h')); omega
        · have := hxl p h'; omega
  · intro b hb
    rcases List.mem_append.1 hb with h | h
    · have h6 := (hown.lt b ((blk_own A' _ d' b).2 h)).2
      rcases hA' b h with h' | h'
      · exact ⟨.inl (by simp [h']), h6⟩
      · exact ⟨.inr (.inr h'), h6⟩
    · rcases List.mem_append.1 h with h' | h'
      · have := hfl b (List.mem_append.2 (.inr h')); exact ⟨.inl (List.mem_append.2 (.inr h')), by omega⟩
      · have := hxl b h'; exact ⟨.inr (.inl h'), by omega⟩
/-- what a loop that appends keeps: the first k elements, in blocks from w on -/
def ApInv (a : Kd α) (e : TypeId) (xs : List α) (w : World) (v i : Value) (wr : World) : Prop :=
  ∃ (k : Nat) (A : Option Addr) (d : Nat) (cells : List Value) (fs : Nat → List Nat) (fp : List Nat), k ≤ xs.length ∧ i = .int .i64 (k : Int) ∧ v = .slice A k d ∧ OLc a e wr (xs.take k) A d cells fs fp ∧ (∀ b ∈ fp, w.heap.size ≤ b ∧ b < wr.heap.size) ∧ Below w.heap.size w wr
theorem apinv_zero (a : Kd α) (e : TypeId) (xs : List α) {w wr : World} {A : Option Addr} {d : Nat} {base : Nat} (h : wr.ownsRow base e a.n (.slice A 0 d) 0 []) (hbs : w.heap.size ≤ base) (hb : Below w.heap.size w wr) : ApInv a e xs w (.slice A 0 d) (.int .i64 0) wr :=
  ⟨0, A, d, [], fun _ => [], blk A, Nat.zero_le _, rfl, rfl, ol_made a e wr h, fun b hm => by have := h.lt b ((blk_own A 0 d b).2 hm); omega, hb⟩
/-- .. one more: made in w2 from wr on, its cells laid in a block (w3), appended (w4) -/
theorem apinv_more {a : Kd α} {e : TypeId} {xs : List α} {w wr w2 w4 : World} {k : Nat} {A A' : Option Addr} {d d' : Nat} {cells rs : List Value} {fs : Nat → List Nat} {fp fx : List Nat} {i : Value} (hk : k < xs.length) (hmax : xs.length ≤ 9223372036854775807) (hi : i = .int .i64 ((k + 1 : Nat) : Int))
    (h : OLc a e wr (xs.take k) A d cells fs fp) (hfp : ∀ b ∈ fp, w.heap.size ≤ b ∧ b < wr.heap.size) (hb : Below w.heap.size w wr) (hb2 : Below wr.heap.size wr w2) (hx : a.O w2 xs[k] rs fx) (hfx : ∀ b ∈ fx, wr.heap.size ≤ b ∧ b < w2.heap.size) (o : Obj)
    (hown : w4.ownsRow 0 e a.n (.slice A' (k + 1) d') (k + 1) (cells ++ rs)) (hgr : (w2.alloc o).grownBy w4 (Value.slice A k d).ownBlock)
    (hor : (Value.slice A' (k + 1) d').ownBlock = (Value.slice A k d).ownBlock ∨ (Value.slice A' (k + 1) d').ownBlock = some (w2.alloc o).heap.size) : ApInv a e xs w (.slice A' (k + 1) d') i w4 := by
  have hlen : (xs.take k).length = k := by rw [List.length_take]; omega
  have hs2 := hb2.size
  have hsw := hb.size
  have hs3 : (w2.alloc o).heap.size = w2.heap.size + 1 := by simp
  have hb3 : Below wr.heap.size wr (w2.alloc o) := hb2.alloc hs2 _
  have hs4 := hgr.size
  have h3 : OLc a e (w2.alloc o) (xs.take k) A d cells fs fp := h.under hb3
  have hx3 : a.O (w2.alloc o) xs[k] rs fx := a.under hx ((Below.refl _ _).alloc (Nat.le_refl _) _)
  obtain ⟨fs', fp', h4, hf4⟩ := olc_append (A' := A') (d' := d') h3 (by rw [hlen]; omega) hx3 (fun b hb1 hb2 => by have := hfx b hb1; have := hfp b hb2; omega) (fun b hb1 => by have := hfx b hb1; omega) (fun b hb1 => by have := hfp b hb1; omega) (by rw [hlen]; exact hown) (by rw [hlen]; exact hgr) (by rw [hlen]; exact hor)
  have htk : xs.take k ++ [xs[k]] = xs.take (k + 1) := by rw [List.take_add_one, List.getElem?_eq_getElem hk]; rfl
  rw [htk] at h4
  have hgb : ∀ b, (Value.slice A k d).ownBlock = some b → w.heap.size ≤ b := fun b hm => by
    have hbm : b ∈ blk A := (blk_own A k d b).1 hm
    exact (hfp b (by rw [h.2.2.2.1]; simp [hbm])).1
  refine ⟨k + 1, A', d', _, fs', fp', hk, hi, rfl, h4, fun b hm => ?_, ((hb.trans (hb3.mono hsw)).grown hgr (by omega) hgb)⟩
  obtain ⟨h5, h6⟩ := hf4 b hm
  rcases h5 with h5 | h5 | h5
  · have := hfp b h5; omega
  · have := hfx b h5; omega
  · omega
theorem apinv_done {a : Kd α} {e : TypeId} {xs : List α} {w wr : World} {A : Option Addr} {d : Nat} {cells : List Value} {fs : Nat → List Nat} {fp : List Nat} (h : OLc a e wr (xs.take xs.length) A d cells fs fp) (hfp : ∀ b ∈ fp, w.heap.size ≤ b ∧ b < wr.heap.size) (hb : Below w.heap.size w wr) : MadeL' a e xs w (.returned (.slice A xs.length d)) wr := by
  rw [List.take_length] at h
  exact ⟨A, d, fp, rfl, h.ol, hfp, hb⟩
end
end Go.Proofs.YtlikmgkjilmjpaaGreat
