/-
  Merged by program: TeOnly.
-/
import Derived.Test.YthcfgpjldhiinaaT36
import Derived.Test.YthcfgpjldhiinaaT38

/-
  Marks in terms of the call's own: what a law writes into them, and how they stay apart.
-/
namespace Go.Proofs.Ythcfgpjldhiinaa
open Go.RowKit

theorem OTe.only {w w' : World} {t : Te} {cs : List Value} {fp gp : List Nat} (h : OTe w t cs fp) (ho : Only gp w w') (hne : ∀ b ∈ fp, b ∉ gp) : OTe w' t cs fp := by
  induction h with
  | node a ks TL TA L A tc td c d fpT xs fs h0 hT h1 h2 h3 h4 h5 ih =>
    refine .node a ks TL TA L A tc td c d fpT xs fs h0 (hT.only ho (fun b hb => hne b (by simp [hb]))) (own_only h1 ho (fun b hb => hne b (by simp [hb]))) h2 (own_only h3 ho (fun b hb => hne b (by simp [hb]))) (fun j t hj => ih j t hj (fun b hb => hne b ?_)) h5
    rw [List.mem_append, List.mem_append, List.mem_flatMap]
    exact .inr (.inr ⟨j, List.mem_range.2 (List.getElem?_eq_some_iff.1 hj).1, hb⟩)
theorem otetree {w : World} {a : TeA} {ks : List Te} {cs : List Value} {fp : List Nat} (h : OTe w (.node a ks) cs fp) : ∃ (TL TA L A : Option Addr) (tc td c d : Nat) (fpT : List Nat) (xs : List Value) (fs : Nat → List Nat),
    cs = [.int .i64 a.kind, .string a.name, .int .i64 a.num, .int .i64 a.type.top.kind, .slice TL a.type.top.labels.length tc, .slice TA a.type.kids.length td, .slice L a.labels.length c, .slice A ks.length d] ∧ fp = fpT ++ (blk L ++ blk A ++ (List.range ks.length).flatMap fs) ∧ a.ok ∧
    OTy w a.type [.int .i64 a.type.top.kind, .slice TL a.type.top.labels.length tc, .slice TA a.type.kids.length td] fpT ∧ w.ownsRow 0 9 1 (.slice L a.labels.length c) a.labels.length (a.labels.map Value.string) ∧ ks.length ≤ 9223372036854775807 ∧
    w.ownsRow 0 38 8 (.slice A ks.length d) ks.length xs ∧ (∀ j t, ks[j]? = some t → OTe w t (part8 xs j) (fs j)) ∧ (fpT ++ (blk L ++ blk A ++ (List.range ks.length).flatMap fs)).Nodup := by
  cases h with
  | node a ks TL TA L A tc td c d fpT xs fs h0 hT h1 h2 h3 h4 h5 => exact ⟨TL, TA, L, A, tc, td, c, d, fpT, xs, fs, rfl, rfl, h0, hT, h1, h2, h3, h4, h5⟩

/-- how many marks a term takes -/
def Tr.cntE (t : Te) : Nat := t.sum fun a => 3 + a.type.cnt + a.labels.length
def cntEK (ks : List Te) : Nat := (ks.map Tr.cntE).sum
theorem cntE_node (a : TeA) (ks : List Te) : (Tr.node a ks).cntE = 3 + a.type.cnt + a.labels.length + cntEK ks := Tr.sum_node _ a ks
theorem cntEK_take (ks : List Te) (i : Nat) (h : i < ks.length) : cntEK (ks.take (i + 1)) = cntEK (ks.take i) + ks[i].cntE := sum_take_succ Tr.cntE ks i h
theorem cntEK_take_le (ks : List Te) (i : Nat) : cntEK (ks.take i) ≤ cntEK ks := sum_take_le Tr.cntE ks i
def markB (k : Int) : ByteArray := ⟨(mtext k).toArray⟩
theorem markB_size (k : Int) (h0 : 0 ≤ k) (h : k ≤ 1000000000000) : (markB k).size ≤ 9223372036854775807 := by
  have := mtext_len k h0 h
  show (mtext k).toArray.size ≤ _
  rw [List.size_toArray]
  omega
/-- the terms hold the marks from k on, the last is the next -/
inductive HeldEK : Int → List Te → Int → Prop where
  | nil (k : Int) : HeldEK k [] k
  | cons (k k1 k2 k3 : Int) (n m : Nat) (ts : List Ty) (cs ks : List Te) (hT : HeldK (k + 4 + n) ts k1) (h1 : HeldEK (k1 + m) cs k2) (h2 : HeldEK k2 ks k3) : HeldEK k (.node ⟨k, markB (k + 1), k + 2, .node ⟨k + 3, marksB (k + 4) n⟩ ts, marksB k1 m⟩ cs :: ks) k3
theorem HeldEK.snoc {k k0 k1 k2 : Int} {n m : Nat} {ks cs : List Te} {ts : List Ty} (h : HeldEK k ks k0) (hT : HeldK (k0 + 4 + n) ts k1) (h2 : HeldEK (k1 + m) cs k2) : HeldEK k (ks ++ [.node ⟨k0, markB (k0 + 1), k0 + 2, .node ⟨k0 + 3, marksB (k0 + 4) n⟩ ts, marksB k1 m⟩ cs]) k2 := by
  induction h with
  | nil k => exact .cons k k1 k2 k2 n m ts cs [] hT h2 (.nil _)
  | cons k ka kb kc p q us ds ks hU h1 _ _ ih2 => exact .cons k ka kb k2 p q us ds _ hU h1 (ih2 hT)

/-- marks in a row of terms -/
def MarkedEK (ks : List Te) (A : Option Addr) (d : Nat) (fs : Nat → List Nat) (k : Int) (w : World) (e : Ending) (w' : World) : Prop :=
  ∃ (ks' : List Te) (xs' : List Value), e = .returned (.int .i64 (k + cntEK ks)) ∧ ks'.length = ks.length ∧ HeldEK k ks' (k + cntEK ks) ∧ w'.ownsRow 0 38 8 (.slice A ks.length d) ks.length xs' ∧
    (∀ j t, ks'[j]? = some t → OTe w' t (part8 xs' j) (fs j)) ∧ Only (blk A ++ (List.range ks.length).flatMap fs) w w'
def MarkEKids (ks : List Te) : Prop := ∀ (w : World) (A : Option Addr) (d : Nat) (xs : List Value) (fs : Nat → List Nat) (k : Int), w.ownsRow 0 38 8 (.slice A ks.length d) ks.length xs → (∀ j t, ks[j]? = some t → OTe w t (part8 xs j) (fs j)) →
  (blk A ++ (List.range ks.length).flatMap fs).Nodup → ks.length ≤ 9223372036854775807 → 0 < k → k + cntEK ks ≤ 1000000000000 → Calls Try.prog 45 #[.slice A ks.length d, .int .i64 k] w (MarkedEK ks A d fs k w)

/-- a type of the call's own whose marks are written: its row of labels, then its parts -/
theorem type_marked {w2 w3 : World} {ta : TyA} {tks ts : List Ty} {TL TA : Option Addr} {tc td n : Nat} {xs3 : List Value} {fT : Nat → List Nat} {k : Int} (haok : ta.ok) (hk : 0 < k) (hkn : k + n ≤ 1000000000000) (htcl : tks.length ≤ 9223372036854775807)
    (hnd : (blk TL ++ blk TA ++ (List.range tks.length).flatMap fT).Nodup) (hl2 : w2.ownsRow 0 9 1 (.slice TL n tc) n (marks k n)) (htsl : ts.length = tks.length) (hrow3 : w3.ownsRow 0 35 3 (.slice TA tks.length td) tks.length xs3)
    (hkids3 : ∀ j t, ts[j]? = some t → OTy w3 t (part3 xs3 j) (fT j)) (ho3 : Only (blk TA ++ (List.range tks.length).flatMap fT) w2 w3) :
    OTy w3 (.node ⟨ta.kind, marksB k n⟩ ts) [.int .i64 ta.kind, .slice TL n tc, .slice TA tks.length td] (blk TL ++ blk TA ++ (List.range tks.length).flatMap fT) := by
  obtain ⟨nL, nA, nF, dLA, dLF, dAF⟩ := nodup3.1 hnd
  have hml := marksB_len k n
  have hlab3 := own_only hl2 ho3 (fun b hb hm => by
    rcases List.mem_append.1 hm with h | h
    · exact dLA b hb h
    · exact dLF b hb h)
  have hnn : n ≤ 9223372036854775807 := by omega
  have hnode := OTy.node (w := w3) ⟨ta.kind, marksB k n⟩ ts TL TA tc td xs3 fT ⟨haok.1, haok.2.1, by show (marksB k n).length ≤ _; rw [hml]; exact hnn, marksB_size k n hk hkn⟩
    (by show w3.ownsRow 0 9 1 (.slice TL (marksB k n).length tc) (marksB k n).length _; rw [hml, ← marks_eq]; exact hlab3) (by omega) (by rw [htsl]; exact hrow3) hkids3 (by rw [htsl]; exact hnd)
  have e2 : (.slice TL (marksB k n).length tc : Value) = .slice TL n tc := by rw [hml]
  have e3 : (.slice TA ts.length td : Value) = .slice TA tks.length td := by rw [htsl]
  rw [e2, e3, htsl] at hnode
  exact hnode

/-- a term of the call's own with other numbers and another name -/
theorem OTe.stamp {w : World} {a : TeA} {ks : List Te} {cs : List Value} {fp : List Nat} (h : OTe w (.node a ks) cs fp) (k n tk : Int) (s : ByteArray) (hk : 0 < k ∧ k ≤ 1000000000000) (hn : 0 < n ∧ n ≤ 1000000000000) (ht : 0 < tk ∧ tk ≤ 1000000000000) (hs : s.size ≤ 9223372036854775807) :
    OTe w (.node ⟨k, s, n, .node ⟨tk, a.type.top.labels⟩ a.type.kids, a.labels⟩ ks) (.int .i64 k :: .string s :: .int .i64 n :: .int .i64 tk :: cs.drop 4) fp := by
  obtain ⟨TL, TA, L, A, tc, td, c, d, fpT, xs, fs, rfl, rfl, haok, hT, hl, hcl, hrow, hkids, hnd⟩ := otetree h
  clear h
  obtain ⟨kind, name, num, ⟨ta, tks⟩, labels⟩ := a
  obtain ⟨TL', TA', tc', td', xT, fT, hce, rfl, htaok, htl, htcl, htrow, htkids, htnd⟩ := otree hT
  simp only [Tr.top, Tr.kids] at hce haok hT hl ⊢
  simp only [List.cons.injEq, Value.slice.injEq, true_and, and_true] at hce
  obtain ⟨⟨rfl, rfl⟩, rfl, rfl⟩ := hce
  obtain ⟨b1, b2, b3, b4, b5, b6, b7⟩ := haok
  have hty := OTy.node (w := w) ⟨tk, ta.labels⟩ tks TL TA tc td xT fT ⟨by show (-9223372036854775808 : Int) ≤ tk; omega, by show tk ≤ 9223372036854775807; omega, htaok.2.2.1, htaok.2.2.2⟩ htl htcl htrow htkids htnd
  exact OTe.node (w := w) ⟨k, s, n, .node ⟨tk, ta.labels⟩ tks, labels⟩ ks TL TA L A tc td c d _ xs fs ⟨by show (-9223372036854775808 : Int) ≤ k; omega, by show k ≤ 9223372036854775807; omega, hs, by show (-9223372036854775808 : Int) ≤ n; omega, by show n ≤ 9223372036854775807; omega, b6, b7⟩ hty hl hcl hrow hkids hnd

/-- the four calls that write the marks of one node, behind its own cells -/
theorem node_marks (a : TeA) (ks : List Te) (hK : MarkEKids ks) (w1 : World) (cs : List Value) (fp : List Nat) (h : OTe w1 (.node a ks) cs fp) (k : Int) (hk : 0 < k) (hkb : k + a.type.top.labels.length + cntK a.type.kids + a.labels.length + cntEK ks ≤ 1000000000000) :
    ∃ (TL TA L A : Option Addr) (tc td c d : Nat), cs = [.int .i64 a.kind, .string a.name, .int .i64 a.num, .int .i64 a.type.top.kind, .slice TL a.type.top.labels.length tc, .slice TA a.type.kids.length td, .slice L a.labels.length c, .slice A ks.length d] ∧
      Calls Try.prog 23 #[.slice TL a.type.top.labels.length tc, .int .i64 k] w1 fun e w2 => e = .returned (.int .i64 (k + a.type.top.labels.length)) ∧ Only fp w1 w2 ∧
      Calls Try.prog 56 #[.slice TA a.type.kids.length td, .int .i64 (k + a.type.top.labels.length)] w2 fun e w3 => e = .returned (.int .i64 (k + a.type.top.labels.length + cntK a.type.kids)) ∧ Only fp w1 w3 ∧
      Calls Try.prog 23 #[.slice L a.labels.length c, .int .i64 (k + a.type.top.labels.length + cntK a.type.kids)] w3 fun e w4 => e = .returned (.int .i64 (k + a.type.top.labels.length + cntK a.type.kids + a.labels.length)) ∧ Only fp w1 w4 ∧
      Calls Try.prog 45 #[.slice A ks.length d, .int .i64 (k + a.type.top.labels.length + cntK a.type.kids + a.labels.length)] w4 fun e w5 => e = .returned (.int .i64 (k + a.type.top.labels.length + cntK a.type.kids + a.labels.length + cntEK ks)) ∧ Only fp w1 w5 ∧
        ∃ (ts : List Ty) (js : List Te), HeldK (k + a.type.top.labels.length) ts (k + a.type.top.labels.length + cntK a.type.kids) ∧ HeldEK (k + a.type.top.labels.length + cntK a.type.kids + a.labels.length) js (k + a.type.top.labels.length + cntK a.type.kids + a.labels.length + cntEK ks) ∧
          OTe w5 (.node ⟨a.kind, a.name, a.num, .node ⟨a.type.top.kind, marksB k a.type.top.labels.length⟩ ts, marksB (k + a.type.top.labels.length + cntK a.type.kids) a.labels.length⟩ js) cs fp := by
  obtain ⟨TL, TA, L, A, tc, td, c, d, fpT, xs, fs, rfl, rfl, haok, hT, hl, hcl, hrow, hkids, hnd⟩ := otetree h
  clear h
  obtain ⟨kind, name, num, ⟨ta, tks⟩, labels⟩ := a
  obtain ⟨TL', TA', tc', td', xT, fT, hce, rfl, htaok, htl, htcl, htrow, htkids, htnd⟩ := otree hT
  simp only [Tr.top, Tr.kids] at hce hkb haok hT hl ⊢
  simp only [List.cons.injEq, Value.slice.injEq, true_and, and_true] at hce
  obtain ⟨⟨rfl, rfl⟩, rfl, rfl⟩ := hce
  obtain ⟨n, hn⟩ : ∃ n, ta.labels.length = n := ⟨_, rfl⟩
  obtain ⟨m, hm⟩ : ∃ m, labels.length = m := ⟨_, rfl⟩
  rw [hn] at htl hkb ⊢
  rw [hm] at hl hkb ⊢
  obtain ⟨T, hTT⟩ : ∃ T, cntK tks = T := ⟨_, rfl⟩
  rw [hTT] at hkb ⊢
  obtain ⟨hP, hQ, hPQ⟩ := List.nodup_append.1 hnd
  obtain ⟨pL, pA, pF, pLA, pLF, pAF⟩ := nodup3.1 htnd
  obtain ⟨qL, qA, qF, qLA, qLF, qAF⟩ := nodup3.1 hQ
  refine ⟨TL, TA, L, A, tc, td, c, d, rfl, ?_⟩
  refine (markS_any TL n tc k _ w1 htl (strs_strs _) hk (by omega)).mono ?_
  rintro e w2 ⟨rfl, hl2, ho2⟩
  refine ⟨rfl, ho2.more (fun x hx => by simp [hx]), ?_⟩
  have htrow2 := own_only htrow ho2 (fun b hb hm => pLA b hm hb)
  have htk2 : ∀ j t, tks[j]? = some t → OTy w2 t (part3 xT j) (fT j) := fun j t hj => (htkids j t hj).only ho2 (fun b hb hm => pLF b hm (flat_mem (List.getElem?_eq_some_iff.1 hj).1 hb))
  refine ((markTree (.node ta tks)) w2 TA td xT fT (k + n) htrow2 htk2 (List.nodup_append.2 ⟨pA, pF, fun x hx y hy e => pAF x hx (e ▸ hy)⟩) htcl (by omega) (by show k + (n : Int) + cntK tks ≤ _; rw [hTT]; omega)).mono ?_
  rintro e w3 ⟨ts, xs3, rfl, htsl, hheldT, hrow3, hkids3, ho3⟩
  have htsl : ts.length = tks.length := htsl
  have hty := type_marked htaok hk (by omega) htcl htnd hl2 htsl hrow3 hkids3 ho3
  have ho13 : Only (blk TL ++ blk TA ++ (List.range tks.length).flatMap fT) w1 w3 := (ho2.more (fun x hx => by simp [hx])).trans (ho3.more (fun x hx => by
    rcases List.mem_append.1 hx with h | h
    · simp [h]
    · exact List.mem_append.2 (.inr h)))
  have hheldT' : HeldK (k + n) ts (k + n + T) := by rw [← hTT]; exact hheldT
  refine ⟨by show Ending.returned (.int .i64 (k + (n : Int) + cntK tks)) = _; rw [hTT], ho13.more (fun x hx => List.mem_append.2 (.inl hx)), ?_⟩
  have hl3 := own_only hl ho13 (fun b hb hm => hPQ b hm b (by simp [hb]) rfl)
  refine (markS_any L m c (k + n + T) _ w3 hl3 (strs_strs _) (by omega) (by omega)).mono ?_
  rintro e w4 ⟨rfl, hl4, ho4⟩
  have ho14 : Only ((blk TL ++ blk TA ++ (List.range tks.length).flatMap fT) ++ (blk L ++ blk A ++ (List.range ks.length).flatMap fs)) w1 w4 := (ho13.more (fun x hx => List.mem_append.2 (.inl hx))).trans (ho4.more (fun x hx => List.mem_append.2 (.inr (by simp [hx]))))
  refine ⟨rfl, ho14, ?_⟩
  have hrow4 := own_only (own_only hrow ho13 (fun b hb hm => hPQ b hm b (by simp [hb]) rfl)) ho4 (fun b hb hm => qLA b hm hb)
  have hk4 : ∀ j t, ks[j]? = some t → OTe w4 t (part8 xs j) (fs j) := fun j t hj =>
    have hjl := (List.getElem?_eq_some_iff.1 hj).1
    ((hkids j t hj).only ho13 (fun b hb hm => hPQ b hm b (List.mem_append.2 (.inr (flat_mem hjl hb))) rfl)).only ho4 (fun b hb hm => qLF b hm (flat_mem hjl hb))
  refine (hK w4 A d xs fs (k + n + T + m) hrow4 hk4 (List.nodup_append.2 ⟨qA, qF, fun x hx y hy e => qAF x hx (e ▸ hy)⟩) hcl (by omega) (by omega)).mono ?_
  rintro e w5 ⟨js, ys', rfl, hjl, hheld, hrow5, hkids5, ho5⟩
  refine ⟨rfl, ho14.trans (ho5.more (fun x hx => List.mem_append.2 (.inr ?_))), ts, js, hheldT', hheld, ?_⟩
  · rcases List.mem_append.1 hx with h | h
    · simp [h]
    · exact List.mem_append.2 (.inr h)
  · have hml := marksB_len (k + (n : Int) + T) m
    have hmk := marksB_len k n
    have hlab5 := own_only hl4 ho5 (fun b hb hm => by
      rcases List.mem_append.1 hm with h | h
      · exact qLA b hb h
      · exact qLF b hb h)
    have hty5 := (hty.only ho4 (fun b hb hm => hPQ b hb b (by simp [hm]) rfl)).only ho5 (fun b hb hm => hPQ b hb b (by
      rcases List.mem_append.1 hm with h | h
      · simp [h]
      · exact List.mem_append.2 (.inr h)) rfl)
    obtain ⟨b1, b2, b3, b4, b5, b6, b7⟩ := haok
    have hnode := OTe.node (w := w5) ⟨kind, name, num, .node ⟨ta.kind, marksB k n⟩ ts, marksB (k + n + T) m⟩ js TL TA L A tc td c d (blk TL ++ blk TA ++ (List.range tks.length).flatMap fT) ys' fs ⟨b1, b2, b3, b4, b5, by show (marksB _ m).length ≤ _; rw [hml]; omega, marksB_size _ m (by omega) (by omega)⟩
      (by
        show OTy w5 (.node ⟨ta.kind, marksB k n⟩ ts) [.int .i64 ta.kind, .slice TL (marksB k n).length tc, .slice TA ts.length td] _
        rw [hmk, htsl]
        exact hty5)
      (by show w5.ownsRow 0 9 1 (.slice L (marksB _ m).length c) (marksB _ m).length _; rw [hml, ← marks_eq]; exact hlab5) (by omega) (by rw [hjl]; exact hrow5) hkids5 (by rw [hjl]; exact hnd)
    have e1 : (.slice TL (marksB k n).length tc : Value) = .slice TL n tc := by rw [hmk]
    have e2 : (.slice TA ts.length td : Value) = .slice TA tks.length td := by rw [htsl]
    have e3 : (.slice L (marksB (k + (n : Int) + T) m).length c : Value) = .slice L m c := by rw [hml]
    have e4 : (.slice A js.length d : Value) = .slice A ks.length d := by rw [hjl]
    simp only [Tr.top, Tr.kids] at hnode
    rw [e1, e2, e3, e4, hjl] at hnode
    exact hnode
end Go.Proofs.Ythcfgpjldhiinaa
