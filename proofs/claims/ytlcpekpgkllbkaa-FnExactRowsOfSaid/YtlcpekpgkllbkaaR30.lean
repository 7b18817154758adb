/-
  Merged by program: CanD, VaList.
-/
import Derived.Test.YtlcpekpgkllbkaaR24
import Derived.Test.YtlcpekpgkllbkaaR13
import Derived.Test.YtlcpekpgkllbkaaR29

/-
  The canonical value: the elements of bags in order, those within first. Plain trees; a sorted permutation is the only one.
-/
namespace Go.Proofs.Ytlcpekpgkllbkaa

/-- not behind -/
def leV (x y : Va) : Bool := decide (cmpV x y ≤ 0)
theorem leV_iff (x y : Va) : leV x y = true ↔ cmpV x y ≤ 0 := by unfold leV; simp
theorem leV_anti {x y : Va} (h : leV x y = true) (k : leV y x = true) : x = y := by
  rw [leV_iff] at h k
  rw [cmpV_neg] at k
  exact (cmpV_zero x y).1 (by omega)
theorem leV_total (x y : Va) : leV x y = true ∨ leV y x = true := by
  rw [leV_iff, leV_iff, cmpV_neg x y]
  omega
theorem leV_trans {x y z : Va} (h : leV x y = true) (k : leV y z = true) : leV x z = true := by
  rw [leV_iff] at *
  rcases Int.lt_or_eq_of_le h with h | h
  · rcases Int.lt_or_eq_of_le k with k | k
    · have := cmpV_trans x y z h k; omega
    · rw [← (cmpV_zero y z).1 k]; omega
  · rw [(cmpV_zero x y).1 h]; exact k
def sortV (xs : List Va) : List Va := xs.mergeSort leV
theorem sortV_perm (xs : List Va) : (sortV xs).Perm xs := List.mergeSort_perm xs leV
theorem sortV_pair (xs : List Va) : (sortV xs).Pairwise fun x y => leV x y = true :=
  List.pairwise_mergeSort (le := leV) (fun _ _ _ => leV_trans) (fun a b => by rw [Bool.or_eq_true]; exact leV_total a b) xs
/-- the sorted permutation is the only one -/
theorem sortV_eq {xs ys : List Va} (h : ys.Perm xs) (hp : ys.Pairwise fun x y => leV x y = true) : ys = sortV xs :=
  List.Perm.eq_of_pairwise (le := fun x y => leV x y = true) (fun _ _ _ _ h k => leV_anti h k) hp (sortV_pair xs) (h.trans (sortV_perm xs).symm)
theorem sortV_of_perm {xs ys : List Va} (h : ys.Perm xs) : sortV ys = sortV xs := sortV_eq ((sortV_perm ys).trans h) (sortV_pair ys)
theorem sortV_length (xs : List Va) : (sortV xs).length = xs.length := (sortV_perm xs).length_eq
theorem sortV_small {xs : List Va} (h : xs.length < 2) : sortV xs = xs := by
  refine (sortV_eq (List.Perm.refl _) ?_).symm
  match xs, h with
  | [], _ => exact .nil
  | [x], _ => simp
mutual
def canV : Va → Va
  | .node a ks => .node a (if a.kind = 4 then sortV (canVs ks) else canVs ks)
def canVs : List Va → List Va
  | [] => []
  | k :: ks => canV k :: canVs ks
end
theorem canVs_eq : ∀ ks : List Va, canVs ks = ks.map canV
  | [] => by simp [canVs]
  | k :: ks => by rw [canVs, canVs_eq ks, List.map_cons]
theorem canV_node (a : VaA) (ks : List Va) : canV (.node a ks) = .node a (if a.kind = 4 then sortV (ks.map canV) else ks.map canV) := by
  rw [canV, canVs_eq]
/-- the parts of the canonical value -/
def kidsC (t : Va) : List Va := if t.top.kind = 4 then sortV (t.kids.map canV) else t.kids.map canV
theorem canV_eq (t : Va) : canV t = .node t.top (kidsC t) := by
  cases t with
  | node a ks => rw [canV_node]; rfl
theorem kidsC_length (t : Va) : (kidsC t).length = t.kids.length := by
  unfold kidsC
  split
  · rw [sortV_length, List.length_map]
  · rw [List.length_map]
theorem sum_perm {xs ys : List Nat} (h : xs.Perm ys) : xs.sum = ys.sum := by
  induction h with
  | nil => rfl
  | cons _ _ ih => simp [ih]
  | swap => simp; omega
  | trans _ _ h k => exact h.trans k
theorem canV_size : ∀ t : Va, (canV t).size = t.size := by
  refine Tr.ind ?_
  intro a ks ih
  rw [canV_node, size_nodeV, size_nodeV]
  have h : ((ks.map canV).map Tr.size).sum = (ks.map Tr.size).sum := by
    rw [List.map_map]
    exact congrArg List.sum (List.map_congr_left ih)
  split
  · rw [← h, sum_perm ((sortV_perm (ks.map canV)).map Tr.size)]
  · rw [h]
/-- bags are equal if their canonical values are -/
def sameB (a b : Va) : Bool := decide (cmpV (canV a) (canV b) = 0)
def countB (b v : Va) : Nat := if b.top.kind = 4 then (b.kids.filter fun k => sameB k v).length else 0
end Go.Proofs.Ytlcpekpgkllbkaa

/-
  Lists of values in memory of the call's own, with their blocks; the stack of lists with what is known of each.
-/
namespace Go.Proofs.Ytlcpekpgkllbkaa
open Go.RowKit

/-- the slice holds the list, in memory of the call's own; its blocks, in some order -/
def OVs (w : World) (ts : List Va) (s : Value) (fp : List Nat) : Prop :=
  ∃ A d xs fs, s = .slice A ts.length d ∧ ts.length ≤ 9223372036854775807 ∧ w.ownsRow 0 92 4 s ts.length xs ∧ (∀ j t, ts[j]? = some t → OVa w t (part4 xs j) (fs j)) ∧ (blk A ++ (List.range ts.length).flatMap fs).Perm fp ∧ fp.Nodup
/-- .. each node's own cells, labels and list of parts -/
theorem OVa.out {w : World} {t : Va} {cs : List Value} {fp : List Nat} (h : OVa w t cs fp) : ∃ L c s fk, cs = [.int .i64 t.top.kind, .int .i64 t.top.num, .slice L t.top.labels.length c, s] ∧ t.top.ok ∧
    w.ownsRow 0 9 1 (.slice L t.top.labels.length c) t.top.labels.length (t.top.labels.map Value.string) ∧ OVs w t.kids s fk ∧ fp = blk L ++ fk := by
  cases h with
  | node a ks L A c d xs fs h0 h1 h2 h3 h4 h5 =>
    refine ⟨L, c, _, blk A ++ (List.range ks.length).flatMap fs, rfl, h0, h1, ⟨A, d, xs, fs, rfl, h2, h3, h4, List.Perm.refl _, ?_⟩, by rw [List.append_assoc]⟩
    rw [List.append_assoc] at h5
    exact (List.nodup_append.1 h5).2.1
theorem OVa.make {w : World} {t : Va} {L : Option Addr} {c : Nat} {s : Value} {fk : List Nat} (h0 : t.top.ok) (h1 : w.ownsRow 0 9 1 (.slice L t.top.labels.length c) t.top.labels.length (t.top.labels.map Value.string)) (h2 : OVs w t.kids s fk) (h3 : (blk L ++ fk).Nodup) :
    ∃ fp, OVa w t [.int .i64 t.top.kind, .int .i64 t.top.num, .slice L t.top.labels.length c, s] fp ∧ fp.Perm (blk L ++ fk) := by
  cases t with
  | node a ks =>
    obtain ⟨A, d, xs, fs, rfl, k1, k2, k3, k4, k5⟩ := h2
    have hp : (blk L ++ blk A ++ (List.range ks.length).flatMap fs).Perm (blk L ++ fk) := by
      rw [List.append_assoc]
      exact List.Perm.append_left _ k4
    exact ⟨_, .node a ks L A c d xs fs h0 h1 k1 k2 k3 (hp.nodup_iff.2 h3), hp⟩
theorem OVs.keep {w w' : World} {ts : List Va} {s : Value} {fp : List Nat} {row : Option Nat} (h : OVs w ts s fp) (hg : w.grownBy w' row) (hne : ∀ b ∈ fp, some b ≠ row) : OVs w' ts s fp := by
  obtain ⟨A, d, xs, fs, rfl, k1, k2, k3, k4, k5⟩ := h
  refine ⟨A, d, xs, fs, rfl, k1, own_keep k2 hg fun b hb => hne b (k4.subset (by simp [hb])), fun j t hj => (k3 j t hj).keep hg fun b hb => hne b (k4.subset ?_), k4, k5⟩
  rw [List.mem_append, List.mem_flatMap]
  exact .inr ⟨j, List.mem_range.2 (List.getElem?_eq_some_iff.1 hj).1, hb⟩
theorem OVs.under {w w' : World} {ts : List Va} {s : Value} {fp : List Nat} (h : OVs w ts s fp) (hb : Below w.heap.size w w') : OVs w' ts s fp :=
  h.keep (row := none) ⟨hb.os, hb.tape, hb.output, hb.size, fun i hi _ => hb.block i hi⟩ (fun b _ => by simp)
theorem own_heldv {w w' : World} {base size n : Nat} {e : TypeId} {A : Option Addr} {c : Nat} {xs : List Value} {K : Nat → Prop} (h : w.ownsRow base e size (.slice A n c) n xs) (hH : Held K w w') (hK : ∀ b ∈ blk A, K b) : w'.ownsRow base e size (.slice A n c) n xs := by
  refine ⟨h.1, h.2.imp id ?_⟩
  rintro ⟨g, cap, cur, hv, h1, h2, h3⟩
  injection hv with e1 e2 e3
  subst e1
  exact ⟨g, cap, cur, by rw [e2, e3], h1, (hH.block g (h.lt g rfl).2 (hK g (by simp [blk]))).trans h2, h3⟩
theorem OVa.held {w w' : World} {t : Va} {cs : List Value} {fp : List Nat} {K : Nat → Prop} (h : OVa w t cs fp) (hH : Held K w w') (hK : ∀ b ∈ fp, K b) : OVa w' t cs fp := by
  induction h with
  | node a ks L A c d xs fs h0 h1 h2 h3 h4 h5 ih =>
    refine .node a ks L A c d xs fs h0 (own_heldv h1 hH fun b hb => hK b (by simp [hb])) h2 (own_heldv h3 hH fun b hb => hK b (by simp [hb])) (fun j t hj => ih j t hj fun b hb => hK b ?_) h5
    rw [List.mem_append, List.mem_flatMap]
    exact .inr ⟨j, List.mem_range.2 (List.getElem?_eq_some_iff.1 hj).1, hb⟩
theorem OVs.held {w w' : World} {ts : List Va} {s : Value} {fp : List Nat} {K : Nat → Prop} (h : OVs w ts s fp) (hH : Held K w w') (hK : ∀ b ∈ fp, K b) : OVs w' ts s fp := by
  obtain ⟨A, d, xs, fs, rfl, k1, k2, k3, k4, k5⟩ := h
  refine ⟨A, d, xs, fs, rfl, k1, own_heldv k2 hH fun b hb => hK b (k4.subset (by simp [hb])), fun j t hj => (k3 j t hj).held hH fun b hb => hK b (k4.subset ?_), k4, k5⟩
  rw [List.mem_append, List.mem_flatMap]
  exact .inr ⟨j, List.mem_range.2 (List.getElem?_eq_some_iff.1 hj).1, hb⟩
theorem OVs.perm {w : World} {ts : List Va} {s : Value} {fp fq : List Nat} (h : OVs w ts s fp) (hp : fp.Perm fq) : OVs w ts s fq := by
  obtain ⟨A, d, xs, fs, rfl, k1, k2, k3, k4, k5⟩ := h
  exact ⟨A, d, xs, fs, rfl, k1, k2, k3, k4.trans hp, hp.nodup_iff.1 k5⟩
theorem OVs.nil (w : World) : OVs w [] (.slice none 0 0) [] :=
  ⟨none, 0, [], fun _ => [], rfl, by simp, ⟨rfl, .inl ⟨rfl, rfl⟩⟩, fun j t hj => by simp at hj, by simp [blk], by simp⟩

theorem range_flat_perm {f g : Nat → List Nat} : ∀ n, (∀ j, j < n → (f j).Perm (g j)) → ((List.range n).flatMap f).Perm ((List.range n).flatMap g)
  | 0, _ => by simp
  | n + 1, h => by
    rw [List.range_succ, List.flatMap_append, List.flatMap_append]
    exact (range_flat_perm n fun j hj => h j (by omega)).append (by simpa using h n (by omega))
theorem range_flat_app (f g : Nat → List Nat) : ∀ n, ((List.range n).flatMap fun j => f j ++ g j).Perm ((List.range n).flatMap f ++ (List.range n).flatMap g)
  | 0 => by simp
  | n + 1 => by
    rw [List.range_succ, List.flatMap_append, List.flatMap_append, List.flatMap_append]
    simp only [List.flatMap_cons, List.flatMap_nil, List.append_nil]
    refine ((range_flat_app f g n).append_right _).trans ?_
    rw [List.append_assoc, List.append_assoc]
    refine List.Perm.append_left _ ?_
    rw [← List.append_assoc, ← List.append_assoc]
    exact List.Perm.append_right _ List.perm_append_comm
theorem nodup_flat {f : Nat → List Nat} {n j : Nat} (h : ((List.range n).flatMap f).Nodup) (hj : j < n) : (f j).Nodup := by
  obtain ⟨a, b, e⟩ := List.append_of_mem (List.mem_range.2 hj)
  rw [e, List.flatMap_append, List.flatMap_cons] at h
  exact (List.nodup_append.1 (List.nodup_append.1 h).2.1).1

/-- a list put together: the row, and of each node the labels and the list of parts -/
theorem OVs.make {w : World} {ts : List Va} {A : Option Addr} {d : Nat} {xs : List Value} {Ls : Nat → Option Addr} {cs : Nat → Nat} {As : Nat → Value} {fk : Nat → List Nat} {fp : List Nat} (h1 : ts.length ≤ 9223372036854775807) (h2 : w.ownsRow 0 92 4 (.slice A ts.length d) ts.length xs)
    (h3 : ∀ j t, ts[j]? = some t → part4 xs j = [.int .i64 t.top.kind, .int .i64 t.top.num, .slice (Ls j) t.top.labels.length (cs j), As j] ∧ t.top.ok ∧ w.ownsRow 0 9 1 (.slice (Ls j) t.top.labels.length (cs j)) t.top.labels.length (t.top.labels.map Value.string) ∧ OVs w t.kids (As j) (fk j))
    (h4 : (blk A ++ (List.range ts.length).flatMap fun j => blk (Ls j) ++ fk j).Perm fp) (h5 : fp.Nodup) : OVs w ts (.slice A ts.length d) fp := by
  have hnd := (List.nodup_append.1 (h4.nodup_iff.2 h5)).2.1
  have hex : ∀ j, ∃ fs, j < ts.length → (∀ t, ts[j]? = some t → OVa w t (part4 xs j) fs) ∧ fs.Perm (blk (Ls j) ++ fk j) := by
    intro j
    by_cases hj : j < ts.length
    · obtain ⟨e, k0, k1, k2⟩ := h3 j _ (List.getElem?_eq_getElem hj)
      obtain ⟨fs, q1, q2⟩ := OVa.make k0 k1 k2 (nodup_flat hnd hj)
      refine ⟨fs, fun _ => ⟨fun t ht => ?_, q2⟩⟩
      rw [List.getElem?_eq_getElem hj] at ht
      injection ht with ht
      subst ht
      rw [e]; exact q1
    · exact ⟨[], fun h => absurd h hj⟩
  obtain ⟨fs, hfs⟩ := Classical.axiomOfChoice hex
  refine ⟨A, d, xs, fs, rfl, h1, h2, fun j t hj => (hfs j (List.getElem?_eq_some_iff.1 hj).1).1 t hj, List.Perm.trans (List.Perm.append_left _ ?_) h4, h5⟩
  exact range_flat_perm _ fun j hj => (hfs j hj).2
/-- .. and taken apart -/
theorem OVs.open {w : World} {ts : List Va} {s : Value} {fp : List Nat} (h : OVs w ts s fp) : ∃ A d xs, ∃ (Ls : Nat → Option Addr) (cs : Nat → Nat) (As : Nat → Value) (fk : Nat → List Nat), s = .slice A ts.length d ∧ ts.length ≤ 9223372036854775807 ∧ w.ownsRow 0 92 4 s ts.length xs ∧
    (∀ j t, ts[j]? = some t → part4 xs j = [.int .i64 t.top.kind, .int .i64 t.top.num, .slice (Ls j) t.top.labels.length (cs j), As j] ∧ t.top.ok ∧ w.ownsRow 0 9 1 (.slice (Ls j) t.top.labels.length (cs j)) t.top.labels.length (t.top.labels.map Value.string) ∧ OVs w t.kids (As j) (fk j)) ∧
    (blk A ++ (List.range ts.length).flatMap fun j => blk (Ls j) ++ fk j).Perm fp ∧ fp.Nodup := by
  obtain ⟨A, d, xs, fs, rfl, k1, k2, k3, k4, k5⟩ := h
  have hex : ∀ j, ∃ q : (Option Addr × Nat) × (Value × List Nat), ∀ t, ts[j]? = some t → (part4 xs j = [.int .i64 t.top.kind, .int .i64 t.top.num, .slice q.1.1 t.top.labels.length q.1.2, q.2.1] ∧ t.top.ok ∧ w.ownsRow 0 9 1 (.slice q.1.1 t.top.labels.length q.1.2) t.top.labels.length (t.top.labels.map Value.string) ∧ OVs w t.kids q.2.1 q.2.2) ∧ fs j = blk q.1.1 ++ q.2.2 := by
    intro j
    by_cases hj : j < ts.length
    · obtain ⟨L, c, s, fk, e, q0, q1, q2, q3⟩ := (k3 j _ (List.getElem?_eq_getElem hj)).out
      refine ⟨((L, c), (s, fk)), fun t ht => ?_⟩
      rw [List.getElem?_eq_getElem hj] at ht
      injection ht with ht
      subst ht
      exact ⟨⟨e, q0, q1, q2⟩, q3⟩
    · exact ⟨((none, 0), (undef, [])), fun t ht => absurd (List.getElem?_eq_some_iff.1 ht).1 hj⟩
  obtain ⟨q, hq⟩ := Classical.axiomOfChoice hex
  refine ⟨A, d, xs, fun j => (q j).1.1, fun j => (q j).1.2, fun j => (q j).2.1, fun j => (q j).2.2, rfl, k1, k2, fun j t hj => (hq j t hj).1, List.Perm.trans (List.Perm.append_left _ ?_) k4, k5⟩
  refine range_flat_perm _ fun j hj => ?_
  rw [(hq j _ (List.getElem?_eq_getElem hj)).2]

/-- of each list of the stack something is known, with its blocks -/
def AllR (R : List Va × Value → List Nat → Prop) : Stk → List (List Nat) → Prop
  | [], [] => True
  | p :: S, fp :: Φ => R p fp ∧ AllR R S Φ
  | [], _ :: _ => False
  | _ :: _, [] => False
def pushFp (ts : List Va) (fk : Nat → List Nat) (Φ : List (List Nat)) : Nat → List (List Nat)
  | 0 => Φ
  | k + 1 => match ts[k]? with
    | some t => if t.kids.length = 0 then pushFp ts fk Φ k else fk k :: pushFp ts fk Φ k
    | none => pushFp ts fk Φ k
theorem pushFp_more {ts : List Va} {fk : Nat → List Nat} {Φ : List (List Nat)} {k : Nat} (hk : k < ts.length) : pushFp ts fk Φ (k + 1) = if ts[k].kids.length = 0 then pushFp ts fk Φ k else fk k :: pushFp ts fk Φ k := by
  show (match ts[k]? with | some t => _ | none => _) = _
  rw [List.getElem?_eq_getElem hk]
theorem AllR.mono {R R' : List Va × Value → List Nat → Prop} : ∀ {S : Stk} {Φ : List (List Nat)}, AllR R S Φ → (∀ p fp, p ∈ S → fp ∈ Φ → R p fp → R' p fp) → AllR R' S Φ
  | [], [], _, _ => trivial
  | p :: S, fp :: Φ, h, hm => ⟨hm p fp (by simp) (by simp) h.1, h.2.mono fun q fq hq hf => hm q fq (by simp [hq]) (by simp [hf])⟩
  | [], _ :: _, h, _ => h.elim
  | _ :: _, [], h, _ => h.elim
theorem allR_push {R : List Va × Value → List Nat → Prop} {ts : List Va} {As : Nat → Value} {S : Stk} {fk : Nat → List Nat} {Φ : List (List Nat)} : ∀ k, k ≤ ts.length →
    (AllR R (pushTo ts As S k) (pushFp ts fk Φ k) ↔ (∀ j (h : j < ts.length), j < k → ts[j].kids.length ≠ 0 → R (ts[j].kids, As j) (fk j)) ∧ AllR R S Φ)
  | 0, _ => ⟨fun h => ⟨fun j _ hj => absurd hj (by omega), h⟩, fun h => h.2⟩
  | k + 1, hk => by
    have ih := allR_push (R := R) (ts := ts) (As := As) (S := S) (fk := fk) (Φ := Φ) k (by omega)
    have hk' : k < ts.length := by omega
    rw [pushTo_more hk', pushFp_more hk']
    by_cases h0 : ts[k].kids.length = 0
    · rw [if_pos h0, if_pos h0, ih]
      refine and_congr_left fun _ => ⟨fun h j hj hlt hn => ?_, fun h j hj hlt hn => h j hj (by omega) hn⟩
      by_cases e : j = k
      · subst e; exact absurd h0 hn
      · exact h j hj (by omega) hn
    · rw [if_neg h0, if_neg h0]
      show R _ _ ∧ AllR R _ _ ↔ _
      rw [ih]
      constructor
      · rintro ⟨h1, h2, h3⟩
        refine ⟨fun j hj hlt hn => ?_, h3⟩
        by_cases e : j = k
        · subst e; exact h1
        · exact h2 j hj (by omega) hn
      · rintro ⟨h1, h2⟩
        exact ⟨h1 k hk' (by omega) h0, fun j hj hlt hn => h1 j hj (by omega) hn, h2⟩
theorem allR_push_inv {R : List Va × Value → List Nat → Prop} {ts : List Va} {As : Nat → Value} {S : Stk} : ∀ {k} {Φ' : List (List Nat)}, k ≤ ts.length → AllR R (pushTo ts As S k) Φ' → ∃ fk Φ, Φ' = pushFp ts fk Φ k ∧ ∀ j, (∃ h : j < ts.length, ts[j].kids.length = 0) ∨ k ≤ j → fk j = []
  | 0, Φ', _, _ => ⟨fun _ => [], Φ', rfl, fun _ _ => rfl⟩
  | k + 1, Φ', hk, h => by
    have hk' : k < ts.length := by omega
    rw [pushTo_more hk'] at h
    by_cases h0 : ts[k].kids.length = 0
    · rw [if_pos h0] at h
      obtain ⟨fk, Φ, e, hn⟩ := allR_push_inv (by omega) h
      refine ⟨fk, Φ, by rw [pushFp_more hk', if_pos h0, e], fun j hj => hn j ?_⟩
      rcases hj with hj | hj
      · exact .inl hj
      · exact .inr (by omega)
    · rw [if_neg h0] at h
      match Φ', h with
      | fp :: Φ'', h =>
        obtain ⟨fk, Φ, e, hn⟩ := allR_push_inv (by omega) h.2
        have hcong : ∀ n, n ≤ k → pushFp ts (fun j => if j = k then fp else fk j) Φ n = pushFp ts fk Φ n := by
          intro n
          induction n with
          | zero => intro _; rfl
          | succ n ih =>
            intro hle
            rw [pushFp_more (by omega : n < ts.length), pushFp_more (by omega : n < ts.length), ih (by omega), if_neg (by omega : n ≠ k)]
        refine ⟨fun j => if j = k then fp else fk j, Φ, ?_, fun j hj => ?_⟩
        · rw [pushFp_more hk', if_neg h0, if_pos rfl, hcong k (Nat.le_refl _), e]
        · by_cases ej : j = k
          · subst ej
            rcases hj with ⟨_, hj⟩ | hj
            · exact absurd hj h0
            · omega
          · show (if j = k then fp else fk j) = []
            rw [if_neg ej]
            refine hn j (hj.imp id fun h => by omega)
/-- the blocks of a stack -/
theorem pushFp_flat {ts : List Va} {fk : Nat → List Nat} {Φ : List (List Nat)} : ∀ k, k ≤ ts.length → (pushFp ts fk Φ k).flatten.Perm (((List.range k).flatMap fun j => if (ts[j]?.map fun t => t.kids.length) = some 0 then [] else fk j) ++ Φ.flatten)
  | 0, _ => by simp [pushFp]
  | k + 1, hk => by
    have ih := pushFp_flat (ts := ts) (fk := fk) (Φ := Φ) k (by omega)
    have hk' : k < ts.length := by omega
    rw [pushFp_more hk', List.range_succ, List.flatMap_append]
    simp only [List.flatMap_cons, List.flatMap_nil, List.append_nil, List.getElem?_eq_getElem hk', Option.map_some, Option.some.injEq]
    by_cases h0 : ts[k].kids.length = 0
    · rw [if_pos h0, if_pos h0, List.append_nil]; exact ih
    · rw [if_neg h0, if_neg h0, List.flatten_cons]
      refine (List.Perm.append_left _ ih).trans ?_
      rw [← List.append_assoc]
      exact List.Perm.append_right _ List.perm_append_comm
end Go.Proofs.Ytlcpekpgkllbkaa
