/-
  Merged by program: CanD, VaList, CopS.
-/
import Derived.Test.YtlikmgkjilmjpaaGreatI18
import Derived.Test.YtlikmgkjilmjpaaGreatI9
import Derived.Test.YtlikmgkjilmjpaaGreatI19
import Derived.Test.YtlikmgkjilmjpaaGreatI5

/-
  The canonical value: the elements of bags in order, those within first. Plain trees; a sorted permutation is the only one.
-/
namespace Go.Proofs.YtlikmgkjilmjpaaGreat

/-- not behind -/
def leV (x y : Va) : Bool := decide (cmpV x y ≤ 0)
theorem leV_iff (x y : Va) : leV x y = true ↔ cmpV x y ≤ 0 := by unfold leV; simp
theorem leV_anti {x y : Va} (h : leV x y = true) (k : leV y x = true) : x = y := by
  rw [leV_iff] at h k
  rw [cmpV_neg] at k
  exact (cmpV_zero x y).1 (by omega)
theorem leV_total (x y : Va) : leV x y = true ∨ leV y x = true := by
  rw [leV_iff, leV_iff, cmpV_neg x y]
  omega
theorem leV_trans {x y z : Va} (h : leV x y = true) (k : leV y z = true) : leV x z = true := by
  rw [leV_iff] at *
  rcases Int.lt_or_eq_of_le h with h | h
  · rcases Int.lt_or_eq_of_le k with k | k
    · have := cmpV_trans x y z h k; omega
    · rw [← (cmpV_zero y z).1 k]; omega
  · rw [(cmpV_zero x y).1 h]; exact k
def sortV (xs : List Va) : List Va := xs.mergeSort leV
theorem sortV_perm (xs : List Va) : (sortV xs).Perm xs := List.mergeSort_perm xs leV
theorem sortV_pair (xs : List Va) : (sortV xs).Pairwise fun x y => leV x y = true :=
  List.pairwise_mergeSort (le := leV) (fun _ _ _ => leV_trans) (fun a b => by rw [Bool.or_eq_true]; exact leV_total a b) xs
/-- the sorted permutation is the only one -/
theorem sortV_eq {xs ys : List Va} (h : ys.Perm xs) (hp : ys.Pairwise fun x y => leV x y = true) : ys = sortV xs :=
  List.Perm.eq_of_pairwise (le := fun x y => leV x y = true) (fun _ _ _ _ h k => leV_anti h k) hp (sortV_pair xs) (h.trans (sortV_perm xs).symm)
theorem sortV_of_perm {xs ys : List Va} (h : ys.Perm xs) : sortV ys = sortV xs := sortV_eq ((sortV_perm ys).trans h) (sortV_pair ys)
theorem sortV_length (xs : List Va) : (sortV xs).length = xs.length := (sortV_perm xs).length_eq
theorem sortV_small {xs : List Va} (h : xs.length < 2) : sortV xs = xs := by
  refine (sortV_eq (List.Perm.refl _) ?_).symm
  match xs, h with
  | [], _ => exact .nil
  | [x], _ => simp
mutual
def canV : Va → Va
  | .node a ks => .node a (if a.kind = 4 then sortV (canVs ks) else canVs ks)
def canVs : List Va → List Va
  | [] => []
  | k :: ks => canV k :: canVs ks
end
theorem canVs_eq : ∀ ks : List Va, canVs ks = ks.map canV
  | [] => by simp [canVs]
  | k :: ks => by rw [canVs, canVs_eq ks, List.map_cons]
theorem canV_node (a : VaA) (ks : List Va) : canV (.node a ks) = .node a (if a.kind = 4 then sortV (ks.map canV) else ks.map canV) := by
  rw [canV, canVs_eq]
/-- the parts of the canonical value -/
def kidsC (t : Va) : List Va := if t.top.kind = 4 then sortV (t.kids.map canV) else t.kids.map canV
theorem canV_eq (t : Va) : canV t = .node t.top (kidsC t) := by
  cases t with
  | node a ks => rw [canV_node]; rfl
theorem kidsC_length (t : Va) : (kidsC t).length = t.kids.length := by
  unfold kidsC
  split
  · rw [sortV_length, List.length_map]
  · rw [List.length_map]
theorem sum_perm {xs ys : List Nat} (h : xs.Perm ys) : xs.sum = ys.sum := by
  induction h with
  | nil => rfl
  | cons _ _ ih => simp [ih]
  | swap => simp; omega
  | trans _ _ h k => exact h.trans k
theorem canV_size : ∀ t : Va, (canV t).size = t.size := by
  refine Tr.ind ?_
  intro a ks ih
  rw [canV_node, size_nodeV, size_nodeV]
  have h : ((ks.map canV).map Tr.size).sum = (ks.map Tr.size).sum := by
    rw [List.map_map]
    exact congrArg List.sum (List.map_congr_left ih)
  split
  · rw [← h, sum_perm ((sortV_perm (ks.map canV)).map Tr.size)]
  · rw [h]
/-- bags are equal if their canonical values are -/
def sameB (a b : Va) : Bool := decide (cmpV (canV a) (canV b) = 0)
def countB (b v : Va) : Nat := if b.top.kind = 4 then (b.kids.filter fun k => sameB k v).length else 0
end Go.Proofs.YtlikmgkjilmjpaaGreat

/-
  Lists of values in memory of the call's own, with their blocks; the stack of lists with what is known of each.
-/
namespace Go.Proofs.YtlikmgkjilmjpaaGreat
open Go.RowKit

/-- the slice holds the list, in memory of the call's own; its blocks, in some order -/
def OVs (w : World) (ts : List Va) (s : Value) (fp : List Nat) : Prop :=
  ∃ A d xs fs, s = .slice A ts.length d ∧ ts.length ≤ 9223372036854775807 ∧ w.ownsRow 0 47 4 s ts.length xs ∧ (∀ j t, ts[j]? = some t → OVa w t (part4 xs j) (fs j)) ∧ (blk A ++ (List.range ts.length).flatMap fs).Perm fp ∧ fp.Nodup
/-- .. each node's own cells, labels and list of parts -/
theorem OVa.out {w : World} {t : Va} {cs : List Value} {fp : List Nat} (h : OVa w t cs fp) : ∃ L c s fk, cs = [.int .i64 t.top.kind, .int .i64 t.top.num, .slice L t.top.labels.length c, s] ∧ t.top.ok ∧
    w.ownsRow 0 9 1 (.slice L t.top.labels.length c) t.top.labels.length (t.top.labels.map Value.string) ∧ OVs w t.kids s fk ∧ fp = blk L ++ fk := by
  cases h with
  | node a ks L A c d xs fs h0 h1 h2 h3 h4 h5 =>
    refine ⟨L, c, _, blk A ++ (List.range ks.length).flatMap fs, rfl, h0, h1, ⟨A, d, xs, fs, rfl, h2, h3, h4, List.Perm.refl _, ?_⟩, by rw [List.append_assoc]⟩
    rw [List.append_assoc] at h5
    exact (List.nodup_append.1 h5).2.1
theorem OVa.make {w : World} {t : Va} {L : Option Addr} {c : Nat} {s : Value} {fk : List Nat} (h0 : t.top.ok) (h1 : w.ownsRow 0 9 1 (.slice L t.top.labels.length c) t.top.labels.length (t.top.labels.map Value.string)) (h2 : OVs w t.kids s fk) (h3 : (blk L ++ fk).Nodup) :
    ∃ fp, OVa w t [.int .i64 t.top.kind, .int .i64 t.top.num, .slice L t.top.labels.length c, s] fp ∧ fp.Perm (blk L ++ fk) := by
  cases t with
  | node a ks =>
    obtain ⟨A, d, xs, fs, rfl, k1, k2, k3, k4, k5⟩ := h2
    have hp : (blk L ++ blk A ++ (List.range ks.length).flatMap fs).Perm (blk L ++ fk) := by
      rw [List.append_assoc]
      exact List.Perm.append_left _ k4
    exact ⟨_, .node a ks L A c d xs fs h0 h1 k1 k2 k3 (hp.nodup_iff.2 h3), hp⟩
theorem OVs.keep {w w' : World} {ts : List Va} {s : Value} {fp : List Nat} {row : Option Nat} (h : OVs w ts s fp) (hg : w.grownBy w' row) (hne : ∀ b ∈ fp, some b ≠ row) : OVs w' ts s fp := by
  obtain ⟨A, d, xs, fs, rfl, k1, k2, k3, k4, k5⟩ := h
  refine ⟨A, d, xs, fs, rfl, k1, own_keep k2 hg fun b hb => hne b (k4.subset (by simp [hb])), fun j t hj => (k3 j t hj).keep hg fun b hb => hne b (k4.subset ?_), k4, k5⟩
  rw [List.mem_append, List.mem_flatMap]
  exact .inr ⟨j, List.mem_range.2 (List.getElem?_eq_some_iff.1 hj).1, hb⟩
theorem OVs.under {w w' : World} {ts : List Va} {s : Value} {fp : List Nat} (h : OVs w ts s fp) (hb : Below w.heap.size w w') : OVs w' ts s fp :=
  h.keep (row := none) ⟨hb.os, hb.tape, hb.output, hb.size, fun i hi _ => hb.block i hi⟩ (fun b _ => by simp)
theorem own_heldv {w w' : World} {base size n : Nat} {e : TypeId} {A : Option Addr} {c : Nat} {xs : List Value} {K : Nat → Prop} (h : w.ownsRow base e size (.slice A n c) n xs) (hH : Held K w w') (hK : ∀ b ∈ blk A, K b) : w'.ownsRow base e size (.slice A n c) n xs := by
  refine ⟨h.1, h.2.imp id ?_⟩
  rintro ⟨g, cap, cur, hv, h1, h2, h3⟩
  injection hv with e1 e2 e3
  subst e1
  exact ⟨g, cap, cur, by rw [e2, e3], h1, (hH.block g (h.lt g rfl).2 (hK g (by simp [blk]))).trans h2, h3⟩
theorem OVa.held {w w' : World} {t : Va} {cs : List Value} {fp : List Nat} {K : Nat → Prop} (h : OVa w t cs fp) (hH : Held K w w') (hK : ∀ b ∈ fp, K b) : OVa w' t cs fp := by
  induction h with
  | node a ks L A c d xs fs h0 h1 h2 h3 h4 h5 ih =>
    refine .node a ks L A c d xs fs h0 (own_heldv h1 hH fun b hb => hK b (by simp [hb])) h2 (own_heldv h3 hH fun b hb => hK b (by simp [hb])) (fun j t hj => ih j t hj fun b hb => hK b ?_) h5
    rw [List.mem_append, List.mem_flatMap]
    exact .inr ⟨j, List.mem_range.2 (List.getElem?_eq_some_iff.1 hj).1, hb⟩
theorem OVs.held {w w' : World} {ts : List Va} {s : Value} {fp : List Nat} {K : Nat → Prop} (h : OVs w ts s fp) (hH : Held K w w') (hK : ∀ b ∈ fp, K b) : OVs w' ts s fp := by
  obtain ⟨A, d, xs, fs, rfl, k1, k2, k3, k4, k5⟩ := h
  refine ⟨A, d, xs, fs, rfl, k1, own_heldv k2 hH fun b hb => hK b (k4.subset (by simp [hb])), fun j t hj => (k3 j t hj).held hH fun b hb => hK b (k4.subset ?_), k4, k5⟩
  rw [List.mem_append, List.mem_flatMap]
  exact .inr ⟨j, List.mem_range.2 (List.getElem?_eq_some_iff.1 hj).1, hb⟩
theorem OVs.perm {w : World} {ts : List Va} {s : Value} {fp fq : List Nat} (h : OVs w ts s fp) (hp : fp.Perm fq) : OVs w ts s fq := by
  obtain ⟨A, d, xs, fs, rfl, k1, k2, k3, k4, k5⟩ := h
  exact ⟨A, d, xs, fs, rfl, k1, k2, k3, k4.trans hp, hp.nodup_iff.1 k5⟩
theorem OVs.nil (w : World) : OVs w [] (.slice none 0 0) [] :=
  ⟨none, 0, [], fun _ => [], rfl, by simp, ⟨rfl, .inl ⟨rfl, rfl⟩⟩, fun j t hj => by simp at hj, by simp [blk], by simp⟩

theorem range_flat_perm {f g : Nat → List Nat} : ∀ n, (∀ j, j < n → (f j).Perm (g j)) → ((List.range n).flatMap f).Perm ((List.range n).flatMap g)
  | 0, _ => by simp
  | n + 1, h => by
    rw [List.range_succ, List.flatMap_append, List.flatMap_append]
    exact (range_flat_perm n fun j hj => h j (by omega)).append (by simpa using h n (by omega))
theorem range_flat_app (f g : Nat → List Nat) : ∀ n, ((List.range n).flatMap fun j => f j ++ g j).Perm ((List.range n).flatMap f ++ (List.range n).flatMap g)
  | 0 => by simp
  | n + 1 => by
    rw [List.range_succ, List.flatMap_append, List.flatMap_append, List.flatMap_append]
    simp only [List.flatMap_cons, List.flatMap_nil, List.append_nil]
    refine ((range_flat_app f g n).append_right _).trans ?_
    rw [List.append_assoc, List.append_assoc]
    refine List.Perm.append_left _ ?_
    rw [← List.append_assoc, ← List.append_assoc]
    exact List.Perm.append_right _ List.perm_append_comm
theorem nodup_flat {f : Nat → List Nat} {n j : Nat} (h : ((List.range n).flatMap f).Nodup) (hj : j < n) : (f j).Nodup := by
  obtain ⟨a, b, e⟩ := List.append_of_mem (List.mem_range.2 hj)
  rw [e, List.flatMap_append, List.flatMap_cons] at h
  exact (List.nodup_append.1 (List.nodup_append.1 h).2.1).1

/-- a list put together: the row, and of each node the labels and the list of parts -/
theorem OVs.make {w : World} {ts : List Va} {A : Option Addr} {d : Nat} {xs : List Value} {Ls : Nat → Option Addr} {cs : Nat → Nat} {As : Nat → Value} {fk : Nat → List Nat} {fp : List Nat} (h1 : ts.length ≤ 9223372036854775807) (h2 : w.ownsRow 0 47 4 (.slice A ts.length d) ts.length xs)
    (h3 : ∀ j t, ts[j]? = some t → part4 xs j = [.int .i64 t.top.kind, .int .i64 t.top.num, .slice (Ls j) t.top.labels.length (cs j), As j] ∧ t.top.ok ∧ w.ownsRow 0 9 1 (.slice (Ls j) t.top.labels.length (cs j)) t.top.labels.length (t.top.labels.map Value.string) ∧ OVs w t.kids (As j) (fk j))
    (h4 : (blk A ++ (List.range ts.length).flatMap fun j => blk (Ls j) ++ fk j).Perm fp) (h5 : fp.Nodup) : OVs w ts (.slice A ts.length d) fp := by
  have hnd := (List.nodup_append.1 (h4.nodup_iff.2 h5)).2.1
  have hex : ∀ j, ∃ fs, j < ts.length → (∀ t, ts[j]? = some t → OVa w t (part4 xs j) fs) ∧ fs.Perm (blk (Ls j) ++ fk j) := by
    intro j
    by_cases hj : j < ts.length
    · obtain ⟨e, k0, k1, k2⟩ := h3 j _ (List.getElem?_eq_getElem hj)
      obtain ⟨fs, q1, q2⟩ := OVa.make k0 k1 k2 (nodup_flat hnd hj)
      refine ⟨fs, fun _ => ⟨fun t ht => ?_, q2⟩⟩
      rw [List.getElem?_eq_getElem hj] at ht
      injection ht with ht
      subst ht
      rw [e]; exact q1
    · exact ⟨[], fun h => absurd h hj⟩
  obtain ⟨fs, hfs⟩ := Classical.axiomOfChoice hex
  refine ⟨A, d, xs, fs, rfl, h1, h2, fun j t hj => (hfs j (List.getElem?_eq_some_iff.1 hj).1).1 t hj, List.Perm.trans (List.Perm.append_left _ ?_) h4, h5⟩
  exact range_flat_perm _ fun j hj => (hfs j hj).2
/-- .. and taken apart -/
theorem OVs.open {w : World} {ts : List Va} {s : Value} {fp : List Nat} (h : OVs w ts s fp) : ∃ A d xs, ∃ (Ls : Nat → Option Addr) (cs : Nat → Nat) (As : Nat → Value) (fk : Nat → List Nat), s = .slice A ts.length d ∧ ts.length ≤ 9223372036854775807 ∧ w.ownsRow 0 47 4 s ts.length xs ∧
    (∀ j t, ts[j]? = some t → part4 xs j = [.int .i64 t.top.kind, .int .i64 t.top.num, .slice (Ls j) t.top.labels.length (cs j), As j] ∧ t.top.ok ∧ w.ownsRow 0 9 1 (.slice (Ls j) t.top.labels.length (cs j)) t.top.labels.length (t.top.labels.map Value.string) ∧ OVs w t.kids (As j) (fk j)) ∧
    (blk A ++ (List.range ts.length).flatMap fun j => blk (Ls j) ++ fk j).Perm fp ∧ fp.Nodup := by
  obtain ⟨A, d, xs, fs, rfl, k1, k2, k3, k4, k5⟩ := h
  have hex : ∀ j, ∃ q : (Option Addr × Nat) × (Value × List Nat), ∀ t, ts[j]? = some t → (part4 xs j = [.int .i64 t.top.kind, .int .i64 t.top.num, .slice q.1.1 t.top.labels.length q.1.2, q.2.1] ∧ t.top.ok ∧ w.ownsRow 0 9 1 (.slice q.1.1 t.top.labels.length q.1.2) t.top.labels.length (t.top.labels.map Value.string) ∧ OVs w t.kids q.2.1 q.2.2) ∧ fs j = blk q.1.1 ++ q.2.2 := by
    intro j
    by_cases hj : j < ts.length
    · obtain ⟨L, c, s, fk, e, q0, q1, q2, q3⟩ := (k3 j _ (List.getElem?_eq_getElem hj)).out
      refine ⟨((L, c), (s, fk)), fun t ht => ?_⟩
      rw [List.getElem?_eq_getElem hj] at ht
      injection ht with ht
      subst ht
      exact ⟨⟨e, q0, q1, q2⟩, q3⟩
    · exact ⟨((none, 0), (undef, [])), fun t ht => absurd (List.getElem?_eq_some_iff.1 ht).1 hj⟩
  obtain ⟨q, hq⟩ := Classical.axiomOfChoice hex
  refine ⟨A, d, xs, fun j => (q j).1.1, fun j => (q j).1.2, fun j => (q j).2.1, fun j => (q j).2.2, rfl, k1, k2, fun j t hj => (hq j t hj).1, List.Perm.trans (List.Perm.append_left _ ?_) k4, k5⟩
  refine range_flat_perm _ fun j hj => ?_
  rw [(hq j _ (List.getElem?_eq_getElem hj)).2]

/-- of each list of the stack something is known, with its blocks -/
def AllR (R : List Va × Value → List Nat → Prop) : Stk → List (List Nat) → Prop
  | [], [] => True
  | p :: S, fp :: Φ => R p fp ∧ AllR R S Φ
  | [], _ :: _ => False
  | _ :: _, [] => False
def pushFp (ts : List Va) (fk : Nat → List Nat) (Φ : List (List Nat)) : Nat → List (List Nat)
  | 0 => Φ
  | k + 1 => match ts[k]? with
    | some t => if t.kids.length = 0 then pushFp ts fk Φ k else fk k :: pushFp ts fk Φ k
    | none => pushFp ts fk Φ k
theorem pushFp_more {ts : List Va} {fk : Nat → List Nat} {Φ : List (List Nat)} {k : Nat} (hk : k < ts.length) : pushFp ts fk Φ (k + 1) = if ts[k].kids.length = 0 then pushFp ts fk Φ k else fk k :: pushFp ts fk Φ k := by
  show (match ts[k]? with | some t => _ | none => _) = _
  rw [List.getElem?_eq_getElem hk]
theorem AllR.mono {R R' : List Va × Value → List Nat → Prop} : ∀ {S : Stk} {Φ : List (List Nat)}, AllR R S Φ → (∀ p fp, p ∈ S → fp ∈ Φ → R p fp → R' p fp) → AllR R' S Φ
  | [], [], _, _ => trivial
  | p :: S, fp :: Φ, h, hm => ⟨hm p fp (by simp) (by simp) h.1, h.2.mono fun q fq hq hf => hm q fq (by simp [hq]) (by simp [hf])⟩
  | [], _ :: _, h, _ => h.elim
  | _ :: _, [], h, _ => h.elim
theorem allR_push {R : List Va × Value → List Nat → Prop} {ts : List Va} {As : Nat → Value} {S : Stk} {fk : Nat → List Nat} {Φ : List (List Nat)} : ∀ k, k ≤ ts.length →
    (AllR R (pushTo ts As S k) (pushFp ts fk Φ k) ↔ (∀ j (h : j < ts.length), j < k → ts[j].kids.length ≠ 0 → R (ts[j].kids, As j) (fk j)) ∧ AllR R S Φ)
  | 0, _ => ⟨fun h => ⟨fun j _ hj => absurd hj (by omega), h⟩, fun h => h.2⟩
  | k + 1, hk => by
    have ih := allR_push (R := R) (ts := ts) (As := As) (S := S) (fk := fk) (Φ := Φ) k (by omega)
    have hk' : k < ts.length := by omega
    rw [pushTo_more hk', pushFp_more hk']
    by_cases h0 : ts[k].kids.length = 0
    · rw [if_pos h0, if_pos h0, ih]
      refine and_congr_left fun _ => ⟨fun h j hj hlt hn => ?_, fun h j hj hlt hn => h j hj (by omega) hn⟩
      by_cases e : j = k
      · subst e; exact absurd h0 hn
      · exact h j hj (by omega) hn
    · rw [if_neg h0, if_neg h0]
      show R _ _ ∧ AllR R _ _ ↔ _
      rw [ih]
      constructor
      · rintro ⟨h1, h2, h3⟩
        refine ⟨fun j hj hlt hn => ?_, h3⟩
        by_cases e : j = k
        · subst e; exact h1
        · exact h2 j hj (by omega) hn
      · rintro ⟨h1, h2⟩
        exact ⟨h1 k hk' (by omega) h0, fun j hj hlt hn => h1 j hj (by omega) hn, h2⟩
theorem allR_push_inv {R : List Va × Value → List Nat → Prop} {ts : List Va} {As : Nat → Value} {S : Stk} : ∀ {k} {Φ' : List (List Nat)}, k ≤ ts.length → AllR R (pushTo ts As S k) Φ' → ∃ fk Φ, Φ' = pushFp ts fk Φ k ∧ ∀ j, (∃ h : j < ts.length, ts[j].kids.length = 0) ∨ k ≤ j → fk j = []
  | 0, Φ', _, _ => ⟨fun _ => [], Φ', rfl, fun _ _ => rfl⟩
  | k + 1, Φ', hk, h => by
    have hk' : k < ts.length := by omega
    rw [pushTo_more hk'] at h
    by_cases h0 : ts[k].kids.length = 0
    · rw [if_pos h0] at h
      obtain ⟨fk, Φ, e, hn⟩ := allR_push_inv (by omega) h
      refine ⟨fk, Φ, by rw [pushFp_more hk', if_pos h0, e], fun j hj => hn j ?_⟩
      rcases hj with hj | hj
      · exact .inl hj
      · exact .inr (by omega)
    · rw [if_neg h0] at h
      match Φ', h with
      | fp :: Φ'', h =>
        obtain ⟨fk, Φ, e, hn⟩ := allR_push_inv (by omega) h.2
        have hcong : ∀ n, n ≤ k → pushFp ts (fun j => if j = k then fp else fk j) Φ n = pushFp ts fk Φ n := by
          intro n
          induction n with
          | zero => intro _; rfl
          | succ n ih =>
            intro hle
            rw [pushFp_more (by omega : n < ts.length), pushFp_more (by omega : n < ts.length), ih (by omega), if_neg (by omega : n ≠ k)]
        refine ⟨fun j => if j = k then fp else fk j, Φ, ?_, fun j hj => ?_⟩
        · rw [pushFp_more hk', if_neg h0, if_pos rfl, hcong k (Nat.le_refl _), e]
        · by_cases ej : j = k
          · subst ej
            rcases hj with ⟨_, hj⟩ | hj
            · exact absurd hj h0
            · omega
          · show (if j = k then fp else fk j) = []
            rw [if_neg ej]
            refine hn j (hj.imp id fun h => by omega)
/-- the blocks of a stack -/
theorem pushFp_flat {ts : List Va} {fk : Nat → List Nat} {Φ : List (List Nat)} : ∀ k, k ≤ ts.length → (pushFp ts fk Φ k).flatten.Perm (((List.range k).flatMap fun j => if (ts[j]?.map fun t => t.kids.length) = some 0 then [] else fk j) ++ Φ.flatten)
  | 0, _ => by simp [pushFp]
  | k + 1, hk => by
    have ih := pushFp_flat (ts := ts) (fk := fk) (Φ := Φ) k (by omega)
    have hk' : k < ts.length := by omega
    rw [pushFp_more hk', List.range_succ, List.flatMap_append]
    simp only [List.flatMap_cons, List.flatMap_nil, List.append_nil, List.getElem?_eq_getElem hk', Option.map_some, Option.some.injEq]
    by_cases h0 : ts[k].kids.length = 0
    · rw [if_pos h0, if_pos h0, List.append_nil]; exact ih
    · rw [if_neg h0, if_neg h0, List.flatten_cons]
      refine (List.Perm.append_left _ ih).trans ?_
      rw [← List.append_assoc]
      exact List.Perm.append_right _ List.perm_append_comm
end Go.Proofs.YtlikmgkjilmjpaaGreat

/-
  A value copied list by list: what is known of the lists that are still to be gone through, and what comes of it once they are. Plain memory.
-/
namespace Go.Proofs.YtlikmgkjilmjpaaGreat
open Go.RowKit

/-- the block of a slice -/
def rowBk : Value → List Nat
  | .slice A _ _ => blk A
  | _ => []
def rowsS (S : Stk) : List Nat := S.flatMap fun p => rowBk p.2
theorem rowsS_cons (p : List Va × Value) (S : Stk) : rowsS (p :: S) = rowBk p.2 ++ rowsS S := rfl
theorem rowsS_pushTo {ts : List Va} {As : Nat → Value} {S : Stk} : ∀ k, k ≤ ts.length → (rowsS (pushTo ts As S k)).Perm (((List.range k).flatMap fun j => if (ts[j]?.map fun t => t.kids.length) = some 0 then [] else rowBk (As j)) ++ rowsS S)
  | 0, _ => by simp [pushTo]
  | k + 1, hk => by
    have ih := rowsS_pushTo (ts := ts) (As := As) (S := S) k (by omega)
    have hk' : k < ts.length := by omega
    rw [pushTo_more hk', List.range_succ, List.flatMap_append]
    simp only [List.flatMap_cons, List.flatMap_nil, List.append_nil, List.getElem?_eq_getElem hk', Option.map_some, Option.some.injEq]
    by_cases h0 : ts[k].kids.length = 0
    · rw [if_pos h0, if_pos h0, List.append_nil]; exact ih
    · rw [if_neg h0, if_neg h0, rowsS_cons]
      refine (List.Perm.append_left _ ih).trans ?_
      rw [← List.append_assoc]
      exact List.Perm.append_right _ List.perm_append_comm
theorem flatMap_same {f g : Nat → List Nat} {n : Nat} (h : ∀ j, j < n → f j = g j) : (List.range n).flatMap f = (List.range n).flatMap g := by
  induction n with
  | zero => rfl
  | succ n ih =>
    rw [List.range_succ, List.flatMap_append, List.flatMap_append, ih fun j hj => h j (by omega)]
    simp [h n (by omega)]
theorem rowsS_push {ts : List Va} {As : Nat → Value} {S : Stk} (h : ∀ j (hj : j < ts.length), ts[j].kids.length = 0 → rowBk (As j) = []) : (rowsS (pushAll ts As S)).Perm (((List.range ts.length).flatMap fun j => rowBk (As j)) ++ rowsS S) := by
  have := rowsS_pushTo (ts := ts) (As := As) (S := S) ts.length (Nat.le_refl _)
  rw [flatMap_same (g := fun j => rowBk (As j))] at this
  · exact this
  · intro j hj
    rw [List.getElem?_eq_getElem hj, Option.map_some]
    by_cases h0 : ts[j].kids.length = 0
    · rw [if_pos (by rw [h0]), h j hj h0]
    · rw [if_neg (by intro e; injection e with e; exact h0 e)]
theorem pushFp_push {ts : List Va} {fk : Nat → List Nat} {Φ : List (List Nat)} (h : ∀ j (hj : j < ts.length), ts[j].kids.length = 0 → fk j = []) : (pushFp ts fk Φ ts.length).flatten.Perm (((List.range ts.length).flatMap fk) ++ Φ.flatten) := by
  have := pushFp_flat (ts := ts) (fk := fk) (Φ := Φ) ts.length (Nat.le_refl _)
  rw [flatMap_same (g := fk)] at this
  · exact this
  · intro j hj
    rw [List.getElem?_eq_getElem hj, Option.map_some]
    by_cases h0 : ts[j].kids.length = 0
    · rw [if_pos (by rw [h0]), h j hj h0]
    · rw [if_neg (by intro e; injection e with e; exact h0 e)]
theorem mem_push {ts : List Va} {As : Nat → Value} {S : Stk} {p : List Va × Value} (h : p ∈ pushAll ts As S) : p ∈ S ∨ ∃ j, ∃ h : j < ts.length, ts[j].kids.length ≠ 0 ∧ p = (ts[j].kids, As j) := by
  have go : ∀ k, k ≤ ts.length → p ∈ pushTo ts As S k → p ∈ S ∨ ∃ j, ∃ h : j < ts.length, ts[j].kids.length ≠ 0 ∧ p = (ts[j].kids, As j) := by
    intro k
    induction k with
    | zero => intro _ h; exact .inl h
    | succ k ih =>
      intro hk h
      rw [pushTo_more (by omega)] at h
      split at h
      · exact ih (by omega) h
      · rename_i h0
        rcases List.mem_cons.1 h with h | h
        · exact .inr ⟨k, by omega, h0, h⟩
        · exact ih (by omega) h
  exact go _ (Nat.le_refl _) h
theorem in_flat {f : Nat → List Nat} {n b : Nat} : b ∈ (List.range n).flatMap f ↔ ∃ j, j < n ∧ b ∈ f j := by
  simp only [List.mem_flatMap, List.mem_range]

/-- a list in a row of the call's own whose nodes' labels and parts are read in the old world -/
def ListC (w W : World) (p : List Va × Value) : Prop :=
  ∃ A d xs, p.2 = .slice A p.1.length d ∧ p.1.length ≤ 1048577 ∧ W.ownsRow 0 47 4 p.2 p.1.length xs ∧ ∀ j t, p.1[j]? = some t → RVa w t (part4 xs j) ∧ wv t ≤ 1048576
theorem ListC.held {w W W' : World} {p : List Va × Value} {K : Nat → Prop} (h : ListC w W p) (hH : Held K W W') (hK : ∀ b ∈ rowBk p.2, K b) : ListC w W' p := by
  obtain ⟨A, d, xs, e, k1, k2, k3⟩ := h
  refine ⟨A, d, xs, e, k1, ?_, k3⟩
  rw [e] at k2 hK ⊢
  exact own_heldv k2 hH hK
/-- once all lists of the stack are whole, all is -/
def CopyKv (t : List Va) (s0 : Value) (S : Stk) (F : Nat → Prop) (W : World) : Prop :=
  ∀ (W' : World) (Φ : List (List Nat)), Held (fun i => F i ∧ i ∉ rowsS S) W W' → AllR (fun p fp => OVs W' p.1 p.2 fp) S Φ → Φ.flatten.Nodup → (∀ b ∈ Φ.flatten, b ∈ rowsS S ∨ W.heap.size ≤ b) → ∃ fp, OVs W' t s0 fp ∧ ∀ b ∈ fp, F b ∨ b ∈ Φ.flatten
structure CopyI (w : World) (t : List Va) (s0 : Value) (S : Stk) (F : Nat → Prop) (W : World) : Prop where
  bel : Below w.heap.size w W
  fr : ∀ b, F b → w.heap.size ≤ b ∧ b < W.heap.size
  lst : ∀ p ∈ S, ListC w W p
  ne : ∀ p ∈ S, 0 < p.1.length ∨ p = ([], .slice none 0 0)
  nd : (rowsS S).Nodup
  own : ∀ b ∈ rowsS S, F b
  fin : CopyKv t s0 S F W
theorem CopyI.keep {w : World} {t : List Va} {s0 : Value} {S : Stk} {F : Nat → Prop} {lo : Nat} {A B : World} (hlo : w.heap.size ≤ lo) (h : CopyI w t s0 S F A) (hH : Held (fun i => i < lo ∨ F i) A B) : CopyI w t s0 S F B where
  bel := h.bel.trans (hH.below h.bel.size fun i hi => .inl (by omega))
  fr := fun b hb => ⟨(h.fr b hb).1, Nat.lt_of_lt_of_le (h.fr b hb).2 hH.size⟩
  lst := fun p hp => (h.lst p hp).held hH fun b hb => .inr (h.own b (List.mem_flatMap.2 ⟨p, hp, hb⟩))
  ne := h.ne
  nd := h.nd
  own := h.own
  fin := fun W' Φ hH' hA hnd hin => h.fin W' Φ ((hH.mono fun i _ hi => .inr hi.1).trans hH') hA hnd fun b hb => (hin b hb).imp id fun h => Nat.le_trans hH.size h
theorem CopyI.done {w : World} {t : List Va} {s0 : Value} {F : Nat → Prop} {W : World} (h : CopyI w t s0 [] F W) : ∃ fp, OVs W t s0 fp ∧ ∀ b ∈ fp, F b := by
  obtain ⟨fp, h1, h2⟩ := h.fin W [] (Held.refl _ _) trivial (by simp) (by simp)
  exact ⟨fp, h1, fun b hb => (h2 b hb).resolve_right (by simp)⟩

/-- an empty list is gone through -/
theorem copy_none {w W : World} {t0 : List Va} {s0 : Value} {S : Stk} {F : Nat → Prop} (hI : CopyI w t0 s0 (([], .slice none 0 0) :: S) F W) : CopyI w t0 s0 S F W where
  bel := hI.bel
  fr := hI.fr
  lst := fun p hp => hI.lst p (List.mem_cons_of_mem _ hp)
  ne := fun p hp => hI.ne p (List.mem_cons_of_mem _ hp)
  nd := by have := hI.nd; rw [rowsS_cons] at this; exact (List.nodup_append.1 this).2.1
  own := fun b hb => hI.own b (by rw [rowsS_cons]; exact List.mem_append.2 (.inr hb))
  fin := fun W' Φ hH hA hnd hin => by
    obtain ⟨fp, h1, h2⟩ := hI.fin W' ([] :: Φ) (hH.mono fun i _ hi => ⟨hi.1, fun h => hi.2 (by rw [rowsS_cons]; exact List.mem_append.2 (.inr h))⟩) ⟨OVs.nil W', hA⟩ (by simpa using hnd) (fun b hb => by
      rcases hin b (by simpa using hb) with h | h
      · exact .inl (by rw [rowsS_cons]; exact List.mem_append.2 (.inr h))
      · exact .inr h)
    exact ⟨fp, h1, fun b hb => by simpa using h2 b hb⟩

theorem copy_next {w W W2 : World} {t0 : List Va} {s0 : Value} {ts : List Va} {g cap lo : Nat} {S : Stk} {F : Nat → Prop} (hI : CopyI w t0 s0 ((ts, .slice (some ⟨g, 0, none⟩) ts.length cap) :: S) F W)
    {ys : List Value} {Ls : Nat → Option Addr} {cs : Nat → Nat} {As : Nat → Value} (h1 : ts.length ≤ 1048577) (h2 : W2.ownsRow 0 47 4 (.slice (some ⟨g, 0, none⟩) ts.length cap) ts.length ys)
    (h3 : ∀ j t, ts[j]? = some t → part4 ys j = [.int .i64 t.top.kind, .int .i64 t.top.num, .slice (Ls j) t.top.labels.length (cs j), As j] ∧ t.top.ok ∧ W2.ownsRow 0 9 1 (.slice (Ls j) t.top.labels.length (cs j)) t.top.labels.length (t.top.labels.map Value.string) ∧ ListC w W2 (t.kids, As j) ∧ (t.kids.length = 0 → As j = .slice none 0 0))
    (h4 : ((List.range ts.length).flatMap fun j => blk (Ls j) ++ rowBk (As j)).Nodup) (h5 : ∀ b ∈ (List.range ts.length).flatMap fun j => blk (Ls j) ++ rowBk (As j), W.heap.size ≤ b ∧ b < W2.heap.size) (h6 : Held (fun i => i ≠ g) W W2) :
    Held (fun i => ¬ F i) W W2 ∧ ∃ F', (∀ b, F' b → F b ∨ W.heap.size ≤ b) ∧ RowC lo F' W2 (.slice (some ⟨g, 0, none⟩) ts.length cap) ts As ∧ CopyI w t0 s0 (pushAll ts As S) F' W2 := by
  have hgS : g ∈ rowsS ((ts, .slice (some ⟨g, 0, none⟩) ts.length cap) :: S) := by rw [rowsS_cons]; exact List.mem_append.2 (.inl (by simp [rowBk, blk]))
  have hgF : F g := hI.own g hgS
  have hgl := (hI.fr g hgF).2
  have hsz := h6.size
  have hndS := hI.nd
  rw [rowsS_cons] at hndS
  obtain ⟨_, hndS, hdis⟩ := List.nodup_append.1 hndS
  have hgn : g ∉ rowsS S := fun h => hdis g (by simp [rowBk, blk]) g h rfl
  have hSF : ∀ b ∈ rowsS S, F b := fun b hb => hI.own b (by rw [rowsS_cons]; exact List.mem_append.2 (.inr hb))
  have hz : ∀ j (hj : j < ts.length), ts[j].kids.length = 0 → rowBk (As j) = [] := fun j hj h0 => by
    rw [(h3 j _ (List.getElem?_eq_getElem hj)).2.2.2.2 h0]; rfl
  have hpr := rowsS_push (S := S) hz
  obtain ⟨ndL, ndA, disLA⟩ := List.nodup_append.1 ((range_flat_app (fun j => blk (Ls j)) (fun j => rowBk (As j)) ts.length).nodup_iff.1 h4)
  have bL : ∀ b ∈ (List.range ts.length).flatMap fun j => blk (Ls j), W.heap.size ≤ b ∧ b < W2.heap.size := fun b hb => h5 b ((range_flat_app _ _ _).mem_iff.2 (List.mem_append.2 (.inl hb)))
  have bA : ∀ b ∈ (List.range ts.length).flatMap fun j => rowBk (As j), W.heap.size ≤ b ∧ b < W2.heap.size := fun b hb => h5 b ((range_flat_app _ _ _).mem_iff.2 (List.mem_append.2 (.inr hb)))
  have inP : ∀ b, b ∈ rowsS (pushAll ts As S) ↔ b ∈ ((List.range ts.length).flatMap fun j => rowBk (As j)) ∨ b ∈ rowsS S := fun b => by rw [hpr.mem_iff, List.mem_append]
  refine ⟨h6.mono fun i _ hi e => hi (e ▸ hgF), fun b => F b ∨ b ∈ (List.range ts.length).flatMap fun j => blk (Ls j) ++ rowBk (As j), fun b hb => hb.imp id fun h => (h5 b h).1, ?_, ?_⟩
  · refine ⟨_, _, rfl, by omega, fun j t hj => ?_⟩
    obtain ⟨e, _, _, hc, _⟩ := h3 j t hj
    obtain ⟨A', d', _, hA', _⟩ := hc
    have hx : ys.length = ts.length * 4 := h2.1
    have hjl := (List.getElem?_eq_some_iff.1 hj).1
    have cell : ∀ i u, i < 4 → (part4 ys j)[i]? = some u → W2.cell? ((⟨g, 0, none⟩ : Addr).add (j * 4 + i)) = some u := fun i u hi hu => by
      rw [part4_get _ _ _ hi] at hu
      exact h2.cells (g := g) rfl _ u hu
    rw [e] at cell
    simp only at hA'
    exact ⟨_, _, _, _, _, _, A', d', rfl, .inr (.inl hgF), hA', cell 0 _ (by omega) rfl, cell 1 _ (by omega) rfl, cell 2 _ (by omega) rfl, cell 3 _ (by omega) rfl⟩
  · refine ⟨hI.bel.trans (h6.below hI.bel.size fun i hi => by show i ≠ g; have := (hI.fr g hgF).1; omega), fun b hb => ?_, fun p hp => ?_, fun p hp => ?_, ?_, fun b hb => ?_, ?_⟩
    · rcases hb with hb | hb
      · have := hI.fr b hb; exact ⟨this.1, by omega⟩
      · have := h5 b hb; exact ⟨Nat.le_trans hI.bel.size this.1, this.2⟩
    · rcases mem_push hp with h | ⟨j, hj, _, rfl⟩
      · refine (hI.lst p (List.mem_cons_of_mem _ h)).held h6 fun b hb e => ?_
        exact hgn (e ▸ List.mem_flatMap.2 ⟨p, h, hb⟩)
      · exact (h3 j _ (List.getElem?_eq_getElem hj)).2.2.2.1
    · rcases mem_push hp with h | ⟨j, hj, h0, rfl⟩
      · exact hI.ne p (List.mem_cons_of_mem _ h)
      · refine .inl ?_
        show 0 < ts[j].kids.length
        omega
    · refine hpr.nodup_iff.2 (List.nodup_append.2 ⟨ndA, hndS, fun x hx y hy e => ?_⟩)
      have h7 := bA x hx
      have h8 := (hI.fr y (hSF y hy)).2
      omega
    · rcases (inP b).1 hb with h | h
      · exact .inr ((range_flat_app _ _ _).mem_iff.2 (List.mem_append.2 (.inr h)))
      · exact .inl (hSF b h)
    · intro W' Φ' hH hA hnd hin
      obtain ⟨fk, Φ, rfl, hfz⟩ := allR_push_inv (Nat.le_refl _) hA
      obtain ⟨hk, hS⟩ := (allR_push ts.length (Nat.le_refl _)).1 hA
      have hfl := pushFp_push (Φ := Φ) (fk := fk) (ts := ts) fun j hj h0 => hfz j (.inl ⟨hj, h0⟩)
      have hndf := hfl.nodup_iff.1 hnd
      have hin' : ∀ b ∈ ((List.range ts.length).flatMap fk) ++ Φ.flatten, (b ∈ ((List.range ts.length).flatMap fun j => rowBk (As j)) ∨ b ∈ rowsS S) ∨ W2.heap.size ≤ b := fun b hb => (hin b (hfl.mem_iff.2 hb)).imp (inP b).1 id
      have notP : ∀ b, (b ∈ (List.range ts.length).flatMap fun j => blk (Ls j)) → b ∉ rowsS (pushAll ts As S) := fun b hb h => by
        rcases (inP b).1 h with h | h
        · exact disLA b hb b h rfl
        · have := bL b hb; have := (hI.fr b (hSF b h)).2; omega
      have gP : g ∉ rowsS (pushAll ts As S) := fun h => by
        rcases (inP g).1 h with h | h
        · have := bA g h; omega
        · exact hgn h
      have hnd0 : ((blk (some (⟨g, 0, none⟩ : Addr)) ++ (List.range ts.length).flatMap fun j => blk (Ls j) ++ fk j) ++ Φ.flatten).Nodup := by
        have hp : ((blk (some (⟨g, 0, none⟩ : Addr)) ++ (List.range ts.length).flatMap fun j => blk (Ls j) ++ fk j) ++ Φ.flatten).Perm ([g] ++ (((List.range ts.length).flatMap fun j => blk (Ls j)) ++ (((List.range ts.length).flatMap fk) ++ Φ.flatten))) := by
          rw [List.append_assoc]
          refine List.Perm.append_left _ ?_
          rw [← List.append_assoc]
          exact List.Perm.append_right _ (range_flat_app _ _ _)
        refine hp.nodup_iff.2 (List.nodup_append.2 ⟨by simp, List.nodup_append.2 ⟨ndL, hndf, fun x hx y hy e => ?_⟩, fun x hx y hy e => ?_⟩)
        · subst e
          have h7 := bL x hx
          rcases hin' x hy with (h | h) | h
          · exact disLA x hx x h rfl
          · have := (hI.fr x (hSF x h)).2; omega
          · omega
        · subst e
          have e : x = g := by simpa using hx
          subst e
          rcases List.mem_append.1 hy with h | h
          · have := bL x h; omega
          · rcases hin' x h with (h | h) | h
            · have := bA x h; omega
            · exact hgn h
            · omega
      have hnd1 := (List.nodup_append.1 hnd0).1
      have hOV : OVs W' ts (.slice (some ⟨g, 0, none⟩) ts.length cap) (blk (some (⟨g, 0, none⟩ : Addr)) ++ (List.range ts.length).flatMap fun j => blk (Ls j) ++ fk j) := by
        refine OVs.make (xs := ys) (Ls := Ls) (cs := cs) (As := As) (fk := fk) (by omega) (own_heldv h2 hH fun b hb => ?_) (fun j t hj => ?_) (List.Perm.refl _) hnd1
        · have e : b = g := by simpa [blk] using hb
          subst e
          exact ⟨.inl hgF, gP⟩
        · obtain ⟨e, ok, hlab, _, hnil⟩ := h3 j t hj
          have hjl := (List.getElem?_eq_some_iff.1 hj).1
          refine ⟨e, ok, own_heldv hlab hH fun b hb => ?_, ?_⟩
          · have hb' : b ∈ (List.range ts.length).flatMap fun j => blk (Ls j) := in_flat.2 ⟨j, hjl, hb⟩
            exact ⟨.inr ((range_flat_app _ _ _).mem_iff.2 (List.mem_append.2 (.inl hb'))), notP b hb'⟩
          · rw [List.getElem?_eq_getElem hjl] at hj
            injection hj with hj
            by_cases h0 : t.kids.length = 0
            · rw [hnil h0, hfz j (.inl ⟨hjl, by rw [hj]; exact h0⟩), List.eq_nil_of_length_eq_zero h0]
              exact OVs.nil W'
            · have := hk j hjl hjl (by rw [hj]; exact h0)
              rw [hj] at this
              exact this
      have hH0 : Held (fun i => F i ∧ i ∉ rowsS ((ts, .slice (some ⟨g, 0, none⟩) ts.length cap) :: S)) W W' := by
        refine (h6.mono fun i _ hi e => hi.2 (e ▸ hgS)).trans (hH.mono fun i hi hF => ⟨.inl hF.1, fun h => ?_⟩)
        rcases (inP i).1 h with h | h
        · have := bA i h; have := (hI.fr i hF.1).2; omega
        · exact hF.2 (by rw [rowsS_cons]; exact List.mem_append.2 (.inr h))
      have hin0 : ∀ b ∈ (((blk (some (⟨g, 0, none⟩ : Addr)) ++ (List.range ts.length).flatMap fun j => blk (Ls j) ++ fk j) :: Φ) : List (List Nat)).flatten, b ∈ rowsS ((ts, .slice (some ⟨g, 0, none⟩) ts.length cap) :: S) ∨ W.heap.size ≤ b := by
        intro b hb
        rw [List.flatten_cons, List.mem_append, List.mem_append] at hb
        rcases hb with (h | h) | h
        · have e : b = g := by simpa [blk] using h
          exact .inl (e ▸ hgS)
        · rcases List.mem_append.1 ((range_flat_app _ _ _).mem_iff.1 h) with h | h
          · exact .inr (bL b h).1
          · rcases hin' b (List.mem_append.2 (.inl h)) with (h | h) | h
            · exact .inr (bA b h).1
            · exact .inl (by rw [rowsS_cons]; exact List.mem_append.2 (.inr h))
            · exact .inr (by omega)
        · rcases hin' b (List.mem_append.2 (.inr h)) with (h | h) | h
          · exact .inr (bA b h).1
          · exact .inl (by rw [rowsS_cons]; exact List.mem_append.2 (.inr h))
          · exact .inr (by omega)
      obtain ⟨fp, f1, f2⟩ := hI.fin W' ((blk (some (⟨g, 0, none⟩ : Addr)) ++ (List.range ts.length).flatMap fun j => blk (Ls j) ++ fk j) :: Φ) hH0 ⟨hOV, hS⟩ (by rw [List.flatten_cons]; exact hnd0) hin0
      refine ⟨fp, f1, fun b hb => ?_⟩
      rcases f2 b hb with h | h
      · exact .inl (.inl h)
      · rw [List.flatten_cons, List.mem_append, List.mem_append] at h
        rcases h with (h | h) | h
        · have e : b = g := by simpa [blk] using h
          exact .inl (.inl (e ▸ hgF))
        · rcases List.mem_append.1 ((range_flat_app _ _ _).mem_iff.1 h) with h | h
          · exact .inl (.inr ((range_flat_app _ _ _).mem_iff.2 (List.mem_append.2 (.inl h))))
          · exact .inr (hfl.mem_iff.2 (List.mem_append.2 (.inl h)))
        · exact .inr (hfl.mem_iff.2 (List.mem_append.2 (.inr h)))
end Go.Proofs.YtlikmgkjilmjpaaGreat
