/-
  Merged by program: TyList.
-/
import Derived.Test.YtlcpekpgkllbkaaT3
import Derived.Test.YtlcpekpgkllbkaaT33
import Derived.Test.YtlcpekpgkllbkaaT4

/-
  Lists of values in memory of the call's own, with their blocks; the stack of lists with what is known of each.
-/
namespace Go.Proofs.Ytlcpekpgkllbkaa
open Go.RowKit

/-- the slice holds the list, in memory of the call's own; its blocks, in some order -/
def OTs (w : World) (ts : List Ty) (s : Value) (fp : List Nat) : Prop :=
  ∃ A d xs fs, s = .slice A ts.length d ∧ ts.length ≤ 9223372036854775807 ∧ w.ownsRow 0 36 3 s ts.length xs ∧ (∀ j t, ts[j]? = some t → OTy w t (part3 xs j) (fs j)) ∧ (blk A ++ (List.range ts.length).flatMap fs).Perm fp ∧ fp.Nodup
/-- .. each node's own cells, labels and list of parts -/
theorem OTy.out {w : World} {t : Ty} {cs : List Value} {fp : List Nat} (h : OTy w t cs fp) : ∃ L c s fk, cs = [.int .i64 t.top.kind, .slice L t.top.labels.length c, s] ∧ t.top.ok ∧
    w.ownsRow 0 9 1 (.slice L t.top.labels.length c) t.top.labels.length (t.top.labels.map Value.string) ∧ OTs w t.kids s fk ∧ fp = blk L ++ fk := by
  cases h with
  | node a ks L A c d xs fs h0 h1 h2 h3 h4 h5 =>
    refine ⟨L, c, _, blk A ++ (List.range ks.length).flatMap fs, rfl, h0, h1, ⟨A, d, xs, fs, rfl, h2, h3, h4, List.Perm.refl _, ?_⟩, by rw [List.append_assoc]⟩
    rw [List.append_assoc] at h5
    exact (List.nodup_append.1 h5).2.1
theorem OTy.make {w : World} {t : Ty} {L : Option Addr} {c : Nat} {s : Value} {fk : List Nat} (h0 : t.top.ok) (h1 : w.ownsRow 0 9 1 (.slice L t.top.labels.length c) t.top.labels.length (t.top.labels.map Value.string)) (h2 : OTs w t.kids s fk) (h3 : (blk L ++ fk).Nodup) :
    ∃ fp, OTy w t [.int .i64 t.top.kind, .slice L t.top.labels.length c, s] fp ∧ fp.Perm (blk L ++ fk) := by
  cases t with
  | node a ks =>
    obtain ⟨A, d, xs, fs, rfl, k1, k2, k3, k4, k5⟩ := h2
    have hp : (blk L ++ blk A ++ (List.range ks.length).flatMap fs).Perm (blk L ++ fk) := by
      rw [List.append_assoc]
      exact List.Perm.append_left _ k4
    exact ⟨_, .node a ks L A c d xs fs h0 h1 k1 k2 k3 (hp.nodup_iff.2 h3), hp⟩
theorem RTy.openT {w : World} {t : Ty} {cs : List Value} (h : RTy w t cs) : ∃ L c A d, cs = [.int .i64 t.top.kind, .slice L t.top.labels.length c, .slice A t.kids.length d] ∧ Sl w L (t.top.labels.map Value.string) ∧ t.top.ok ∧ t.kids.length ≤ 9223372036854775807 ∧ RKids w A t.kids := by
  cases t with
  | node a ks =>
    obtain ⟨L, c, A, d, rfl, h1, h2, h3, h4, h5, h6, h7⟩ := h.out
    exact ⟨L, c, A, d, rfl, h1, ⟨h2, h3, h4, h5⟩, h6, h7⟩
theorem OTs.keep {w w' : World} {ts : List Ty} {s : Value} {fp : List Nat} {row : Option Nat} (h : OTs w ts s fp) (hg : w.grownBy w' row) (hne : ∀ b ∈ fp, some b ≠ row) : OTs w' ts s fp := by
  obtain ⟨A, d, xs, fs, rfl, k1, k2, k3, k4, k5⟩ := h
  refine ⟨A, d, xs, fs, rfl, k1, own_keep k2 hg fun b hb => hne b (k4.subset (by simp [hb])), fun j t hj => (k3 j t hj).keep hg fun b hb => hne b (k4.subset ?_), k4, k5⟩
  rw [List.mem_append, List.mem_flatMap]
  exact .inr ⟨j, List.mem_range.2 (List.getElem?_eq_some_iff.1 hj).1, hb⟩
theorem OTs.under {w w' : World} {ts : List Ty} {s : Value} {fp : List Nat} (h : OTs w ts s fp) (hb : Below w.heap.size w w') : OTs w' ts s fp :=
  h.keep (row := none) ⟨hb.os, hb.tape, hb.output, hb.size, fun i hi _ => hb.block i hi⟩ (fun b _ => by simp)
theorem own_heldt {w w' : World} {base size n : Nat} {e : TypeId} {A : Option Addr} {c : Nat} {xs : List Value} {K : Nat → Prop} (h : w.ownsRow base e size (.slice A n c) n xs) (hH : Held K w w') (hK : ∀ b ∈ blk A, K b) : w'.ownsRow base e size (.slice A n c) n xs := by
  refine ⟨h.1, h.2.imp id ?_⟩
  rintro ⟨g, cap, cur, hv, h1, h2, h3⟩
  injection hv with e1 e2 e3
  subst e1
  exact ⟨g, cap, cur, by rw [e2, e3], h1, (hH.block g (h.lt g rfl).2 (hK g (by simp [blk]))).trans h2, h3⟩
theorem OTy.held {w w' : World} {t : Ty} {cs : List Value} {fp : List Nat} {K : Nat → Prop} (h : OTy w t cs fp) (hH : Held K w w') (hK : ∀ b ∈ fp, K b) : OTy w' t cs fp := by
  induction h with
  | node a ks L A c d xs fs h0 h1 h2 h3 h4 h5 ih =>
    refine .node a ks L A c d xs fs h0 (own_heldt h1 hH fun b hb => hK b (by simp [hb])) h2 (own_heldt h3 hH fun b hb => hK b (by simp [hb])) (fun j t hj => ih j t hj fun b hb => hK b ?_) h5
    rw [List.mem_append, List.mem_flatMap]
    exact .inr ⟨j, List.mem_range.2 (List.getElem?_eq_some_iff.1 hj).1, hb⟩
theorem OTs.held {w w' : World} {ts : List Ty} {s : Value} {fp : List Nat} {K : Nat → Prop} (h : OTs w ts s fp) (hH : Held K w w') (hK : ∀ b ∈ fp, K b) : OTs w' ts s fp := by
  obtain ⟨A, d, xs, fs, rfl, k1, k2, k3, k4, k5⟩ := h
  refine ⟨A, d, xs, fs, rfl, k1, own_heldt k2 hH fun b hb => hK b (k4.subset (by simp [hb])), fun j t hj => (k3 j t hj).held hH fun b hb => hK b (k4.subset ?_), k4, k5⟩
  rw [List.mem_append, List.mem_flatMap]
  exact .inr ⟨j, List.mem_range.2 (List.getElem?_eq_some_iff.1 hj).1, hb⟩
theorem OTs.perm {w : World} {ts : List Ty} {s : Value} {fp fq : List Nat} (h : OTs w ts s fp) (hp : fp.Perm fq) : OTs w ts s fq := by
  obtain ⟨A, d, xs, fs, rfl, k1, k2, k3, k4, k5⟩ := h
  exact ⟨A, d, xs, fs, rfl, k1, k2, k3, k4.trans hp, hp.nodup_iff.1 k5⟩
theorem OTs.nil (w : World) : OTs w [] (.slice none 0 0) [] :=
  ⟨none, 0, [], fun _ => [], rfl, by simp, ⟨rfl, .inl ⟨rfl, rfl⟩⟩, fun j t hj => by simp at hj, by simp [blk], by simp⟩

theorem range_flat_permT {f g : Nat → List Nat} : ∀ n, (∀ j, j < n → (f j).Perm (g j)) → ((List.range n).flatMap f).Perm ((List.range n).flatMap g)
  | 0, _ => by simp
  | n + 1, h => by
    rw [List.range_succ, List.flatMap_append, List.flatMap_append]
    exact (range_flat_permT n fun j hj => h j (by omega)).append (by simpa using h n (by omega))
theorem range_flat_appT (f g : Nat → List Nat) : ∀ n, ((List.range n).flatMap fun j => f j ++ g j).Perm ((List.range n).flatMap f ++ (List.range n).flatMap g)
  | 0 => by simp
  | n + 1 => by
    rw [List.range_succ, List.flatMap_append, List.flatMap_append, List.flatMap_append]
    simp only [List.flatMap_cons, List.flatMap_nil, List.append_nil]
    refine ((range_flat_appT f g n).append_right _).trans ?_
    rw [List.append_assoc, List.append_assoc]
    refine List.Perm.append_left _ ?_
    rw [← List.append_assoc, ← List.append_assoc]
    exact List.Perm.append_right _ List.perm_append_comm
theorem nodup_flatT {f : Nat → List Nat} {n j : Nat} (h : ((List.range n).flatMap f).Nodup) (hj : j < n) : (f j).Nodup := by
  obtain ⟨a, b, e⟩ := List.append_of_mem (List.mem_range.2 hj)
  rw [e, List.flatMap_append, List.flatMap_cons] at h
  exact (List.nodup_append.1 (List.nodup_append.1 h).2.1).1

/-- a list put together: the row, and of each node the labels and the list of parts -/
theorem OTs.make {w : World} {ts : List Ty} {A : Option Addr} {d : Nat} {xs : List Value} {Ls : Nat → Option Addr} {cs : Nat → Nat} {As : Nat → Value} {fk : Nat → List Nat} {fp : List Nat} (h1 : ts.length ≤ 9223372036854775807) (h2 : w.ownsRow 0 36 3 (.slice A ts.length d) ts.length xs)
    (h3 : ∀ j t, ts[j]? = some t → part3 xs j = [.int .i64 t.top.kind, .slice (Ls j) t.top.labels.length (cs j), As j] ∧ t.top.ok ∧ w.ownsRow 0 9 1 (.slice (Ls j) t.top.labels.length (cs j)) t.top.labels.length (t.top.labels.map Value.string) ∧ OTs w t.kids (As j) (fk j))
    (h4 : (blk A ++ (List.range ts.length).flatMap fun j => blk (Ls j) ++ fk j).Perm fp) (h5 : fp.Nodup) : OTs w ts (.slice A ts.length d) fp := by
  have hnd := (List.nodup_append.1 (h4.nodup_iff.2 h5)).2.1
  have hex : ∀ j, ∃ fs, j < ts.length → (∀ t, ts[j]? = some t → OTy w t (part3 xs j) fs) ∧ fs.Perm (blk (Ls j) ++ fk j) := by
    intro j
    by_cases hj : j < ts.length
    · obtain ⟨e, k0, k1, k2⟩ := h3 j _ (List.getElem?_eq_getElem hj)
      obtain ⟨fs, q1, q2⟩ := OTy.make k0 k1 k2 (nodup_flatT hnd hj)
      refine ⟨fs, fun _ => ⟨fun t ht => ?_, q2⟩⟩
      rw [List.getElem?_eq_getElem hj] at ht
      injection ht with ht
      subst ht
      rw [e]; exact q1
    · exact ⟨[], fun h => absurd h hj⟩
  obtain ⟨fs, hfs⟩ := Classical.axiomOfChoice hex
  refine ⟨A, d, xs, fs, rfl, h1, h2, fun j t hj => (hfs j (List.getElem?_eq_some_iff.1 hj).1).1 t hj, List.Perm.trans (List.Perm.append_left _ ?_) h4, h5⟩
  exact range_flat_permT _ fun j hj => (hfs j hj).2
/-- .. and taken apart -/
theorem OTs.open {w : World} {ts : List Ty} {s : Value} {fp : List Nat} (h : OTs w ts s fp) : ∃ A d xs, ∃ (Ls : Nat → Option Addr) (cs : Nat → Nat) (As : Nat → Value) (fk : Nat → List Nat), s = .slice A ts.length d ∧ ts.length ≤ 9223372036854775807 ∧ w.ownsRow 0 36 3 s ts.length xs ∧
    (∀ j t, ts[j]? = some t → part3 xs j = [.int .i64 t.top.kind, .slice (Ls j) t.top.labels.length (cs j), As j] ∧ t.top.ok ∧ w.ownsRow 0 9 1 (.slice (Ls j) t.top.labels.length (cs j)) t.top.labels.length (t.top.labels.map Value.string) ∧ OTs w t.kids (As j) (fk j)) ∧
    (blk A ++ (List.range ts.length).flatMap fun j => blk (Ls j) ++ fk j).Perm fp ∧ fp.Nodup := by
  obtain ⟨A, d, xs, fs, rfl, k1, k2, k3, k4, k5⟩ := h
  have hex : ∀ j, ∃ q : (Option Addr × Nat) × (Value × List Nat), ∀ t, ts[j]? = some t → (part3 xs j = [.int .i64 t.top.kind, .slice q.1.1 t.top.labels.length q.1.2, q.2.1] ∧ t.top.ok ∧ w.ownsRow 0 9 1 (.slice q.1.1 t.top.labels.length q.1.2) t.top.labels.length (t.top.labels.map Value.string) ∧ OTs w t.kids q.2.1 q.2.2) ∧ fs j = blk q.1.1 ++ q.2.2 := by
    intro j
    by_cases hj : j < ts.length
    · obtain ⟨L, c, s, fk, e, q0, q1, q2, q3⟩ := (k3 j _ (List.getElem?_eq_getElem hj)).out
      refine ⟨((L, c), (s, fk)), fun t ht => ?_⟩
      rw [List.getElem?_eq_getElem hj] at ht
      injection ht with ht
      subst ht
      exact ⟨⟨e, q0, q1, q2⟩, q3⟩
    · exact ⟨((none, 0), (undef, [])), fun t ht => absurd (List.getElem?_eq_some_iff.1 ht).1 hj⟩
  obtain ⟨q, hq⟩ := Classical.axiomOfChoice hex
  refine ⟨A, d, xs, fun j => (q j).1.1, fun j => (q j).1.2, fun j => (q j).2.1, fun j => (q j).2.2, rfl, k1, k2, fun j t hj => (hq j t hj).1, List.Perm.trans (List.Perm.append_left _ ?_) k4, k5⟩
  refine range_flat_permT _ fun j hj => ?_
  rw [(hq j _ (List.getElem?_eq_getElem hj)).2]

/-- of each list of the stack something is known, with its blocks -/
def AllRT (R : List Ty × Value → List Nat → Prop) : StkT → List (List Nat) → Prop
  | [], [] => True
  | p :: S, fp :: Φ => R p fp ∧ AllRT R S Φ
  | [], _ :: _ => False
  | _ :: _, [] => False
def pushFpT (ts : List Ty) (fk : Nat → List Nat) (Φ : List (List Nat)) : Nat → List (List Nat)
  | 0 => Φ
  | k + 1 => match ts[k]? with
    | some t => if t.kids.length = 0 then pushFpT ts fk Φ k else fk k :: pushFpT ts fk Φ k
    | none => pushFpT ts fk Φ k
theorem pushFp_moreT {ts : List Ty} {fk : Nat → List Nat} {Φ : List (List Nat)} {k : Nat} (hk : k < ts.length) : pushFpT ts fk Φ (k + 1) = if ts[k].kids.length = 0 then pushFpT ts fk Φ k else fk k :: pushFpT ts fk Φ k := by
  show (match ts[k]? with | some t => _ | none => _) = _
  rw [List.getElem?_eq_getElem hk]
theorem AllRT.mono {R R' : List Ty × Value → List Nat → Prop} : ∀ {S : StkT} {Φ : List (List Nat)}, AllRT R S Φ → (∀ p fp, p ∈ S → fp ∈ Φ → R p fp → R' p fp) → AllRT R' S Φ
  | [], [], _, _ => trivial
  | p :: S, fp :: Φ, h, hm => ⟨hm p fp (by simp) (by simp) h.1, h.2.mono fun q fq hq hf => hm q fq (by simp [hq]) (by simp [hf])⟩
  | [], _ :: _, h, _ => h.elim
  | _ :: _, [], h, _ => h.elim
theorem allR_pushT {R : List Ty × Value → List Nat → Prop} {ts : List Ty} {As : Nat → Value} {S : StkT} {fk : Nat → List Nat} {Φ : List (List Nat)} : ∀ k, k ≤ ts.length →
    (AllRT R (pushToT ts As S k) (pushFpT ts fk Φ k) ↔ (∀ j (h : j < ts.length), j < k → ts[j].kids.length ≠ 0 → R (ts[j].kids, As j) (fk j)) ∧ AllRT R S Φ)
  | 0, _ => ⟨fun h => ⟨fun j _ hj => absurd hj (by omega), h⟩, fun h => h.2⟩
  | k + 1, hk => by
    have ih := allR_pushT (R := R) (ts := ts) (As := As) (S := S) (fk := fk) (Φ := Φ) k (by omega)
    have hk' : k < ts.length := by omega
    rw [pushTo_moreT hk', pushFp_moreT hk']
    by_cases h0 : ts[k].kids.length = 0
    · rw [if_pos h0, if_pos h0, ih]
      refine and_congr_left fun _ => ⟨fun h j hj hlt hn => ?_, fun h j hj hlt hn => h j hj (by omega) hn⟩
      by_cases e : j = k
      · subst e; exact absurd h0 hn
      · exact h j hj (by omega) hn
    · rw [if_neg h0, if_neg h0]
      show R _ _ ∧ AllRT R _ _ ↔ _
      rw [ih]
      constructor
      · rintro ⟨h1, h2, h3⟩
        refine ⟨fun j hj hlt hn => ?_, h3⟩
        by_cases e : j = k
        · subst e; exact h1
        · exact h2 j hj (by omega) hn
      · rintro ⟨h1, h2⟩
        exact ⟨h1 k hk' (by omega) h0, fun j hj hlt hn => h1 j hj (by omega) hn, h2⟩
theorem allR_push_invT {R : List Ty × Value → List Nat → Prop} {ts : List Ty} {As : Nat → Value} {S : StkT} : ∀ {k} {Φ' : List (List Nat)}, k ≤ ts.length → AllRT R (pushToT ts As S k) Φ' → ∃ fk Φ, Φ' = pushFpT ts fk Φ k ∧ ∀ j, (∃ h : j < ts.length, ts[j].kids.length = 0) ∨ k ≤ j → fk j = []
  | 0, Φ', _, _ => ⟨fun _ => [], Φ', rfl, fun _ _ => rfl⟩
  | k + 1, Φ', hk, h => by
    have hk' : k < ts.length := by omega
    rw [pushTo_moreT hk'] at h
    by_cases h0 : ts[k].kids.length = 0
    · rw [if_pos h0] at h
      obtain ⟨fk, Φ, e, hn⟩ := allR_push_invT (by omega) h
      refine ⟨fk, Φ, by rw [pushFp_moreT hk', if_pos h0, e], fun j hj => hn j ?_⟩
      rcases hj with hj | hj
      · exact .inl hj
      · exact .inr (by omega)
    · rw [if_neg h0] at h
      match Φ', h with
      | fp :: Φ'', h =>
        obtain ⟨fk, Φ, e, hn⟩ := allR_push_invT (by omega) h.2
        have hcong : ∀ n, n ≤ k → pushFpT ts (fun j => if j = k then fp else fk j) Φ n = pushFpT ts fk Φ n := by
          intro n
          induction n with
          | zero => intro _; rfl
          | succ n ih =>
            intro hle
            rw [pushFp_moreT (by omega : n < ts.length), pushFp_moreT (by omega : n < ts.length), ih (by omega), if_neg (by omega : n ≠ k)]
        refine ⟨fun j => if j = k then fp else fk j, Φ, ?_, fun j hj => ?_⟩
        · rw [pushFp_moreT hk', if_neg h0, if_pos rfl, hcong k (Nat.le_refl _), e]
        · by_cases ej : j = k
          · subst ej
            rcases hj with ⟨_, hj⟩ | hj
            · exact absurd hj h0
            · omega
          · show (if j = k then fp else fk j) = []
            rw [if_neg ej]
            refine hn j (hj.imp id fun h => by omega)
/-- the blocks of a stack -/
theorem pushFp_flatT {ts : List Ty} {fk : Nat → List Nat} {Φ : List (List Nat)} : ∀ k, k ≤ ts.length → (pushFpT ts fk Φ k).flatten.Perm (((List.range k).flatMap fun j => if (ts[j]?.map fun t => t.kids.length) = some 0 then [] else fk j) ++ Φ.flatten)
  | 0, _ => by simp [pushFpT]
  | k + 1, hk => by
    have ih := pushFp_flatT (ts := ts) (fk := fk) (Φ := Φ) k (by omega)
    have hk' : k < ts.length := by omega
    rw [pushFp_moreT hk', List.range_succ, List.flatMap_append]
    simp only [List.flatMap_cons, List.flatMap_nil, List.append_nil, List.getElem?_eq_getElem hk', Option.map_some, Option.some.injEq]
    by_cases h0 : ts[k].kids.length = 0
    · rw [if_pos h0, if_pos h0, List.append_nil]; exact ih
    · rw [if_neg h0, if_neg h0, List.flatten_cons]
      refine (List.Perm.append_left _ ih).trans ?_
      rw [← List.append_assoc]
      exact List.Perm.append_right _ List.perm_append_comm
end Go.Proofs.Ytlcpekpgkllbkaa
