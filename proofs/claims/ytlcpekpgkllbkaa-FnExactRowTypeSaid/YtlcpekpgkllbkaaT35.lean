/-
  Merged by program: CopST.
-/
import Derived.Test.YtlcpekpgkllbkaaT34
import Derived.Test.YtlcpekpgkllbkaaT4

/-
  A value copied list by list: what is known of the lists that are still to be gone through, and what comes of it once they are. Plain memory.
-/
namespace Go.Proofs.Ytlcpekpgkllbkaa
open Go.RowKit

/-- the block of a slice -/
def rowBkT : Value → List Nat
  | .slice A _ _ => blk A
  | _ => []
def rowsST (S : StkT) : List Nat := S.flatMap fun p => rowBkT p.2
theorem rowsS_consT (p : List Ty × Value) (S : StkT) : rowsST (p :: S) = rowBkT p.2 ++ rowsST S := rfl
theorem rowsS_pushToT {ts : List Ty} {As : Nat → Value} {S : StkT} : ∀ k, k ≤ ts.length → (rowsST (pushToT ts As S k)).Perm (((List.range k).flatMap fun j => if (ts[j]?.map fun t => t.kids.length) = some 0 then [] else rowBkT (As j)) ++ rowsST S)
  | 0, _ => by simp [pushToT]
  | k + 1, hk => by
    have ih := rowsS_pushToT (ts := ts) (As := As) (S := S) k (by omega)
    have hk' : k < ts.length := by omega
    rw [pushTo_moreT hk', List.range_succ, List.flatMap_append]
    simp only [List.flatMap_cons, List.flatMap_nil, List.append_nil, List.getElem?_eq_getElem hk', Option.map_some, Option.some.injEq]
    by_cases h0 : ts[k].kids.length = 0
    · rw [if_pos h0, if_pos h0, List.append_nil]; exact ih
    · rw [if_neg h0, if_neg h0, rowsS_consT]
      refine (List.Perm.append_left _ ih).trans ?_
      rw [← List.append_assoc]
      exact List.Perm.append_right _ List.perm_append_comm
theorem flatMap_sameT {f g : Nat → List Nat} {n : Nat} (h : ∀ j, j < n → f j = g j) : (List.range n).flatMap f = (List.range n).flatMap g := by
  induction n with
  | zero => rfl
  | succ n ih =>
    rw [List.range_succ, List.flatMap_append, List.flatMap_append, ih fun j hj => h j (by omega)]
    simp [h n (by omega)]
theorem rowsS_pushT {ts : List Ty} {As : Nat → Value} {S : StkT} (h : ∀ j (hj : j < ts.length), ts[j].kids.length = 0 → rowBkT (As j) = []) : (rowsST (pushAllT ts As S)).Perm (((List.range ts.length).flatMap fun j => rowBkT (As j)) ++ rowsST S) := by
  have := rowsS_pushToT (ts := ts) (As := As) (S := S) ts.length (Nat.le_refl _)
  rw [flatMap_sameT (g := fun j => rowBkT (As j))] at this
  · exact this
  · intro j hj
    rw [List.getElem?_eq_getElem hj, Option.map_some]
    by_cases h0 : ts[j].kids.length = 0
    · rw [if_pos (by rw [h0]), h j hj h0]
    · rw [if_neg (by intro e; injection e with e; exact h0 e)]
theorem pushFp_pushT {ts : List Ty} {fk : Nat → List Nat} {Φ : List (List Nat)} (h : ∀ j (hj : j < ts.length), ts[j].kids.length = 0 → fk j = []) : (pushFpT ts fk Φ ts.length).flatten.Perm (((List.range ts.length).flatMap fk) ++ Φ.flatten) := by
  have := pushFp_flatT (ts := ts) (fk := fk) (Φ := Φ) ts.length (Nat.le_refl _)
  rw [flatMap_sameT (g := fk)] at this
  · exact this
  · intro j hj
    rw [List.getElem?_eq_getElem hj, Option.map_some]
    by_cases h0 : ts[j].kids.length = 0
    · rw [if_pos (by rw [h0]), h j hj h0]
    · rw [if_neg (by intro e; injection e with e; exact h0 e)]
theorem mem_pushT {ts : List Ty} {As : Nat → Value} {S : StkT} {p : List Ty × Value} (h : p ∈ pushAllT ts As S) : p ∈ S ∨ ∃ j, ∃ h : j < ts.length, ts[j].kids.length ≠ 0 ∧ p = (ts[j].kids, As j) := by
  have go : ∀ k, k ≤ ts.length → p ∈ pushToT ts As S k → p ∈ S ∨ ∃ j, ∃ h : j < ts.length, ts[j].kids.length ≠ 0 ∧ p = (ts[j].kids, As j) := by
    intro k
    induction k with
    | zero => intro _ h; exact .inl h
    | succ k ih =>
      intro hk h
      rw [pushTo_moreT (by omega)] at h
      split at h
      · exact ih (by omega) h
      · rename_i h0
        rcases List.mem_cons.1 h with h | h
        · exact .inr ⟨k, by omega, h0, h⟩
        · exact ih (by omega) h
  exact go _ (Nat.le_refl _) h
theorem in_flatT {f : Nat → List Nat} {n b : Nat} : b ∈ (List.range n).flatMap f ↔ ∃ j, j < n ∧ b ∈ f j := by
  simp only [List.mem_flatMap, List.mem_range]

/-- a list in a row of the call's own whose nodes' labels and parts are read in the old world -/
def ListCT (w W : World) (p : List Ty × Value) : Prop :=
  ∃ A d xs, p.2 = .slice A p.1.length d ∧ p.1.length ≤ 1048577 ∧ W.ownsRow 0 36 3 p.2 p.1.length xs ∧ ∀ j t, p.1[j]? = some t → RTy w t (part3 xs j) ∧ wt t ≤ 1048576
theorem ListCT.held {w W W' : World} {p : List Ty × Value} {K : Nat → Prop} (h : ListCT w W p) (hH : Held K W W') (hK : ∀ b ∈ rowBkT p.2, K b) : ListCT w W' p := by
  obtain ⟨A, d, xs, e, k1, k2, k3⟩ := h
  refine ⟨A, d, xs, e, k1, ?_, k3⟩
  rw [e] at k2 hK ⊢
  exact own_heldt k2 hH hK
/-- once all lists of the stack are whole, all is -/
def CopyKvT (t : List Ty) (s0 : Value) (S : StkT) (F : Nat → Prop) (W : World) : Prop :=
  ∀ (W' : World) (Φ : List (List Nat)), Held (fun i => F i ∧ i ∉ rowsST S) W W' → AllRT (fun p fp => OTs W' p.1 p.2 fp) S Φ → Φ.flatten.Nodup → (∀ b ∈ Φ.flatten, b ∈ rowsST S ∨ W.heap.size ≤ b) → ∃ fp, OTs W' t s0 fp ∧ ∀ b ∈ fp, F b ∨ b ∈ Φ.flatten
structure CopyIT (w : World) (t : List Ty) (s0 : Value) (S : StkT) (F : Nat → Prop) (W : World) : Prop where
  bel : Below w.heap.size w W
  fr : ∀ b, F b → w.heap.size ≤ b ∧ b < W.heap.size
  lst : ∀ p ∈ S, ListCT w W p
  ne : ∀ p ∈ S, 0 < p.1.length ∨ p = ([], .slice none 0 0)
  nd : (rowsST S).Nodup
  own : ∀ b ∈ rowsST S, F b
  fin : CopyKvT t s0 S F W
theorem CopyIT.keep {w : World} {t : List Ty} {s0 : Value} {S : StkT} {F : Nat → Prop} {lo : Nat} {A B : World} (hlo : w.heap.size ≤ lo) (h : CopyIT w t s0 S F A) (hH : Held (fun i => i < lo ∨ F i) A B) : CopyIT w t s0 S F B where
  bel := h.bel.trans (hH.below h.bel.size fun i hi => .inl (by omega))
  fr := fun b hb => ⟨(h.fr b hb).1, Nat.lt_of_lt_of_le (h.fr b hb).2 hH.size⟩
  lst := fun p hp => (h.lst p hp).held hH fun b hb => .inr (h.own b (List.mem_flatMap.2 ⟨p, hp, hb⟩))
  ne := h.ne
  nd := h.nd
  own := h.own
  fin := fun W' Φ hH' hA hnd hin => h.fin W' Φ ((hH.mono fun i _ hi => .inr hi.1).trans hH') hA hnd fun b hb => (hin b hb).imp id fun h => Nat.le_trans hH.size h
theorem CopyIT.done {w : World} {t : List Ty} {s0 : Value} {F : Nat → Prop} {W : World} (h : CopyIT w t s0 [] F W) : ∃ fp, OTs W t s0 fp ∧ ∀ b ∈ fp, F b := by
  obtain ⟨fp, h1, h2⟩ := h.fin W [] (Held.refl _ _) trivial (by simp) (by simp)
  exact ⟨fp, h1, fun b hb => (h2 b hb).resolve_right (by simp)⟩

/-- an empty list is gone through -/
theorem copy_noneT {w W : World} {t0 : List Ty} {s0 : Value} {S : StkT} {F : Nat → Prop} (hI : CopyIT w t0 s0 (([], .slice none 0 0) :: S) F W) : CopyIT w t0 s0 S F W where
  bel := hI.bel
  fr := hI.fr
  lst := fun p hp => hI.lst p (List.mem_cons_of_mem _ hp)
  ne := fun p hp => hI.ne p (List.mem_cons_of_mem _ hp)
  nd := by have := hI.nd; rw [rowsS_consT] at this; exact (List.nodup_append.1 this).2.1
  own := fun b hb => hI.own b (by rw [rowsS_consT]; exact List.mem_append.2 (.inr hb))
  fin := fun W' Φ hH hA hnd hin => by
    obtain ⟨fp, h1, h2⟩ := hI.fin W' ([] :: Φ) (hH.mono fun i _ hi => ⟨hi.1, fun h => hi.2 (by rw [rowsS_consT]; exact List.mem_append.2 (.inr h))⟩) ⟨OTs.nil W', hA⟩ (by simpa using hnd) (fun b hb => by
      rcases hin b (by simpa using hb) with h | h
      · exact .inl (by rw [rowsS_consT]; exact List.mem_append.2 (.inr h))
      · exact .inr h)
    exact ⟨fp, h1, fun b hb => by simpa using h2 b hb⟩

theorem copy_nextT {w W W2 : World} {t0 : List Ty} {s0 : Value} {ts : List Ty} {g cap lo : Nat} {S : StkT} {F : Nat → Prop} (hI : CopyIT w t0 s0 ((ts, .slice (some ⟨g, 0, none⟩) ts.length cap) :: S) F W)
    {ys : List Value} {Ls : Nat → Option Addr} {cs : Nat → Nat} {As : Nat → Value} (h1 : ts.length ≤ 1048577) (h2 : W2.ownsRow 0 36 3 (.slice (some ⟨g, 0, none⟩) ts.length cap) ts.length ys)
    (h3 : ∀ j t, ts[j]? = some t → part3 ys j = [.int .i64 t.top.kind, .slice (Ls j) t.top.labels.length (cs j), As j] ∧ t.top.ok ∧ W2.ownsRow 0 9 1 (.slice (Ls j) t.top.labels.length (cs j)) t.top.labels.length (t.top.labels.map Value.string) ∧ ListCT w W2 (t.kids, As j) ∧ (t.kids.length = 0 → As j = .slice none 0 0))
    (h4 : ((List.range ts.length).flatMap fun j => blk (Ls j) ++ rowBkT (As j)).Nodup) (h5 : ∀ b ∈ (List.range ts.length).flatMap fun j => blk (Ls j) ++ rowBkT (As j), W.heap.size ≤ b ∧ b < W2.heap.size) (h6 : Held (fun i => i ≠ g) W W2) :
    Held (fun i => ¬ F i) W W2 ∧ ∃ F', (∀ b, F' b → F b ∨ W.heap.size ≤ b) ∧ RowCT lo F' W2 (.slice (some ⟨g, 0, none⟩) ts.length cap) ts As ∧ CopyIT w t0 s0 (pushAllT ts As S) F' W2 := by
  have hgS : g ∈ rowsST ((ts, .slice (some ⟨g, 0, none⟩) ts.length cap) :: S) := by rw [rowsS_consT]; exact List.mem_append.2 (.inl (by simp [rowBkT, blk]))
  have hgF : F g := hI.own g hgS
  have hgl := (hI.fr g hgF).2
  have hsz := h6.size
  have hndS := hI.nd
  rw [rowsS_consT] at hndS
  obtain ⟨_, hndS, hdis⟩ := List.nodup_append.1 hndS
  have hgn : g ∉ rowsST S := fun h => hdis g (by simp [rowBkT, blk]) g h rfl
  have hSF : ∀ b ∈ rowsST S, F b := fun b hb => hI.own b (by rw [rowsS_consT]; exact List.mem_append.2 (.inr hb))
  have hz : ∀ j (hj : j < ts.length), ts[j].kids.length = 0 → rowBkT (As j) = [] := fun j hj h0 => by
    rw [(h3 j _ (List.getElem?_eq_getElem hj)).2.2.2.2 h0]; rfl
  have hpr := rowsS_pushT (S := S) hz
  obtain ⟨ndL, ndA, disLA⟩ := List.nodup_append.1 ((range_flat_appT (fun j => blk (Ls j)) (fun j => rowBkT (As j)) ts.length).nodup_iff.1 h4)
  have bL : ∀ b ∈ (List.range ts.length).flatMap fun j => blk (Ls j), W.heap.size ≤ b ∧ b < W2.heap.size := fun b hb => h5 b ((range_flat_appT _ _ _).mem_iff.2 (List.mem_append.2 (.inl hb)))
  have bA : ∀ b ∈ (List.range ts.length).flatMap fun j => rowBkT (As j), W.heap.size ≤ b ∧ b < W2.heap.size := fun b hb => h5 b ((range_flat_appT _ _ _).mem_iff.2 (List.mem_append.2 (.inr hb)))
  have inP : ∀ b, b ∈ rowsST (pushAllT ts As S) ↔ b ∈ ((List.range ts.length).flatMap fun j => rowBkT (As j)) ∨ b ∈ rowsST S := fun b => by rw [hpr.mem_iff, List.mem_append]
  refine ⟨h6.mono fun i _ hi e => hi (e ▸ hgF), fun b => F b ∨ b ∈ (List.range ts.length).flatMap fun j => blk (Ls j) ++ rowBkT (As j), fun b hb => hb.imp id fun h => (h5 b h).1, ?_, ?_⟩
  · refine ⟨_, _, rfl, by omega, fun j t hj => ?_⟩
    obtain ⟨e, _, _, hc, _⟩ := h3 j t hj
    obtain ⟨A', d', _, hA', _⟩ := hc
    have hx : ys.length = ts.length * 3 := h2.1
    have hjl := (List.getElem?_eq_some_iff.1 hj).1
    have cell : ∀ i u, i < 3 → (part3 ys j)[i]? = some u → W2.cell? ((⟨g, 0, none⟩ : Addr).add (j * 3 + i)) = some u := fun i u hi hu => by
      rw [part3_get _ _ _ hi] at hu
      exact h2.cells (g := g) rfl _ u hu
    rw [e] at cell
    simp only at hA'
    exact ⟨_, _, _, _, _, A', d', rfl, .inr (.inl hgF), hA', cell 0 _ (by omega) rfl, cell 1 _ (by omega) rfl, cell 2 _ (by omega) rfl⟩
  · refine ⟨hI.bel.trans (h6.below hI.bel.size fun i hi => by show i ≠ g; have := (hI.fr g hgF).1; omega), fun b hb => ?_, fun p hp => ?_, fun p hp => ?_, ?_, fun b hb => ?_, ?_⟩
    · rcases hb with hb | hb
      · have := hI.fr b hb; exact ⟨this.1, by omega⟩
      · have := h5 b hb; exact ⟨Nat.le_trans hI.bel.size this.1, this.2⟩
    · rcases mem_pushT hp with h | ⟨j, hj, _, rfl⟩
      · refine (hI.lst p (List.mem_cons_of_mem _ h)).held h6 fun b hb e => ?_
        exact hgn (e ▸ List.mem_flatMap.2 ⟨p, h, hb⟩)
      · exact (h3 j _ (List.getElem?_eq_getElem hj)).2.2.2.1
    · rcases mem_pushT hp with h | ⟨j, hj, h0, rfl⟩
      · exact hI.ne p (List.mem_cons_of_mem _ h)
      · refine .inl ?_
        show 0 < ts[j].kids.length
        omega
    · refine hpr.nodup_iff.2 (List.nodup_append.2 ⟨ndA, hndS, fun x hx y hy e => ?_⟩)
      have h7 := bA x hx
      have h8 := (hI.fr y (hSF y hy)).2
      omega
    · rcases (inP b).1 hb with h | h
      · exact .inr ((range_flat_appT _ _ _).mem_iff.2 (List.mem_append.2 (.inr h)))
      · exact .inl (hSF b h)
    · intro W' Φ' hH hA hnd hin
      obtain ⟨fk, Φ, rfl, hfz⟩ := allR_push_invT (Nat.le_refl _) hA
      obtain ⟨hk, hS⟩ := (allR_pushT ts.length (Nat.le_refl _)).1 hA
      have hfl := pushFp_pushT (Φ := Φ) (fk := fk) (ts := ts) fun j hj h0 => hfz j (.inl ⟨hj, h0⟩)
      have hndf := hfl.nodup_iff.1 hnd
      have hin' : ∀ b ∈ ((List.range ts.length).flatMap fk) ++ Φ.flatten, (b ∈ ((List.range ts.length).flatMap fun j => rowBkT (As j)) ∨ b ∈ rowsST S) ∨ W2.heap.size ≤ b := fun b hb => (hin b (hfl.mem_iff.2 hb)).imp (inP b).1 id
      have notP : ∀ b, (b ∈ (List.range ts.length).flatMap fun j => blk (Ls j)) → b ∉ rowsST (pushAllT ts As S) := fun b hb h => by
        rcases (inP b).1 h with h | h
        · exact disLA b hb b h rfl
        · have := bL b hb; have := (hI.fr b (hSF b h)).2; omega
      have gP : g ∉ rowsST (pushAllT ts As S) := fun h => by
        rcases (inP g).1 h with h | h
        · have := bA g h; omega
        · exact hgn h
      have hnd0 : ((blk (some (⟨g, 0, none⟩ : Addr)) ++ (List.range ts.length).flatMap fun j => blk (Ls j) ++ fk j) ++ Φ.flatten).Nodup := by
        have hp : ((blk (some (⟨g, 0, none⟩ : Addr)) ++ (List.range ts.length).flatMap fun j => blk (Ls j) ++ fk j) ++ Φ.flatten).Perm ([g] ++ (((List.range ts.length).flatMap fun j => blk (Ls j)) ++ (((List.range ts.length).flatMap fk) ++ Φ.flatten))) := by
          rw [List.append_assoc]
          refine List.Perm.append_left _ ?_
          rw [← List.append_assoc]
          exact List.Perm.append_right _ (range_flat_appT _ _ _)
        refine hp.nodup_iff.2 (List.nodup_append.2 ⟨by simp, List.nodup_append.2 ⟨ndL, hndf, fun x hx y hy e => ?_⟩, fun x hx y hy e => ?_⟩)
        · subst e
          have h7 := bL x hx
          rcases hin' x hy with (h | h) | h
          · exact disLA x hx x h rfl
          · have := (hI.fr x (hSF x h)).2; omega
          · omega
        · subst e
          have e : x = g := by simpa using hx
          subst e
          rcases List.mem_append.1 hy with h | h
          · have := bL x h; omega
          · rcases hin' x h with (h | h) | h
            · have := bA x h; omega
            · exact hgn h
            · omega
      have hnd1 := (List.nodup_append.1 hnd0).1
      have hOV : OTs W' ts (.slice (some ⟨g, 0, none⟩) ts.length cap) (blk (some (⟨g, 0, none⟩ : Addr)) ++ (List.range ts.length).flatMap fun j => blk (Ls j) ++ fk j) := by
        refine OTs.make (xs := ys) (Ls := Ls) (cs := cs) (As := As) (fk := fk) (by omega) (own_heldt h2 hH fun b hb => ?_) (fun j t hj => ?_) (List.Perm.refl _) hnd1
        · have e : b = g := by simpa [blk] using hb
          subst e
          exact ⟨.inl hgF, gP⟩
        · obtain ⟨e, ok, hlab, _, hnil⟩ := h3 j t hj
          have hjl := (List.getElem?_eq_some_iff.1 hj).1
          refine ⟨e, ok, own_heldt hlab hH fun b hb => ?_, ?_⟩
          · have hb' : b ∈ (List.range ts.length).flatMap fun j => blk (Ls j) := in_flatT.2 ⟨j, hjl, hb⟩
            exact ⟨.inr ((range_flat_appT _ _ _).mem_iff.2 (List.mem_append.2 (.inl hb'))), notP b hb'⟩
          · rw [List.getElem?_eq_getElem hjl] at hj
            injection hj with hj
            by_cases h0 : t.kids.length = 0
            · rw [hnil h0, hfz j (.inl ⟨hjl, by rw [hj]; exact h0⟩), List.eq_nil_of_length_eq_zero h0]
              exact OTs.nil W'
            · have := hk j hjl hjl (by rw [hj]; exact h0)
              rw [hj] at this
              exact this
      have hH0 : Held (fun i => F i ∧ i ∉ rowsST ((ts, .slice (some ⟨g, 0, none⟩) ts.length cap) :: S)) W W' := by
        refine (h6.mono fun i _ hi e => hi.2 (e ▸ hgS)).trans (hH.mono fun i hi hF => ⟨.inl hF.1, fun h => ?_⟩)
        rcases (inP i).1 h with h | h
        · have := bA i h; have := (hI.fr i hF.1).2; omega
        · exact hF.2 (by rw [rowsS_consT]; exact List.mem_append.2 (.inr h))
      have hin0 : ∀ b ∈ (((blk (some (⟨g, 0, none⟩ : Addr)) ++ (List.range ts.length).flatMap fun j => blk (Ls j) ++ fk j) :: Φ) : List (List Nat)).flatten, b ∈ rowsST ((ts, .slice (some ⟨g, 0, none⟩) ts.length cap) :: S) ∨ W.heap.size ≤ b := by
        intro b hb
        rw [List.flatten_cons, List.mem_append, List.mem_append] at hb
        rcases hb with (h | h) | h
        · have e : b = g := by simpa [blk] using h
          exact .inl (e ▸ hgS)
        · rcases List.mem_append.1 ((range_flat_appT _ _ _).mem_iff.1 h) with h | h
          · exact .inr (bL b h).1
          · rcases hin' b (List.mem_append.2 (.inl h)) with (h | h) | h
            · exact .inr (bA b h).1
            · exact .inl (by rw [rowsS_consT]; exact List.mem_append.2 (.inr h))
            · exact .inr (by omega)
        · rcases hin' b (List.mem_append.2 (.inr h)) with (h | h) | h
          · exact .inr (bA b h).1
          · exact .inl (by rw [rowsS_consT]; exact List.mem_append.2 (.inr h))
          · exact .inr (by omega)
      obtain ⟨fp, f1, f2⟩ := hI.fin W' ((blk (some (⟨g, 0, none⟩ : Addr)) ++ (List.range ts.length).flatMap fun j => blk (Ls j) ++ fk j) :: Φ) hH0 ⟨hOV, hS⟩ (by rw [List.flatten_cons]; exact hnd0) hin0
      refine ⟨fp, f1, fun b hb => ?_⟩
      rcases f2 b hb with h | h
      · exact .inl (.inl h)
      · rw [List.flatten_cons, List.mem_append, List.mem_append] at h
        rcases h with (h | h) | h
        · have e : b = g := by simpa [blk] using h
          exact .inl (.inl (e ▸ hgF))
        · rcases List.mem_append.1 ((range_flat_appT _ _ _).mem_iff.1 h) with h | h
          · exact .inl (.inr ((range_flat_appT _ _ _).mem_iff.2 (List.mem_append.2 (.inl h))))
          · exact .inr (hfl.mem_iff.2 (List.mem_append.2 (.inl h)))
        · exact .inr (hfl.mem_iff.2 (List.mem_append.2 (.inr h)))
end Go.Proofs.Ytlcpekpgkllbkaa
