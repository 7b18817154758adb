/-
  Merged by program: SrtS.
-/
import Derived.Test.YtpcegakpdjmaaaaCC13

/-
  Bags sorted one by one, those within first: what is known of the lists that are still to be gone through, and what comes of it once their bags are sorted. Plain memory.
-/
namespace Go.Proofs.Ytpcegakpdjmaaaa
open Go.RowKit

theorem kid_size {t k : Va} (h : k ∈ t.kids) : k.size ≤ t.size := by
  cases t with
  | node a ks =>
    rw [size_nodeV]
    have h' : k ∈ ks := h
    have : k.size ≤ (ks.map Tr.size).sum := by
      clear h
      induction ks with
      | nil => cases h'
      | cons x xs ih =>
        rcases List.mem_cons.1 h' with rfl | h'
        · simp
        · have := ih h'; simp; omega
    omega
theorem kids_len (t : Va) : t.kids.length ≤ t.size := by
  cases t with
  | node a ks =>
    rw [size_nodeV]
    show ks.length ≤ _
    have : ks.length ≤ (ks.map Tr.size).sum := by
      induction ks with
      | nil => simp
      | cons x xs ih => have := size_ge x; simp; omega
    omega
theorem flat_disj {f : Nat → List Nat} {n i j b : Nat} (h : ((List.range n).flatMap f).Nodup) (hi : i < n) (hj : j < n) (hne : i ≠ j) (h1 : b ∈ f i) : b ∉ f j := by
  induction n with
  | zero => omega
  | succ n ih =>
    rw [List.range_succ, List.flatMap_append] at h
    simp only [List.flatMap_cons, List.flatMap_nil, List.append_nil] at h
    obtain ⟨h2, _, h3⟩ := List.nodup_append.1 h
    intro h4
    by_cases ei : i = n
    · subst ei
      exact h3 b (in_flat.2 ⟨j, by omega, h4⟩) b h1 rfl
    · by_cases ej : j = n
      · subst ej
        exact h3 b (in_flat.2 ⟨i, by omega, h1⟩) b h4 rfl
      · exact ih h2 (by omega) (by omega) h4

/-- the bags that are still to be sorted, the next one first -/
def FinV (fp0 : List Nat) (Post : World → Prop) : List Value → World → Prop
  | [], W => Post W
  | b :: B, W => ∃ ls fp, OVs W ls b fp ∧ (∀ x ∈ fp, x ∈ fp0) ∧ (∀ t ∈ ls, t.size ≤ 1048577) ∧ ls.length ≤ 1048577 ∧ ∀ W', OVs W' (sortV ls) b fp → Held (fun i => i ∈ fp0 ∧ i ∉ fp) W W' → FinV fp0 Post B W'
theorem FinV.held {fp0 : List Nat} {Post : World → Prop} (hP : ∀ W C, Post W → Held (fun i => i ∈ fp0) W C → Post C) {B : List Value} {W C : World} (h : FinV fp0 Post B W) (hH : Held (fun i => i ∈ fp0) W C) : FinV fp0 Post B C := by
  cases B with
  | nil => exact hP _ _ h hH
  | cons b B =>
    obtain ⟨ls, fp, h1, h2, h3, h4, h5⟩ := h
    exact ⟨ls, fp, h1.held hH h2, h2, h3, h4, fun W' k1 k2 => h5 W' k1 ((hH.mono fun i _ h => h.1).trans k2)⟩
/-- the bags among the first k nodes of a list -/
def bagsTo (ts : List Va) (As : Nat → Value) : Nat → List Value
  | 0 => []
  | k + 1 => bagsTo ts As k ++ (match ts[k]? with | some t => if t.top.kind = 4 then [As k] else [] | none => [])
theorem bagsTo_more {ts : List Va} {As : Nat → Value} {k : Nat} (hk : k < ts.length) : bagsTo ts As (k + 1) = bagsTo ts As k ++ (if ts[k].top.kind = 4 then [As k] else []) := by
  show bagsTo ts As k ++ (match ts[k]? with | some t => _ | none => _) = _
  rw [List.getElem?_eq_getElem hk]
theorem bagsTo_len (ts : List Va) (As : Nat → Value) : ∀ k, (bagsTo ts As k).length ≤ k
  | 0 => Nat.le_refl _
  | k + 1 => by
    have := bagsTo_len ts As k
    show (bagsTo ts As k ++ _).length ≤ _
    rw [List.length_append]
    split
    · split <;> simp <;> omega
    · simp; omega
/-- once the bags of all lists of the stack are sorted, those found before are to be -/
def SortK (Wb : World) (fp0 : List Nat) (Post : World → Prop) (S : Stk) (Φ : List (List Nat)) (B : List Value) : Prop :=
  ∀ W', Held (fun i => i ∈ fp0 ∧ i ∉ Φ.flatten) Wb W' → AllR (fun p fp => OVs W' (p.1.map canV) p.2 fp) S Φ → FinV fp0 Post B.reverse W'
def ColS (Wb : World) (fp0 : List Nat) (Post : World → Prop) (S : Stk) (B : List Value) : Prop :=
  (∀ p ∈ S, p.1.length ≤ 1048577 ∧ ∀ t ∈ p.1, t.size ≤ 1048577) ∧ ∃ Φ, AllR (fun p fp => OVs Wb p.1 p.2 fp) S Φ ∧ Φ.flatten.Nodup ∧ (∀ b ∈ Φ.flatten, b ∈ fp0) ∧ SortK Wb fp0 Post S Φ B
theorem col_done {Wb : World} {fp0 : List Nat} {Post : World → Prop} {B : List Value} (h : ColS Wb fp0 Post [] B) {W : World} (hW : Held (fun i => i ∈ fp0) Wb W) : FinV fp0 Post B.reverse W := by
  obtain ⟨_, Φ, h1, _, _, h4⟩ := h
  match Φ, h1 with
  | [], _ => exact h4 W (hW.mono fun i _ hi => hi.1) trivial
theorem canV_top (t : Va) : (canV t).top = t.top := by rw [canV_eq]; rfl
theorem canV_kids (t : Va) : (canV t).kids = kidsC t := by rw [canV_eq]; rfl

theorem col_next {Wb : World} {fp0 : List Nat} {Post : World → Prop} {ts : List Va} {s : Value} {S : Stk} {B : List Value} (h : ColS Wb fp0 Post ((ts, s) :: S) B) :
    ∃ A d xs As, s = .slice A ts.length d ∧ ts.length ≤ 1048577 ∧ Wb.ownsRow 0 30 4 (.slice A ts.length d) ts.length xs ∧ (∀ b ∈ blk A, b ∈ fp0) ∧ (∀ j t, ts[j]? = some t → ∃ L c A' c', As j = .slice A' t.kids.length c' ∧ part4 xs j = [.int .i64 t.top.kind, .int .i64 t.top.num, .slice L t.top.labels.length c, .slice A' t.kids.length c']) ∧
      ColS Wb fp0 Post (pushAll ts As S) (B ++ bagsTo ts As ts.length) := by
  obtain ⟨hsz, Φ', hA, hnd, hin, hK⟩ := h
  match Φ', hA with
  | fp :: Φ, hA =>
    obtain ⟨hov, hS⟩ := hA
    simp only at hov
    obtain ⟨A, d, xs, Ls, cs, As, fk, rfl, hl, hrow, hkid, hperm, hfnd⟩ := hov.open
    obtain ⟨hz1, hz2⟩ := hsz _ (List.mem_cons_self ..)
    simp only at hz1 hz2
    rw [List.flatten_cons] at hnd hin
    obtain ⟨_, hndΦ, hdis⟩ := List.nodup_append.1 hnd
    have hfp : ∀ b, b ∈ fp ↔ b ∈ blk A ∨ (b ∈ (List.range ts.length).flatMap fun j => blk (Ls j)) ∨ b ∈ (List.range ts.length).flatMap fk := fun b => by
      rw [← hperm.mem_iff, List.mem_append, (range_flat_app (fun j => blk (Ls j)) fk ts.length).mem_iff, List.mem_append]
    obtain ⟨ndA, ndF, disA⟩ := List.nodup_append.1 (hperm.nodup_iff.2 hfnd)
    obtain ⟨ndL, ndK, disL⟩ := List.nodup_append.1 ((range_flat_app (fun j => blk (Ls j)) fk ts.length).nodup_iff.1 ndF)
    have kfp : ∀ b ∈ (List.range ts.length).flatMap fk, b ∈ fp := fun b hb => (hfp b).2 (.inr (.inr hb))
    have Afp : ∀ b ∈ blk A, b ∈ fp ∧ b ∉ (List.range ts.length).flatMap fk := fun b hb => ⟨(hfp b).2 (.inl hb), fun h => disA b hb b ((range_flat_app _ _ _).mem_iff.2 (List.mem_append.2 (.inr h))) rfl⟩
    have Lfp : ∀ b ∈ (List.range ts.length).flatMap fun j => blk (Ls j), b ∈ fp ∧ b ∉ (List.range ts.length).flatMap fk := fun b hb => ⟨(hfp b).2 (.inr (.inl hb)), fun h => disL b hb b h rfl⟩
    have fΦ : ∀ b ∈ fp, b ∉ Φ.flatten := fun b hb h => hdis b hb b h rfl
    have f0 : ∀ b ∈ fp, b ∈ fp0 := fun b hb => hin b (List.mem_append.2 (.inl hb))
    have Φ0 : ∀ b ∈ Φ.flatten, b ∈ fp0 := fun b hb => hin b (List.mem_append.2 (.inr hb))
    have hcell : ∀ j t, ts[j]? = some t → ∃ A' c', As j = .slice A' t.kids.length c' := fun j t hj => by
      obtain ⟨_, _, _, A', c', _, _, e, _⟩ := hkid j t hj
      exact ⟨A', c', e⟩
    refine ⟨A, d, xs, As, rfl, hz1, hrow, fun b hb => f0 b (Afp b hb).1, fun j t hj => ?_, fun p hp => ?_, pushFp ts fk Φ ts.length, ?_, ?_, ?_, ?_⟩
    · obtain ⟨A', c', e⟩ := hcell j t hj
      exact ⟨Ls j, cs j, A', c', e, by rw [← e]; exact (hkid j t hj).1⟩
    · rcases mem_push hp with h | ⟨j, hj, _, rfl⟩
      · exact hsz p (List.mem_cons_of_mem _ h)
      · have h1 := hz2 _ (List.getElem_mem hj)
        exact ⟨Nat.le_trans (kids_len _) h1, fun t ht => Nat.le_trans (kid_size ht) h1⟩
    · exact (allR_push ts.length (Nat.le_refl _)).2 ⟨fun j hj _ _ => (hkid j _ (List.getElem?_eq_getElem hj)).2.2.2, hS⟩
    · have hp := pushFp_flat (ts := ts) (fk := fk) (Φ := Φ) ts.length (Nat.le_refl _)
      refine hp.nodup_iff.2 (List.nodup_append.2 ⟨?_, hndΦ, fun x hx y hy e => ?_⟩)
      · refine List.Nodup.sublist ?_ ndK
        have go : ∀ n, n ≤ ts.length → ((List.range n).flatMap fun j => if (ts[j]?.map fun t => t.kids.length) = some 0 then [] else fk j).Sublist ((List.range n).flatMap fk) := by
          intro n
          induction n with
          | zero => intro _; simp
          | succ n ih =>
            intro hn
            rw [List.range_succ, List.flatMap_append, List.flatMap_append]
            refine (ih (by omega)).append ?_
            simp only [List.flatMap_cons, List.flatMap_nil, List.append_nil]
            split
            · exact List.nil_sublist _
            · exact List.Sublist.refl _
        exact go _ (Nat.le_refl _)
      · obtain ⟨j, hj, hm⟩ := in_flat.1 hx
        split at hm
        · cases hm
        · exact fΦ x (kfp x (in_flat.2 ⟨j, hj, hm⟩)) (e ▸ hy)
    · intro b hb
      rcases List.mem_append.1 ((pushFp_flat (ts := ts) (fk := fk) (Φ := Φ) ts.length (Nat.le_refl _)).mem_iff.1 hb) with h | h
      · obtain ⟨j, hj, hm⟩ := in_flat.1 h
        split at hm
        · cases hm
        · exact f0 b (kfp b (in_flat.2 ⟨j, hj, hm⟩))
      · exact Φ0 b h
    · intro W' hH hA'
      obtain ⟨hk, hS'⟩ := (allR_push ts.length (Nat.le_refl _)).1 hA'
      have main : ∀ k, k ≤ ts.length → ∀ W3, (∀ j t, ts[j]? = some t → OVs W3 (if j < k then t.kids.map canV else kidsC t) (As j) (fk j)) → AllR (fun p fp => OVs W3 (p.1.map canV) p.2 fp) S Φ →
          Held (fun i => i ∈ fp0 ∧ i ∉ ((List.range ts.length).flatMap fk) ++ Φ.flatten) Wb W3 → FinV fp0 Post ((bagsTo ts As k).reverse ++ B.reverse) W3 := by
        intro k
        induction k with
        | zero =>
          intro _ W3 q1 q2 q3
          refine hK W3 (q3.mono fun i _ hi => ⟨hi.1, fun h => hi.2 ?_⟩) ⟨?_, q2⟩
          · rw [List.flatten_cons]
            rcases List.mem_append.1 h with h | h
            · exact List.mem_append.2 (.inl (kfp i h))
            · exact List.mem_append.2 (.inr h)
          · have hlen : (ts.map canV).length = ts.length := List.length_map ..
            have hr3 : W3.ownsRow 0 30 4 (.slice A ts.length d) ts.length xs := own_heldv hrow q3 fun b hb => ⟨f0 b (Afp b hb).1, fun h => (List.mem_append.1 h).elim (Afp b hb).2 (fΦ b (Afp b hb).1)⟩
            simp only
            rw [← hlen] at hr3 ⊢
            refine OVs.make (xs := xs) (Ls := Ls) (cs := cs) (As := As) (fk := fk) (by omega) hr3 (fun j u hj => ?_) (by rw [hlen]; exact hperm) hfnd
            · rw [List.getElem?_map] at hj
              obtain ⟨t, ht, rfl⟩ := Option.map_eq_some_iff.1 hj
              obtain ⟨e, ok, hlab, _⟩ := hkid j t ht
              have hjl := (List.getElem?_eq_some_iff.1 ht).1
              rw [canV_top, canV_kids]
              refine ⟨e, ok, own_heldv hlab q3 fun b hb => ?_, by have := q1 j t ht; rw [if_neg (Nat.not_lt_zero _)] at this; exact this⟩
              have hb' : b ∈ (List.range ts.length).flatMap fun j => blk (Ls j) := in_flat.2 ⟨j, hjl, hb⟩
              refine ⟨f0 b (Lfp b hb').1, fun h => ?_⟩
              rcases List.mem_append.1 h with h | h
              · exact (Lfp b hb').2 h
              · exact fΦ b (Lfp b hb').1 h
        | succ k ih =>
          intro hk1 W3 q1 q2 q3
          have hk2 : k < ts.length := by omega
          have hk3 := q1 k _ (List.getElem?_eq_getElem hk2)
          rw [if_pos (Nat.lt_succ_self k)] at hk3
          rw [bagsTo_more hk2]
          by_cases h4 : ts[k].top.kind = 4
          · rw [if_pos h4, List.reverse_append]
            have hfk : ∀ b ∈ fk k, b ∈ (List.range ts.length).flatMap fk := fun b hb => in_flat.2 ⟨k, hk2, hb⟩
            have hkz := hz2 _ (List.getElem_mem hk2)
            refine ⟨ts[k].kids.map canV, fk k, hk3, fun x hx => f0 x (kfp x (hfk x hx)), fun t ht => ?_, by rw [List.length_map]; exact Nat.le_trans (kids_len _) hkz, fun W4 r1 r2 => ih (by omega) W4 (fun j t hj => ?_) (q2.mono fun p fq hp hq hr => hr.held r2 fun b hb => ?_) (q3.trans (r2.mono fun i _ hi => ⟨hi.1, fun h => hi.2 (List.mem_append.2 (.inl (hfk i h)))⟩))⟩
            · obtain ⟨u, hu, rfl⟩ := List.mem_map.1 ht
              rw [canV_size]
              exact Nat.le_trans (kid_size hu) hkz
            · by_cases ej : j = k
              · subst ej
                rw [List.getElem?_eq_getElem hk2] at hj
                injection hj with hj
                subst hj
                rw [if_neg (Nat.lt_irrefl _)]
                unfold kidsC
                rw [if_pos h4]
                exact r1
              · have hjl := (List.getElem?_eq_some_iff.1 hj).1
                have := q1 j t hj
                have e : (if j < k then t.kids.map canV else kidsC t) = if j < k + 1 then t.kids.map canV else kidsC t := by
                  by_cases hjk : j < k
                  · rw [if_pos hjk, if_pos (by omega)]
                  · rw [if_neg hjk, if_neg (by omega)]
                rw [e]
                exact this.held r2 fun b hb => ⟨f0 b (kfp b (in_flat.2 ⟨j, hjl, hb⟩)), flat_disj ndK hjl hk2 ej hb⟩
            · have hb' : b ∈ Φ.flatten := List.mem_flatten.2 ⟨fq, hq, hb⟩
              exact ⟨Φ0 b hb', fun h => fΦ b (kfp b (hfk b h)) hb'⟩
          · rw [if_neg h4, List.append_nil]
            refine ih (by omega) W3 (fun j t hj => ?_) q2 q3
            have := q1 j t hj
            by_cases ej : j = k
            · subst ej
              rw [List.getElem?_eq_getElem hk2] at hj
              injection hj with hj
              subst hj
              rw [if_neg (Nat.lt_irrefl _)]
              unfold kidsC
              rw [if_neg h4]
              exact hk3
            · have e : (if j < k then t.kids.map canV else kidsC t) = if j < k + 1 then t.kids.map canV else kidsC t := by
                by_cases hjk : j < k
                · rw [if_pos hjk, if_pos (by omega)]
                · rw [if_neg hjk, if_neg (by omega)]
              rw [e]
              exact this
      rw [List.reverse_append]
      refine main ts.length (Nat.le_refl _) W' (fun j t hj => ?_) hS' (hH.mono fun i _ hi => ⟨hi.1, fun h => hi.2 ?_⟩)
      · have hjl := (List.getElem?_eq_some_iff.1 hj).1
        rw [if_pos hjl]
        by_cases h0 : t.kids.length = 0
        · have e : t.kids = [] := List.eq_nil_of_length_eq_zero h0
          have hov := (hkid j t hj).2.2.2
          rw [e] at hov ⊢
          refine hov.held hH fun b hb => ⟨f0 b (kfp b (in_flat.2 ⟨j, hjl, hb⟩)), fun h => ?_⟩
          rcases List.mem_append.1 ((pushFp_flat (ts := ts) (fk := fk) (Φ := Φ) ts.length (Nat.le_refl _)).mem_iff.1 h) with h | h
          · obtain ⟨i, hi, hm⟩ := in_flat.1 h
            split at hm
            · cases hm
            · rename_i hne
              by_cases ei : i = j
              · subst ei
                rw [hj, Option.map_some, h0] at hne
                exact hne rfl
              · exact flat_disj ndK hi hjl ei hm hb
          · exact fΦ b (kfp b (in_flat.2 ⟨j, hjl, hb⟩)) h
        · rw [List.getElem?_eq_getElem hjl] at hj
          injection hj with hj
          have := hk j hjl hjl (by rw [hj]; exact h0)
          rw [hj] at this
          exact this
      · rcases List.mem_append.1 ((pushFp_flat (ts := ts) (fk := fk) (Φ := Φ) ts.length (Nat.le_refl _)).mem_iff.1 h) with h | h
        · obtain ⟨i, hi, hm⟩ := in_flat.1 h
          split at hm
          · cases hm
          · exact List.mem_append.2 (.inl (in_flat.2 ⟨i, hi, hm⟩))
        · exact List.mem_append.2 (.inr h)
end Go.Proofs.Ytpcegakpdjmaaaa
