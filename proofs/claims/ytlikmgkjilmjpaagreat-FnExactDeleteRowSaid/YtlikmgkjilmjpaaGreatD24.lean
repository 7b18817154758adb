/-
  Merged by program: KdSet, DelD, DelM.
-/
import Derived.Test.YtlikmgkjilmjpaaGreatD8
import Derived.Test.YtlikmgkjilmjpaaGreatD23
import Derived.Test.YtlikmgkjilmjpaaGreatD16

/-
  An own list of a kind: one element replaced; its cells cut short. Hangs on no program.
-/
namespace Go.Proofs.YtlikmgkjilmjpaaGreat
open Go.RowKit
section
variable {α : Type}
theorem flat_dis {n : Nat} {fs : Nat → List Nat} (h : ((List.range n).flatMap fs).Nodup) {i k : Nat} (hi : i < n) (hk : k < n) (hne : i ≠ k) : ∀ p ∈ fs i, p ∉ fs k := by
  have hP := (List.pairwise_flatMap.1 h).2
  rw [List.pairwise_iff_getElem] at hP
  intro p hp hq
  rcases Nat.lt_or_gt_of_ne hne with hlt | hlt
  · have := hP i k (by simpa using hi) (by simpa using hk) hlt p (by simpa using hp) p (by simpa using hq)
    exact this rfl
  · have := hP k i (by simpa using hk) (by simpa using hi) hlt p (by simpa using hq) p (by simpa using hp)
    exact this rfl
theorem flat_set {n j : Nat} {fs : Nat → List Nat} {fx : List Nat} (h : ((List.range n).flatMap fs).Nodup) (hj : j < n) (hx : fx.Nodup) (hfx : ∀ b ∈ fx, b ∈ fs j ∨ b ∉ (List.range n).flatMap fs) : ((List.range n).flatMap (fun i => if i = j then fx else fs i)).Nodup := by
  have hP := List.pairwise_flatMap.1 h
  have hd : ∀ i, i < n → i ≠ j → ∀ p ∈ fx, p ∉ fs i := fun i hi hne p hp hq => by
    rcases hfx p hp with h1 | h1
    · exact flat_dis h hi hj hne p hq h1
    · exact h1 (List.mem_flatMap.2 ⟨i, List.mem_range.2 hi, hq⟩)
  refine List.pairwise_flatMap.2 ⟨fun i hi => ?_, ?_⟩
  · by_cases e : i = j
    · simp only [e, if_true]; exact hx
    · simp only [e, if_false]; exact hP.1 i hi
  · rw [List.pairwise_iff_getElem]
    intro i k hi hk hik p hp q hq e1
    subst e1
    have hi' : i < n := by simpa using hi
    have hk' : k < n := by simpa using hk
    rw [List.getElem_range] at hp hq
    by_cases e : i = j
    · have ek : k ≠ j := by omega
      simp only [e, if_true] at hp
      simp only [ek, if_false] at hq
      exact hd k hk' ek p hp hq
    · simp only [e, if_false] at hp
      by_cases ek : k = j
      · simp only [ek, if_true] at hq
        exact hd i hi' e p hq hp
      · simp only [ek, if_false] at hq
        exact flat_dis h hi' hk' (by omega) p hp hq
/-- one element replaced: what lies in the others is kept, the new one lies in blocks of the old one or in new ones -/
theorem olc_set {a : Kd α} {e : TypeId} {w w' : World} {xs : List α} {x : α} {A : Option Addr} {d j : Nat} {cells cells' rs : List Value} {fs : Nat → List Nat} {fp fx : List Nat} (h : OLc a e w xs A d cells fs fp) (hj : j < xs.length)
    (hrow : w'.ownsRow 0 e a.n (.slice A xs.length d) xs.length cells') (hpj : partK a.n cells' j = rs) (hpo : ∀ i, i ≠ j → partK a.n cells' i = partK a.n cells i)
    (hx : a.O w' x rs fx) (hfx : ∀ b ∈ fx, b ∈ fs j ∨ b ∉ fp) (hH : Held (fun b => b ∉ blk A ∧ b ∉ fs j) w w') :
    ∃ fp', OLc a e w' (xs.set j x) A d cells' (fun i => if i = j then fx else fs i) fp' ∧ ∀ b ∈ fp', b ∈ fp ∨ b ∈ fx := by
  obtain ⟨h1, h2, h3, rfl, h5⟩ := h
  obtain ⟨nA, nF, dAF⟩ := List.nodup_append.1 h5
  have hfj : ∀ i, i < xs.length → ∀ b ∈ fs i, b ∈ (List.range xs.length).flatMap fs := fun i hi b hm => List.mem_flatMap.2 ⟨i, List.mem_range.2 hi, hm⟩
  refine ⟨blk A ++ (List.range xs.length).flatMap (fun i => if i = j then fx else fs i), ⟨by rw [List.length_set]; exact h1, by rw [List.length_set]; exact hrow, fun i y hi => ?_, by rw [List.length_set], ?_⟩, ?_⟩
  · have hil : i < xs.length := by have := (List.getElem?_eq_some_iff.1 hi).1; rwa [List.length_set] at this
    by_cases ei : i = j
    · subst ei
      rw [List.getElem?_set_self hj] at hi
      injection hi with hi
      subst hi
      show a.O _ _ _ (if i = i then fx else fs i)
      rw [if_pos rfl, hpj]
      exact hx
    · rw [List.getElem?_set_ne (fun h => ei h.symm)] at hi
      show a.O _ _ _ (if i = j then fx else fs i)
      rw [if_neg ei, hpo i ei]
      exact a.held (h3 i y hi) hH fun b hb => ⟨fun hA => dAF b hA b (hfj i hil b hb) rfl, fun hF => flat_dis nF hil hj ei b hb hF⟩
  · refine List.nodup_append.2 ⟨nA, flat_set nF hj (a.nodup hx) (fun b hb => ?_), fun p hp q hq e1 => ?_⟩
    · rcases hfx b hb with h | h
      · exact .inl h
      · exact .inr fun h' => h (List.mem_append.2 (.inr h'))
    · subst e1
      obtain ⟨i, hi, hm⟩ := List.mem_flatMap.1 hq
      have hil := List.mem_range.1 hi
      by_cases ei : i = j
      · simp only [ei, if_true] at hm
        rcases hfx p hm with h | h
        · exact dAF p hp p (hfj j hj p h) rfl
        · exact h (List.mem_append.2 (.inl hp))
      · simp only [ei, if_false] at hm
        exact dAF p hp p (hfj i hil p hm) rfl
  · intro b hb
    rcases List.mem_append.1 hb with h | h
    · exact .inl (List.mem_append.2 (.inl h))
    · obtain ⟨i, hi, hm⟩ := List.mem_flatMap.1 h
      have hil := List.mem_range.1 hi
      by_cases ei : i = j
      · simp only [ei, if_true] at hm
        exact .inr hm
      · simp only [ei, if_false] at hm
        exact .inl (List.mem_append.2 (.inr (hfj i hil b hm)))
theorem own_cut {w : World} {base size n c : Nat} {e : TypeId} {A : Option Addr} {cells : List Value} (h : w.ownsRow base e size (.slice A n c) n cells) {k : Nat} (hk : k ≤ n) : w.ownsRow base e size (.slice A k c) k (cells.take (k * size)) := by
  obtain ⟨h1, h2⟩ := h
  have hm := Nat.mul_le_mul_right size hk
  refine ⟨by rw [List.length_take]; omega, ?_⟩
  rcases h2 with ⟨h0, hn⟩ | ⟨g, cap, cur, hv, hg, hh, hn, hcap, hsz, htake⟩
  · cases h0
    obtain rfl : k = 0 := by omega
    exact .inl ⟨rfl, rfl⟩
  · cases hv
    refine .inr ⟨g, c, cur, rfl, hg, hh, by omega, hcap, hsz, ?_⟩
    rw [← htake, List.take_take, Nat.min_eq_left hm]
theorem del_get {β : Type} {xs : List β} {k : Nat} (hk : k < xs.length) (i : Nat) : (xs.take k ++ xs.drop (k + 1))[i]? = xs[if i < k then i else i + 1]? := by
  have hl : (xs.take k).length = k := by rw [List.length_take]; omega
  by_cases h : i < k
  · rw [List.getElem?_append_left (by omega), if_pos h, List.getElem?_take_of_lt h]
  · rw [List.getElem?_append_right (by omega), if_neg h, List.getElem?_drop, hl]
    congr 1
    omega
theorem partK_del {β : Type} {n m k : Nat} {cells : List β} (hl : cells.length = m * n) (hk : k < m) (i : Nat) : partK n (cells.take (k * n) ++ cells.drop ((k + 1) * n)) i = partK n cells (if i < k then i else i + 1) := by
  have hkm : k * n + n ≤ m * n := by
    have := Nat.mul_le_mul_right n (show k + 1 ≤ m from hk)
    rwa [Nat.succ_mul] at this
  have hl1 : (cells.take (k * n)).length = k * n := by rw [List.length_take]; omega
  apply List.ext_getElem?
  intro q
  by_cases hq : q < n
  · rw [partK_get _ _ _ _ hq, partK_get _ _ _ _ hq]
    by_cases h : i < k
    · have : i * n + n ≤ k * n := by
        have := Nat.mul_le_mul_right n (show i + 1 ≤ k from h)
        rwa [Nat.succ_mul] at this
      rw [List.getElem?_append_left (by omega), if_pos h, List.getElem?_take_of_lt (by omega)]
    · have : k * n ≤ i * n := Nat.mul_le_mul_right n (by omega)
      rw [List.getElem?_append_right (by omega), if_neg h, List.getElem?_drop, hl1]
      congr 1
      rw [Nat.succ_mul, Nat.succ_mul]
      omega
  · unfold partK
    rw [List.getElem?_take_eq_none (by omega), List.getElem?_take_eq_none (by omega)]
/-- one element taken out -/
theorem olc_del {a : Kd α} {e : TypeId} {w w' : World} {xs : List α} {A A' : Option Addr} {d d' k base : Nat} {cells : List Value} {fs : Nat → List Nat} {fp : List Nat} (h : OLc a e w xs A d cells fs fp) (hk : k < xs.length)
    (hown : w'.ownsRow base e a.n (.slice A' (k + (xs.length - (k + 1))) d') (k + (xs.length - (k + 1))) (cells.take (k * a.n) ++ cells.drop ((k + 1) * a.n))) (hH : Held (fun b => b ∉ blk A) w w') (hA' : ∀ b ∈ blk A', b ∈ blk A ∨ b ∉ fp) :
    ∃ fs' fp', OLc a e w' (xs.take k ++ xs.drop (k + 1)) A' d' (cells.take (k * a.n) ++ cells.drop ((k + 1) * a.n)) fs' fp' ∧ ∀ b ∈ fp', b ∈ fp ∨ b ∈ blk A' := by
  obtain ⟨h1, h2, h3, rfl, h5⟩ := h
  obtain ⟨nA, nF, dAF⟩ := List.nodup_append.1 h5
  have hl : (xs.take k ++ xs.drop (k + 1)).length = k + (xs.length - (k + 1)) := by rw [List.length_append, List.length_take, List.length_drop]; omega
  have hcl : cells.length = xs.length * a.n := h2.1
  have hfj : ∀ i, i < xs.length → ∀ b ∈ fs i, b ∈ (List.range xs.length).flatMap fs := fun i hi b hm => List.mem_flatMap.2 ⟨i, List.mem_range.2 hi, hm⟩
  have hP := (List.pairwise_flatMap.1 nF).1
  have hsh : ∀ i, i < k + (xs.length - (k + 1)) → (if i < k then i else i + 1) < xs.length := fun i hi => by split <;> omega
  refine ⟨fun i => fs (if i < k then i else i + 1), blk A' ++ (List.range (k + (xs.length - (k + 1)))).flatMap (fun i => fs (if i < k then i else i + 1)), ⟨by rw [hl]; omega, by rw [hl]; exact own_zero hown, fun i y hi => ?_, by rw [hl], ?_⟩, ?_⟩
  · rw [del_get hk] at hi
    rw [partK_del hcl hk]
    have hil := (List.getElem?_eq_some_iff.1 hi).1
    exact a.held (h3 _ y hi) hH fun b hb hA => dAF b hA b (hfj _ hil b hb) rfl
  · refine List.nodup_append.2 ⟨blk_nodup _, List.pairwise_flatMap.2 ⟨fun i hi => hP _ (List.mem_range.2 (hsh i (List.mem_range.1 hi))), ?_⟩, fun p hp q hq e1 => ?_⟩
    · rw [List.pairwise_iff_getElem]
      intro i j hi hj hij p hp q hq e1
      subst e1
      have hi' : i < k + (xs.length - (k + 1)) := by simpa using hi
      have hj' : j < k + (xs.length - (k + 1)) := by simpa using hj
      rw [List.getElem_range] at hp hq
      exact flat_dis nF (hsh i hi') (hsh j hj') (by split <;> split <;> omega) p hp hq
    · subst e1
      obtain ⟨i, hi, hm⟩ := List.mem_flatMap.1 hq
      have := hfj _ (hsh i (List.mem_range.1 hi)) p hm
      rcases hA' p hp with h | h
      · exact dAF p h p this rfl
      · exact h (List.mem_append.2 (.inr this))
  · intro b hb
    rcases List.mem_append.1 hb with h | h
    · exact .inr h
    · obtain ⟨i, hi, hm⟩ := List.mem_flatMap.1 h
      exact .inl (List.mem_append.2 (.inr (hfj _ (hsh i (List.mem_range.1 hi)) b hm)))
end
end Go.Proofs.YtlikmgkjilmjpaaGreat

/-
  A row taken out of a valid database leaves a valid one; what a model's change hands back.
-/
namespace Go.Proofs.YtlikmgkjilmjpaaGreat
open Go.RowKit

theorem chgD_nodb {xs : Sc} {ds : Db} {nm : ByteArray} {f : List Va → Option (List Va)} (hb : dbB xs ds = false) : chgD xs ds nm f = (ds, false) := by
  cases h : idxN (ds.map fun d => d.1) nm with
  | none => exact chgD_none h
  | some j => exact chgD_bad h hb
theorem pairs_set {α β : Type} {f : α → β → Bool} {xs : List α} {ys : List β} {j : Nat} {y : β} (h : allPairs f xs ys = true) (hx : ∀ (x : α), xs[j]? = some x → f x y = true) : allPairs f xs (ys.set j y) = true := by
  unfold allPairs at *
  rw [List.all_eq_true] at *
  intro p hp
  obtain ⟨i, hi, rfl⟩ := List.getElem_of_mem hp
  rw [List.length_zip, List.length_set] at hi
  have h1 : i < xs.length := by omega
  have h2 : i < ys.length := by omega
  have h2' : i < (ys.set j y).length := by rw [List.length_set]; exact h2
  have h3 : i < (xs.zip ys).length := by rw [List.length_zip]; omega
  rw [List.getElem_zip]
  show f xs[i] (ys.set j y)[i] = true
  rw [List.getElem_set]
  split
  · rename_i e
    subst e
    exact hx _ (List.getElem?_eq_getElem h1)
  · have := h (xs.zip ys)[i] (List.getElem_mem h3)
    rw [List.getElem_zip] at this
    exact this
theorem dbB_del {xs : Sc} {ds : Db} {nm : ByteArray} {j k : Nat} (h : dbB xs ds = true) (hj : j < ds.length) (hn : ds[j].1 = nm) : dbB xs (ds.set j (nm, ds[j].2.take k ++ ds[j].2.drop (k + 1))) = true := by
  unfold dbB at *
  simp only [Bool.and_eq_true, decide_eq_true_eq] at *
  obtain ⟨h1, h2, h3⟩ := h
  refine ⟨h1, by rw [List.length_set]; exact h2, pairs_set h3 fun x hx => ?_⟩
  have hjx : j < xs.length := by omega
  rw [List.getElem?_eq_getElem hjx] at hx
  injection hx with hx
  subst hx
  have h4 : tdataB xs[j] ds[j] = true := by
    unfold allPairs at h3
    rw [List.all_eq_true] at h3
    have hz : j < (xs.zip ds).length := by rw [List.length_zip]; omega
    have := h3 (xs.zip ds)[j] (List.getElem_mem hz)
    rw [List.getElem_zip] at this
    exact this
  unfold tdataB at *
  simp only [Bool.and_eq_true, decide_eq_true_eq, List.all_eq_true] at *
  obtain ⟨h5, h6, h7⟩ := h4
  refine ⟨by rw [← hn]; exact h5, by rw [List.length_append, List.length_take, List.length_drop]; omega, fun v hv => ?_⟩
  rcases List.mem_append.1 hv with hv | hv
  · exact h7 v (List.mem_of_mem_take hv)
  · exact h7 v (List.mem_of_mem_drop hv)
theorem chgD_del {xs : Sc} {ds : Db} {nm : ByteArray} {j k : Nat} {q : Int} (h : idxN (ds.map fun d => d.1) nm = some j) (hb : dbB xs ds = true) (hj : j < ds.length) (hn : ds[j].1 = nm) (hq : q = (k : Int)) (hk : k < ds[j].2.length) : chgD xs ds nm (delF q) = (ds.set j (nm, ds[j].2.take k ++ ds[j].2.drop (k + 1)), true) := by
  subst hq
  rw [chgD_some (rs := ds[j].2.take k ++ ds[j].2.drop (k + 1)) h hb, if_pos (dbB_del hb hj hn)]
  unfold delF
  rw [rowsAt_get hj, if_pos (by omega)]
  simp
theorem chgD_delno {xs : Sc} {ds : Db} {nm : ByteArray} {j : Nat} {q : Int} (h : idxN (ds.map fun d => d.1) nm = some j) (hb : dbB xs ds = true) (hj : j < ds.length) (hq : ¬ (0 ≤ q ∧ q < (ds[j].2.length : Int))) : chgD xs ds nm (delF q) = (ds, false) := by
  refine chgD_no h hb ?_
  unfold delF
  rw [rowsAt_get hj, if_neg hq]
/-- what is in w's own memory, and the answer's box written -/
theorem made_end {w wn U : World} {s : Db} {b : Bool} {A : Option Addr} {d n G : Nat} {fp : List Nat} (hn : s.length = n) (ho : ODb wn s [.slice A n d] fp) (hf : ∀ q ∈ fp, w.heap.size ≤ q ∧ q < wn.heap.size) (hG : G ∉ fp) (hwG : w.heap.size ≤ G) (hb : Below w.heap.size w wn) (hU : wn.grownBy U (some G)) :
    MadeChg (s, b) w (.returned (.tuple #[.agg #[.slice A n d], .bool b])) U := by
  subst hn
  have hsU := hU.size
  refine ⟨A, d, fp, rfl, ?_, fun q hq => by have := hf q hq; omega, ?_⟩
  · exact ODb.ol.2 (OL.held (ODb.ol.1 ho) (K := fun i => some i ≠ some G) ⟨hU.os, hU.tape, hU.output, hU.size, fun i hi hd => hU.block i hi hd⟩ (fun q hq e1 => by injection e1 with e1; subst e1; exact hG hq))
  · exact hb.grown hU hb.size (fun q hq => by injection hq with hq; omega)
end Go.Proofs.YtlikmgkjilmjpaaGreat

/-
  A row taken out of a database in memory of the call's own: what lies there.
-/
namespace Go.Proofs.YtlikmgkjilmjpaaGreat
open Go.RowKit

/-- the rows of one table replaced -/
theorem own_rows {w6 : World} {s : Db} {nm : ByteArray} {rs : List Va} {g j d9 d6 m : Nat} {A6 : Option Addr} {cells : List Value} {fs : Nat → List Nat} {fp fp1 : List Nat}
    (hrow : w6.ownsRow 0 66 2 (.slice (some ⟨g, 0, none⟩) s.length d9) s.length cells) (h1 : s.length ≤ 9223372036854775807) (hfp : fp = blk (some ⟨g, 0, none⟩) ++ (List.range s.length).flatMap fs) (hnd : fp.Nodup)
    (hO : ∀ (i : Nat) (x : Dd), i ≠ j → s[i]? = some x → kDd.O w6 x (partK 2 cells i) (fs i)) (hj : j < s.length) (hnm : s[j].1 = nm) (hs : nm.size ≤ 9223372036854775807) (hc0 : cells[j * 2]? = some (.string nm))
    (hr : OL kVa 47 w6 rs (.slice A6 m d6) fp1) (hfp1 : ∀ b ∈ fp1, b ∈ fs j ∨ b ∉ fp) :
    ∃ fp', ODb (w6.setCell ⟨g, j * 2 + 1, none⟩ (.slice A6 m d6)) (s.set j (nm, rs)) [.slice (some ⟨g, 0, none⟩) s.length d9] fp' ∧ ∀ b ∈ fp', b ∈ fp ∨ b ∈ fp1 := by
  subst hfp
  obtain ⟨nA, nF, dAF⟩ := List.nodup_append.1 hnd
  have hg : g ∈ blk (some ⟨g, 0, none⟩) := by simp [blk]
  have hfj : ∀ i, i < s.length → ∀ b ∈ fs i, b ∈ (List.range s.length).flatMap fs := fun i hi b hm => List.mem_flatMap.2 ⟨i, List.mem_range.2 hi, hm⟩
  have hgf : ∀ i, i < s.length → g ∉ fs i := fun i hi hm => dAF g hg g (hfj i hi g hm) rfl
  have hg1 : g ∉ fp1 := fun hm => by
    rcases hfp1 g hm with h | h
    · exact hgf j hj h
    · exact h (List.mem_append.2 (.inl hg))
  have hH : Held (fun b => b ≠ g) w6 (w6.setCell ⟨g, j * 2 + 1, none⟩ (.slice A6 m d6)) := Held.set w6 (p := ⟨g, j * 2 + 1, none⟩) (by simp) _
  have hst := (hrow.stored (j * 2 + 1) (.slice A6 m d6)).1
  have hcl : cells.length = s.length * 2 := hrow.1
  have hl : (s.set j (nm, rs)).length = s.length := List.length_set
  have hr2 : OL kVa 47 (w6.setCell ⟨g, j * 2 + 1, none⟩ (.slice A6 m d6)) rs (.slice A6 m d6) fp1 := OL.held hr hH fun b hb e => hg1 (e ▸ hb)
  have e2 : partK 2 (cells.set (j * 2 + 1) (.slice A6 m d6)) j = [.string nm, .slice A6 m d6] := by
    apply List.ext_getElem?
    intro q
    match q with
    | 0 => rw [partK_get _ _ _ _ (by omega), List.getElem?_set_ne (by omega)]; exact hc0
    | 1 => rw [partK_get _ _ _ _ (by omega), List.getElem?_set_self (by omega)]; rfl
    | q + 2 =>
      unfold partK
      rw [List.getElem?_take_eq_none (by omega)]
      rfl
  have e3 : ∀ i, i ≠ j → partK 2 (cells.set (j * 2 + 1) (.slice A6 m d6)) i = partK 2 cells i := fun i e => by
    apply List.ext_getElem?
    intro q
    by_cases hq : q < 2
    · rw [partK_get _ _ _ _ hq, partK_get _ _ _ _ hq, List.getElem?_set_ne (by omega)]
    · unfold partK
      rw [List.getElem?_take_eq_none (by omega), List.getElem?_take_eq_none (by omega)]
  refine ⟨blk (some ⟨g, 0, none⟩) ++ (List.range s.length).flatMap (fun i => if i = j then fp1 else fs i), ODb.ol.2 ⟨some ⟨g, 0, none⟩, d9, _, fun i => if i = j then fp1 else fs i, by rw [hl], by rw [hl]; exact h1, by rw [hl]; exact hst, fun i y hi => ?_, by rw [hl], ?_⟩, fun b hb => ?_⟩
  · have hil : i < s.length := by have := (List.getElem?_eq_some_iff.1 hi).1; rwa [hl] at this
    show kDd.O _ _ (partK 2 _ _) (if i = j then fp1 else fs i)
    by_cases ei : i = j
    · subst ei
      rw [List.getElem?_set_self hj] at hi
      injection hi with hi
      subst hi
      rw [e2, if_pos rfl]
      exact kDd_omake hs ⟨_, rfl, hr2⟩
    · rw [List.getElem?_set_ne (fun h => ei h.symm)] at hi
      rw [e3 i ei, if_neg ei]
      exact kDd.held (hO i y ei hi) hH fun b hb e => hgf i hil (e ▸ hb)
  · refine List.nodup_append.2 ⟨nA, flat_set nF hj (by obtain ⟨_, _, _, _, _, _, _, _, _, h⟩ := hr; exact h) (fun b hb => ?_), fun p hp q hq e1 => ?_⟩
    · rcases hfp1 b hb with h | h
      · exact .inl h
      · exact .inr fun h' => h (List.mem_append.2 (.inr h'))
    · subst e1
      have hpg : p = g := by simpa [blk] using hp
      subst hpg
      obtain ⟨i, hi, hm⟩ := List.mem_flatMap.1 hq
      have hil := List.mem_range.1 hi
      by_cases ei : i = j
      · simp only [ei, if_true] at hm
        exact hg1 hm
      · simp only [ei, if_false] at hm
        exact hgf i hil hm
  · rcases List.mem_append.1 hb with h | h
    · exact .inl (List.mem_append.2 (.inl h))
    · obtain ⟨i, hi, hm⟩ := List.mem_flatMap.1 h
      have hil := List.mem_range.1 hi
      by_cases ei : i = j
      · simp only [ei, if_true] at hm
        exact .inr hm
      · simp only [ei, if_false] at hm
        exact .inl (List.mem_append.2 (.inr (hfj i hil b hm)))

/-- the model's DeleteRow: the copy's rows behind k are copied (w5), appended to those before it (w6), the slice stored -/
theorem del_mem {w4 w5 w6 : World} {s : Db} {nm : ByteArray} {g j k d9 d5 d6 : Nat} {A5 A6 : Option Addr} {cells cells5 : List Value} {fs fs5 : Nat → List Nat} {fp : List Nat}
    (h : OLc kDd 66 w4 s (some ⟨g, 0, none⟩) d9 cells fs fp) (hj : j < s.length) (hnm : s[j].1 = nm) (hs : nm.size ≤ 9223372036854775807) (hc0 : cells[j * 2]? = some (.string nm))
    (hi : OLc kVa 47 w4 s[j].2 A5 d5 cells5 fs5 (fs j)) (hk : k < s[j].2.length) (hfl : ∀ b ∈ fp, b < w4.heap.size) (h45 : Below w4.heap.size w4 w5)
    (hown : w6.ownsRow 0 47 4 (.slice A6 (k + (s[j].2.length - (k + 1))) d6) (k + (s[j].2.length - (k + 1))) (cells5.take (k * 4) ++ cells5.drop ((k + 1) * 4))) (hgr : w5.grownBy w6 (Value.slice A5 k d5).ownBlock)
    (hor : (Value.slice A6 (k + (s[j].2.length - (k + 1))) d6).ownBlock = (Value.slice A5 k d5).ownBlock ∨ (Value.slice A6 (k + (s[j].2.length - (k + 1))) d6).ownBlock = some w5.heap.size) :
    ∃ fp', ODb (w6.setCell ⟨g, j * 2 + 1, none⟩ (.slice A6 (k + (s[j].2.length - (k + 1))) d6)) (s.set j (nm, s[j].2.take k ++ s[j].2.drop (k + 1))) [.slice (some ⟨g, 0, none⟩) s.length d9] fp' ∧ ∀ b ∈ fp', b ∈ fp ∨ (w5.heap.size ≤ b ∧ b < w6.heap.size) := by
  have hsz := h45.size
  obtain ⟨h1, hrow, hO, hfp, hnd⟩ := h
  obtain ⟨nA, nF, dAF⟩ := List.nodup_append.1 (hfp ▸ hnd)
  have hg : g ∈ blk (some ⟨g, 0, none⟩) := by simp [blk]
  have hfj : ∀ i, i < s.length → ∀ b ∈ fs i, b ∈ fp := fun i hi b hm => by rw [hfp]; exact List.mem_append.2 (.inr (List.mem_flatMap.2 ⟨i, List.mem_range.2 hi, hm⟩))
  have hA5 : ∀ b ∈ blk A5, b ∈ fs j := fun b hb => by rw [hi.2.2.2.1]; exact List.mem_append.2 (.inl hb)
  have hH := Held.of_grown hgr
  have notA5 : ∀ b, b ∉ blk A5 → some b ≠ (Value.slice A5 k d5).ownBlock := fun b hm e1 => hm ((blk_own A5 _ d5 b).1 e1.symm)
  have hA6 : ∀ b ∈ blk A6, b ∈ blk A5 ∨ b = w5.heap.size := fun b hm => by
    have e1 := (blk_own A6 (k + (s[j].2.length - (k + 1))) d6 b).2 hm
    rcases hor with h | h
    · rw [h] at e1; exact .inl ((blk_own A5 _ d5 b).1 e1)
    · rw [h] at e1; injection e1 with e1; exact .inr e1.symm
  obtain ⟨fs', fp1, h6, hf6⟩ := olc_del (hi.under h45) hk hown ⟨hH.os, hH.tape, hH.output, hH.size, fun i hi hd => hH.block i hi (notA5 i hd)⟩ (fun b hb => by
    rcases hA6 b hb with h | h
    · exact .inl h
    · exact .inr fun hm => by have := hfl b (hfj j hj b hm); omega)
  have hl6 : (s[j].2.take k ++ s[j].2.drop (k + 1)).length = k + (s[j].2.length - (k + 1)) := by rw [List.length_append, List.length_take, List.length_drop]; omega
  have hol := h6.ol
  rw [hl6] at hol
  have hgj : g ∉ fs j := fun hm => dAF g hg g (List.mem_flatMap.2 ⟨j, List.mem_range.2 hj, hm⟩) rfl
  have hrow6 : w6.ownsRow 0 66 2 (.slice (some ⟨g, 0, none⟩) s.length d9) s.length cells := own_heldK (own_keep hrow (row := none) (grown_none h45) (fun b _ => by simp)) hH fun b hb => notA5 b fun hm => by
    have hbg : b = g := by simpa [blk] using hb
    subst hbg
    exact hgj (hA5 _ hm)
  obtain ⟨fp', h7, hf7⟩ := own_rows (fp := fp) (fp1 := fp1) hrow6 h1 hfp hnd (fun i x hne hx => by
    have hil := (List.getElem?_eq_some_iff.1 hx).1
    exact kDd.held (kDd.under (hO i x hx) h45) hH fun b hb => notA5 b fun hm => flat_dis nF hil hj hne b hb (hA5 b hm)) hj hnm hs hc0 hol (fun b hb => by
    rcases hf6 b hb with h | h
    · exact .inl h
    · rcases hA6 b h with h | h
      · exact .inl (hA5 b h)
      · exact .inr fun hm => by have := hfl b hm; omega)
  refine ⟨fp', h7, fun b hb => ?_⟩
  rcases hf7 b hb with h | h
  · exact .inl h
  · rcases hf6 b h with h | h
    · exact .inl (hfj j hj b h)
    · rcases hA6 b h with h' | h'
      · exact .inl (hfj j hj b (hA5 b h'))
      · have := (hown.lt b ((blk_own A6 _ d6 b).2 h)).2
        exact .inr ⟨by omega, this⟩
end Go.Proofs.YtlikmgkjilmjpaaGreat
