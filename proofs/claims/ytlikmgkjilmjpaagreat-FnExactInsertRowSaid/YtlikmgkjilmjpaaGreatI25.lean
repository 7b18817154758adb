/-
  Merged by program: DelD, DelM, DelO.
-/
import Derived.Test.YtlikmgkjilmjpaaGreatI24
import Derived.Test.YtlikmgkjilmjpaaGreatI16
import Derived.Test.YtlikmgkjilmjpaaGreatI6

/-
  A row taken out of a valid database leaves a valid one; what a model's change hands back.
-/
namespace Go.Proofs.YtlikmgkjilmjpaaGreat
open Go.RowKit

theorem chgD_nodb {xs : Sc} {ds : Db} {nm : ByteArray} {f : List Va → Option (List Va)} (hb : dbB xs ds = false) : chgD xs ds nm f = (ds, false) := by
  cases h : idxN (ds.map fun d => d.1) nm with
  | none => exact chgD_none h
  | some j => exact chgD_bad h hb
theorem pairs_set {α β : Type} {f : α → β → Bool} {xs : List α} {ys : List β} {j : Nat} {y : β} (h : allPairs f xs ys = true) (hx : ∀ (x : α), xs[j]? = some x → f x y = true) : allPairs f xs (ys.set j y) = true := by
  unfold allPairs at *
  rw [List.all_eq_true] at *
  intro p hp
  obtain ⟨i, hi, rfl⟩ := List.getElem_of_mem hp
  rw [List.length_zip, List.length_set] at hi
  have h1 : i < xs.length := by omega
  have h2 : i < ys.length := by omega
  have h2' : i < (ys.set j y).length := by rw [List.length_set]; exact h2
  have h3 : i < (xs.zip ys).length := by rw [List.length_zip]; omega
  rw [List.getElem_zip]
  show f xs[i] (ys.set j y)[i] = true
  rw [List.getElem_set]
  split
  · rename_i e
    subst e
    exact hx _ (List.getElem?_eq_getElem h1)
  · have := h (xs.zip ys)[i] (List.getElem_mem h3)
    rw [List.getElem_zip] at this
    exact this
theorem dbB_del {xs : Sc} {ds : Db} {nm : ByteArray} {j k : Nat} (h : dbB xs ds = true) (hj : j < ds.length) (hn : ds[j].1 = nm) : dbB xs (ds.set j (nm, ds[j].2.take k ++ ds[j].2.drop (k + 1))) = true := by
  unfold dbB at *
  simp only [Bool.and_eq_true, decide_eq_true_eq] at *
  obtain ⟨h1, h2, h3⟩ := h
  refine ⟨h1, by rw [List.length_set]; exact h2, pairs_set h3 fun x hx => ?_⟩
  have hjx : j < xs.length := by omega
  rw [List.getElem?_eq_getElem hjx] at hx
  injection hx with hx
  subst hx
  have h4 : tdataB xs[j] ds[j] = true := by
    unfold allPairs at h3
    rw [List.all_eq_true] at h3
    have hz : j < (xs.zip ds).length := by rw [List.length_zip]; omega
    have := h3 (xs.zip ds)[j] (List.getElem_mem hz)
    rw [List.getElem_zip] at this
    exact this
  unfold tdataB at *
  simp only [Bool.and_eq_true, decide_eq_true_eq, List.all_eq_true] at *
  obtain ⟨h5, h6, h7⟩ := h4
  refine ⟨by rw [← hn]; exact h5, by rw [List.length_append, List.length_take, List.length_drop]; omega, fun v hv => ?_⟩
  rcases List.mem_append.1 hv with hv | hv
  · exact h7 v (List.mem_of_mem_take hv)
  · exact h7 v (List.mem_of_mem_drop hv)
theorem chgD_del {xs : Sc} {ds : Db} {nm : ByteArray} {j k : Nat} {q : Int} (h : idxN (ds.map fun d => d.1) nm = some j) (hb : dbB xs ds = true) (hj : j < ds.length) (hn : ds[j].1 = nm) (hq : q = (k : Int)) (hk : k < ds[j].2.length) : chgD xs ds nm (delF q) = (ds.set j (nm, ds[j].2.take k ++ ds[j].2.drop (k + 1)), true) := by
  subst hq
  rw [chgD_some (rs := ds[j].2.take k ++ ds[j].2.drop (k + 1)) h hb, if_pos (dbB_del hb hj hn)]
  unfold delF
  rw [rowsAt_get hj, if_pos (by omega)]
  simp
theorem chgD_delno {xs : Sc} {ds : Db} {nm : ByteArray} {j : Nat} {q : Int} (h : idxN (ds.map fun d => d.1) nm = some j) (hb : dbB xs ds = true) (hj : j < ds.length) (hq : ¬ (0 ≤ q ∧ q < (ds[j].2.length : Int))) : chgD xs ds nm (delF q) = (ds, false) := by
  refine chgD_no h hb ?_
  unfold delF
  rw [rowsAt_get hj, if_neg hq]
/-- what is in w's own memory, and the answer's box written -/
theorem made_end {w wn U : World} {s : Db} {b : Bool} {A : Option Addr} {d n G : Nat} {fp : List Nat} (hn : s.length = n) (ho : ODb wn s [.slice A n d] fp) (hf : ∀ q ∈ fp, w.heap.size ≤ q ∧ q < wn.heap.size) (hG : G ∉ fp) (hwG : w.heap.size ≤ G) (hb : Below w.heap.size w wn) (hU : wn.grownBy U (some G)) :
    MadeChg (s, b) w (.returned (.tuple #[.agg #[.slice A n d], .bool b])) U := by
  subst hn
  have hsU := hU.size
  refine ⟨A, d, fp, rfl, ?_, fun q hq => by have := hf q hq; omega, ?_⟩
  · exact ODb.ol.2 (OL.held (ODb.ol.1 ho) (K := fun i => some i ≠ some G) ⟨hU.os, hU.tape, hU.output, hU.size, fun i hi hd => hU.block i hi hd⟩ (fun q hq e1 => by injection e1 with e1; subst e1; exact hG hq))
  · exact hb.grown hU hb.size (fun q hq => by injection hq with hq; omega)
end Go.Proofs.YtlikmgkjilmjpaaGreat

/-
  A row taken out of a database in memory of the call's own: what lies there.
-/
namespace Go.Proofs.YtlikmgkjilmjpaaGreat
open Go.RowKit

/-- the rows of one table replaced -/
theorem own_rows {w6 : World} {s : Db} {nm : ByteArray} {rs : List Va} {g j d9 d6 m : Nat} {A6 : Option Addr} {cells : List Value} {fs : Nat → List Nat} {fp fp1 : List Nat}
    (hrow : w6.ownsRow 0 66 2 (.slice (some ⟨g, 0, none⟩) s.length d9) s.length cells) (h1 : s.length ≤ 9223372036854775807) (hfp : fp = blk (some ⟨g, 0, none⟩) ++ (List.range s.length).flatMap fs) (hnd : fp.Nodup)
    (hO : ∀ (i : Nat) (x : Dd), i ≠ j → s[i]? = some x → kDd.O w6 x (partK 2 cells i) (fs i)) (hj : j < s.length) (hnm : s[j].1 = nm) (hs : nm.size ≤ 9223372036854775807) (hc0 : cells[j * 2]? = some (.string nm))
    (hr : OL kVa 47 w6 rs (.slice A6 m d6) fp1) (hfp1 : ∀ b ∈ fp1, b ∈ fs j ∨ b ∉ fp) :
    ∃ fp', ODb (w6.setCell ⟨g, j * 2 + 1, none⟩ (.slice A6 m d6)) (s.set j (nm, rs)) [.slice (some ⟨g, 0, none⟩) s.length d9] fp' ∧ ∀ b ∈ fp', b ∈ fp ∨ b ∈ fp1 := by
  subst hfp
  obtain ⟨nA, nF, dAF⟩ := List.nodup_append.1 hnd
  have hg : g ∈ blk (some ⟨g, 0, none⟩) := by simp [blk]
  have hfj : ∀ i, i < s.length → ∀ b ∈ fs i, b ∈ (List.range s.length).flatMap fs := fun i hi b hm => List.mem_flatMap.2 ⟨i, List.mem_range.2 hi, hm⟩
  have hgf : ∀ i, i < s.length → g ∉ fs i := fun i hi hm => dAF g hg g (hfj i hi g hm) rfl
  have hg1 : g ∉ fp1 := fun hm => by
    rcases hfp1 g hm with h | h
    · exact hgf j hj h
    · exact h (List.mem_append.2 (.inl hg))
  have hH : Held (fun b => b ≠ g) w6 (w6.setCell ⟨g, j * 2 + 1, none⟩ (.slice A6 m d6)) := Held.set w6 (p := ⟨g, j * 2 + 1, none⟩) (by simp) _
  have hst := (hrow.stored (j * 2 + 1) (.slice A6 m d6)).1
  have hcl : cells.length = s.length * 2 := hrow.1
  have hl : (s.set j (nm, rs)).length = s.length := List.length_set
  have hr2 : OL kVa 47 (w6.setCell ⟨g, j * 2 + 1, none⟩ (.slice A6 m d6)) rs (.slice A6 m d6) fp1 := OL.held hr hH fun b hb e => hg1 (e ▸ hb)
  have e2 : partK 2 (cells.set (j * 2 + 1) (.slice A6 m d6)) j = [.string nm, .slice A6 m d6] := by
    apply List.ext_getElem?
    intro q
    match q with
    | 0 => rw [partK_get _ _ _ _ (by omega), List.getElem?_set_ne (by omega)]; exact hc0
    | 1 => rw [partK_get _ _ _ _ (by omega), List.getElem?_set_self (by omega)]; rfl
    | q + 2 =>
      unfold partK
      rw [List.getElem?_take_eq_none (by omega)]
      rfl
  have e3 : ∀ i, i ≠ j → partK 2 (cells.set (j * 2 + 1) (.slice A6 m d6)) i = partK 2 cells i := fun i e => by
    apply List.ext_getElem?
    intro q
    by_cases hq : q < 2
    · rw [partK_get _ _ _ _ hq, partK_get _ _ _ _ hq, List.getElem?_set_ne (by omega)]
    · unfold partK
      rw [List.getElem?_take_eq_none (by omega), List.getElem?_take_eq_none (by omega)]
  refine ⟨blk (some ⟨g, 0, none⟩) ++ (List.range s.length).flatMap (fun i => if i = j then fp1 else fs i), ODb.ol.2 ⟨some ⟨g, 0, none⟩, d9, _, fun i => if i = j then fp1 else fs i, by rw [hl], by rw [hl]; exact h1, by rw [hl]; exact hst, fun i y hi => ?_, by rw [hl], ?_⟩, fun b hb => ?_⟩
  · have hil : i < s.length := by have := (List.getElem?_eq_some_iff.1 hi).1; rwa [hl] at this
    show kDd.O _ _ (partK 2 _ _) (if i = j then fp1 else fs i)
    by_cases ei : i = j
    · subst ei
      rw [List.getElem?_set_self hj] at hi
      injection hi with hi
      subst hi
      rw [e2, if_pos rfl]
      exact kDd_omake hs ⟨_, rfl, hr2⟩
    · rw [List.getElem?_set_ne (fun h => ei h.symm)] at hi
      rw [e3 i ei, if_neg ei]
      exact kDd.held (hO i y ei hi) hH fun b hb e => hgf i hil (e ▸ hb)
  · refine List.nodup_append.2 ⟨nA, flat_set nF hj (by obtain ⟨_, _, _, _, _, _, _, _, _, h⟩ := hr; exact h) (fun b hb => ?_), fun p hp q hq e1 => ?_⟩
    · rcases hfp1 b hb with h | h
      · exact .inl h
      · exact .inr fun h' => h (List.mem_append.2 (.inr h'))
    · subst e1
      have hpg : p = g := by simpa [blk] using hp
      subst hpg
      obtain ⟨i, hi, hm⟩ := List.mem_flatMap.1 hq
      have hil := List.mem_range.1 hi
      by_cases ei : i = j
      · simp only [ei, if_true] at hm
        exact hg1 hm
      · simp only [ei, if_false] at hm
        exact hgf i hil hm
  · rcases List.mem_append.1 hb with h | h
    · exact .inl (List.mem_append.2 (.inl h))
    · obtain ⟨i, hi, hm⟩ := List.mem_flatMap.1 h
      have hil := List.mem_range.1 hi
      by_cases ei : i = j
      · simp only [ei, if_true] at hm
        exact .inr hm
      · simp only [ei, if_false] at hm
        exact .inl (List.mem_append.2 (.inr (hfj i hil b hm)))

/-- the model's DeleteRow: the copy's rows behind k are copied (w5), appended to those before it (w6), the slice stored -/
theorem del_mem {w4 w5 w6 : World} {s : Db} {nm : ByteArray} {g j k d9 d5 d6 : Nat} {A5 A6 : Option Addr} {cells cells5 : List Value} {fs fs5 : Nat → List Nat} {fp : List Nat}
    (h : OLc kDd 66 w4 s (some ⟨g, 0, none⟩) d9 cells fs fp) (hj : j < s.length) (hnm : s[j].1 = nm) (hs : nm.size ≤ 9223372036854775807) (hc0 : cells[j * 2]? = some (.string nm))
    (hi : OLc kVa 47 w4 s[j].2 A5 d5 cells5 fs5 (fs j)) (hk : k < s[j].2.length) (hfl : ∀ b ∈ fp, b < w4.heap.size) (h45 : Below w4.heap.size w4 w5)
    (hown : w6.ownsRow 0 47 4 (.slice A6 (k + (s[j].2.length - (k + 1))) d6) (k + (s[j].2.length - (k + 1))) (cells5.take (k * 4) ++ cells5.drop ((k + 1) * 4))) (hgr : w5.grownBy w6 (Value.slice A5 k d5).ownBlock)
    (hor : (Value.slice A6 (k + (s[j].2.length - (k + 1))) d6).ownBlock = (Value.slice A5 k d5).ownBlock ∨ (Value.slice A6 (k + (s[j].2.length - (k + 1))) d6).ownBlock = some w5.heap.size) :
    ∃ fp', ODb (w6.setCell ⟨g, j * 2 + 1, none⟩ (.slice A6 (k + (s[j].2.length - (k + 1))) d6)) (s.set j (nm, s[j].2.take k ++ s[j].2.drop (k + 1))) [.slice (some ⟨g, 0, none⟩) s.length d9] fp' ∧ ∀ b ∈ fp', b ∈ fp ∨ (w5.heap.size ≤ b ∧ b < w6.heap.size) := by
  have hsz := h45.size
  obtain ⟨h1, hrow, hO, hfp, hnd⟩ := h
  obtain ⟨nA, nF, dAF⟩ := List.nodup_append.1 (hfp ▸ hnd)
  have hg : g ∈ blk (some ⟨g, 0, none⟩) := by simp [blk]
  have hfj : ∀ i, i < s.length → ∀ b ∈ fs i, b ∈ fp := fun i hi b hm => by rw [hfp]; exact List.mem_append.2 (.inr (List.mem_flatMap.2 ⟨i, List.mem_range.2 hi, hm⟩))
  have hA5 : ∀ b ∈ blk A5, b ∈ fs j := fun b hb => by rw [hi.2.2.2.1]; exact List.mem_append.2 (.inl hb)
  have hH := Held.of_grown hgr
  have notA5 : ∀ b, b ∉ blk A5 → some b ≠ (Value.slice A5 k d5).ownBlock := fun b hm e1 => hm ((blk_own A5 _ d5 b).1 e1.symm)
  have hA6 : ∀ b ∈ blk A6, b ∈ blk A5 ∨ b = w5.heap.size := fun b hm => by
    have e1 := (blk_own A6 (k + (s[j].2.length - (k + 1))) d6 b).2 hm
    rcases hor with h | h
    · rw [h] at e1; exact .inl ((blk_own A5 _ d5 b).1 e1)
    · rw [h] at e1; injection e1 with e1; exact .inr e1.symm
  obtain ⟨fs', fp1, h6, hf6⟩ := olc_del (hi.under h45) hk hown ⟨hH.os, hH.tape, hH.output, hH.size, fun i hi hd => hH.block i hi (notA5 i hd)⟩ (fun b hb => by
    rcases hA6 b hb with h | h
    · exact .inl h
    · exact .inr fun hm => by have := hfl b (hfj j hj b hm); omega)
  have hl6 : (s[j].2.take k ++ s[j].2.drop (k + 1)).length = k + (s[j].2.length - (k + 1)) := by rw [List.length_append, List.length_take, List.length_drop]; omega
  have hol := h6.ol
  rw [hl6] at hol
  have hgj : g ∉ fs j := fun hm => dAF g hg g (List.mem_flatMap.2 ⟨j, List.mem_range.2 hj, hm⟩) rfl
  have hrow6 : w6.ownsRow 0 66 2 (.slice (some ⟨g, 0, none⟩) s.length d9) s.length cells := own_heldK (own_keep hrow (row := none) (grown_none h45) (fun b _ => by simp)) hH fun b hb => notA5 b fun hm => by
    have hbg : b = g := by simpa [blk] using hb
    subst hbg
    exact hgj (hA5 _ hm)
  obtain ⟨fp', h7, hf7⟩ := own_rows (fp := fp) (fp1 := fp1) hrow6 h1 hfp hnd (fun i x hne hx => by
    have hil := (List.getElem?_eq_some_iff.1 hx).1
    exact kDd.held (kDd.under (hO i x hx) h45) hH fun b hb => notA5 b fun hm => flat_dis nF hil hj hne b hb (hA5 b hm)) hj hnm hs hc0 hol (fun b hb => by
    rcases hf6 b hb with h | h
    · exact .inl h
    · rcases hA6 b h with h | h
      · exact .inl (hA5 b h)
      · exact .inr fun hm => by have := hfl b hm; omega)
  refine ⟨fp', h7, fun b hb => ?_⟩
  rcases hf7 b hb with h | h
  · exact .inl h
  · rcases hf6 b h with h | h
    · exact .inl (hfj j hj b h)
    · rcases hA6 b h with h' | h'
      · exact .inl (hfj j hj b (hA5 b h'))
      · have := (hown.lt b ((blk_own A6 _ d6 b).2 h)).2
        exact .inr ⟨by omega, this⟩
end Go.Proofs.YtlikmgkjilmjpaaGreat

/-
  The model's DeleteRow, its last regions: what lies in memory.
-/
namespace Go.Proofs.YtlikmgkjilmjpaaGreat
open Go.RowKit

theorem own_is0 {w : World} {base size n c b : Nat} {e : TypeId} {A : Option Addr} {xs : List Value} (h : w.ownsRow base e size (.slice A n c) n xs) (ho : (Value.slice A n c).ownBlock = some b) : A = some ⟨b, 0, none⟩ := by
  rcases h.2 with ⟨h0, _⟩ | ⟨g, cap, cur, hv, _⟩
  · rw [h0] at ho
    cases ho
  · rw [hv] at ho
    injection ho with ho
    injection hv with hv _ _
    have ho : g = b := ho
    rw [hv, ho]
theorem va_one {w : World} {x : Va} {cs : List Value} (h : RVa w x cs) : ∀ u ∈ cs, u.oneCell' = true := by
  obtain ⟨L, c, A, d, he, _⟩ := h.open
  rw [he]
  intro u hu
  simp only [List.mem_cons, List.not_mem_nil, or_false] at hu
  rcases hu with rfl | rfl | rfl | rfl <;> rfl
theorem olc_one {e : TypeId} {w : World} {xs : List Va} {A : Option Addr} {d : Nat} {cells : List Value} {fs : Nat → List Nat} {fp : List Nat} (h : OLc kVa e w xs A d cells fs fp) : ∀ u ∈ cells, u.oneCell' = true := by
  intro u hu
  obtain ⟨i, hi, rfl⟩ := List.getElem_of_mem hu
  have hcl : cells.length = xs.length * 4 := h.2.1.1
  have hi4 : i / 4 < xs.length := by omega
  refine va_one (kVa.reads (h.2.2.1 (i / 4) _ (List.getElem?_eq_getElem hi4))) _ (List.mem_of_getElem? (i := i % 4) ?_)
  show (partK 4 cells (i / 4))[i % 4]? = _
  rw [partK_get _ _ _ _ (by omega), show i / 4 * 4 + i % 4 = i by omega, List.getElem?_eq_getElem hi]
theorem olc_at {w : World} {s : Db} {g d9 j : Nat} {nm : ByteArray} {cells : List Value} {fs : Nat → List Nat} {fp : List Nat} (h : OLc kDd 66 w s (some ⟨g, 0, none⟩) d9 cells fs fp) (hj : j < s.length) (hnm : s[j].1 = nm) (h0 : 0 < s[j].2.length) :
    ∃ g5 d5 cells5 fs5, cells[j * 2]? = some (.string nm) ∧ cells[j * 2 + 1]? = some (.slice (some ⟨g5, 0, none⟩) s[j].2.length d5) ∧ nm.size ≤ 9223372036854775807 ∧ OLc kVa 47 w s[j].2 (some ⟨g5, 0, none⟩) d5 cells5 fs5 (fs j) := by
  obtain ⟨TA, ta, td, hcs, hs, x, hx, ho⟩ := kDd_oopen (h.2.2.1 j _ (List.getElem?_eq_getElem hj))
  injection hx with hx _
  subst hx
  obtain ⟨rfl, cells5, fs5, h5⟩ := ho.parts
  obtain ⟨g5, rfl⟩ := own_someG h5.row h0
  have e : ∀ q, q < 2 → cells[j * 2 + q]? = [Value.string s[j].1, .slice (some ⟨g5, 0, none⟩) s[j].2.length td][q]? := fun q hq => by
    rw [← hcs]
    exact (partK_get 2 cells j q hq).symm
  exact ⟨g5, td, cells5, fs5, by rw [← hnm]; exact e 0 (by omega), e 1 (by omega), by rw [← hnm]; exact hs, h5⟩
theorem del_next {w w4 w6 w7 : World} {s : Db} {nm : ByteArray} {g g5 j k d9 d5 d6 K H : Nat} {A6 : Option Addr} {cells cells5 : List Value} {fs fs5 : Nat → List Nat} {fp : List Nat}
    (h : OLc kDd 66 w4 s (some ⟨g, 0, none⟩) d9 cells fs fp) (hj : j < s.length) (hnm : s[j].1 = nm) (hs : nm.size ≤ 9223372036854775807) (hc0 : cells[j * 2]? = some (.string nm)) (hc1 : cells[j * 2 + 1]? = some (.slice (some ⟨g5, 0, none⟩) s[j].2.length d5))
    (hi : OLc kVa 47 w4 s[j].2 (some ⟨g5, 0, none⟩) d5 cells5 fs5 (fs j)) (hk : k < s[j].2.length) (hf : ∀ b ∈ fp, w.heap.size ≤ b ∧ b < K ∧ H + 2 < b) (hH : w.heap.size = H)
    (bk : Box1 w4 K 37 (.slice (some ⟨g, 0, none⟩) s.length d9)) (br : Box1 w4 (H + 1 + 1) 37 (.slice none 0 0)) (hb : Below w.heap.size w w4) (h46 : Below w4.heap.size w4 w6)
    (hown : w7.ownsRow 0 47 4 (.slice A6 (k + (s[j].2.length - (k + 1))) d6) (k + (s[j].2.length - (k + 1))) (cells5.take (k * 4) ++ cells5.drop ((k + 1) * 4))) (hgr : w6.grownBy w7 (some g5))
    (hor : (Value.slice A6 (k + (s[j].2.length - (k + 1))) d6).ownBlock = some g5 ∨ (Value.slice A6 (k + (s[j].2.length - (k + 1))) d6).ownBlock = some w6.heap.size) :
    (w7.cell? ⟨K, 0, none⟩ = some (.slice (some ⟨g, 0, none⟩) s.length d9) ∧ w7.cell? ⟨g, j * 2 + 1, none⟩ = some (.slice (some ⟨g5, 0, none⟩) s[j].2.length d5) ∧ w7.frozen? ⟨g, j * 2 + 1, none⟩ = false) ∧
    Box1 (w7.setCell ⟨g, j * 2 + 1, none⟩ (.slice A6 (k + (s[j].2.length - (k + 1))) d6)) K 37 (.slice (some ⟨g, 0, none⟩) s.length d9) ∧ Box1 (w7.setCell ⟨g, j * 2 + 1, none⟩ (.slice A6 (k + (s[j].2.length - (k + 1))) d6)) (H + 1 + 1) 37 (.slice none 0 0) ∧
    ∀ U : World, (w7.setCell ⟨g, j * 2 + 1, none⟩ (.slice A6 (k + (s[j].2.length - (k + 1))) d6)).grownBy U (some (H + 1 + 1)) → MadeChg (s.set j (nm, s[j].2.take k ++ s[j].2.drop (k + 1)), true) w (.returned (.tuple #[.agg #[.slice (some ⟨g, 0, none⟩) s.length d9], .bool true])) U := by
  have hfp := h.2.2.2.1
  have hgf : g ∈ fp := by rw [hfp]; simp [blk]
  have h5f : g5 ∈ fs j := by rw [hi.2.2.2.1]; simp [blk]
  have h5p : g5 ∈ fp := by rw [hfp]; exact List.mem_append.2 (.inr (List.mem_flatMap.2 ⟨j, List.mem_range.2 hj, h5f⟩))
  have hne : g ≠ g5 := fun e => by
    have hnd := h.2.2.2.2
    rw [hfp] at hnd
    exact (List.nodup_append.1 hnd).2.2 g (by simp [blk]) g5 (List.mem_flatMap.2 ⟨j, List.mem_range.2 hj, h5f⟩) e
  have b1 := hf g hgf
  have b5 := hf g5 h5p
  have hK4 := bk.lt
  have h2 := h46.size
  have h3 := hgr.size
  have h0 := hb.size
  have bk6 := bk.under h46 bk.lt
  have br6 := br.under h46 br.lt
  have bk7 := bk6.grown hgr (by intro e; injection e with e; omega)
  have br7 := br6.grown hgr (by intro e; injection e with e; omega)
  have hrow7 := own_keep (own_keep h.row (row := none) (grown_none h46) (fun b _ => by simp)) hgr (fun b hb e => by
    have hbg : b = g := by simpa [blk] using hb
    injection e with e
    exact hne (hbg.symm.trans e))
  have hcl : cells.length = s.length * 2 := h.row.1
  obtain ⟨fp', ho, hf'⟩ := del_mem (A5 := some ⟨g5, 0, none⟩) (d5 := d5) h hj hnm hs hc0 hi hk (fun b hb => by have := hf b hb; omega) h46 hown hgr hor
  have hbU : Below w.heap.size w (w7.setCell ⟨g, j * 2 + 1, none⟩ (.slice A6 (k + (s[j].2.length - (k + 1))) d6)) := ((hb.trans (h46.mono h0)).grown hgr (by omega) (fun q hq => by injection hq with hq; omega)).setCell (p := ⟨g, j * 2 + 1, none⟩) b1.1 _
  have hsU : w7.heap.size ≤ (w7.setCell ⟨g, j * 2 + 1, none⟩ (.slice A6 (k + (s[j].2.length - (k + 1))) d6)).heap.size := (grown_set (World.grownBy.refl w7 (some g)) (j := j * 2 + 1) (.slice A6 (k + (s[j].2.length - (k + 1))) d6)).size
  refine ⟨⟨bk7.c0, (hrow7.cellAt (j * 2 + 1) (show j * 2 + 1 < s.length * kDd.n by rw [kDd_n]; omega)).trans hc1, hrow7.frozenAt _⟩, bk7.far (by show K ≠ g; omega) _, br7.far (by show H + 1 + 1 ≠ g; omega) _, fun U hU => ?_⟩
  refine made_end (by rw [List.length_set]) ho (fun b hb => ?_) (fun hm => ?_) (by omega) hbU hU
  · rcases hf' b hb with h | h
    · have := hf b h; omega
    · omega
  · rcases hf' _ hm with h | h
    · have := hf _ h; omega
    · have := br.lt; omega
end Go.Proofs.YtlikmgkjilmjpaaGreat
