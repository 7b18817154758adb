/-
  Merged by program: ChgD, MadC, KdSet.
-/
import Derived.Test.YtlikmgkjilmjpaaGreatI19
import Derived.Test.YtlikmgkjilmjpaaGreatI11
import Derived.Test.YtlikmgkjilmjpaaGreatI23
import Derived.Test.YtlikmgkjilmjpaaGreatI8
import Derived.Test.YtlikmgkjilmjpaaGreatI9
import Derived.Test.YtlikmgkjilmjpaaGreatI5

/-
  What a change of a table's rows makes of a database, in plain words; the rows as the program's functions read them. 
-/
namespace Go.Proofs.YtlikmgkjilmjpaaGreat
open Go.RowKit

def insF (v : Va) (rows : List Va) : Option (List Va) := some (rows ++ [v])
def delF (k : Int) (rows : List Va) : Option (List Va) := if 0 ≤ k ∧ k < (rows.length : Int) then some (rows.take k.toNat ++ rows.drop (k.toNat + 1)) else none
def rowsAt (ds : Db) (j : Nat) : List Va := (ds[j]?.map fun d => d.2).getD []
theorem rowsAt_get {ds : Db} {j : Nat} (h : j < ds.length) : rowsAt ds j = ds[j].2 := by unfold rowsAt; rw [List.getElem?_eq_getElem h]; rfl
noncomputable def chgD (xs : Sc) (ds : Db) (nm : ByteArray) (f : List Va → Option (List Va)) : Db × Bool :=
  match idxN (ds.map fun d => d.1) nm with
  | none => (ds, false)
  | some j => if dbB xs ds = true then (match f (rowsAt ds j) with
    | none => (ds, false)
    | some rs => if dbB xs (ds.set j (nm, rs)) = true then (ds.set j (nm, rs), true) else (ds, false)) else (ds, false)
theorem chgD_none {xs : Sc} {ds : Db} {nm : ByteArray} {f : List Va → Option (List Va)} (h : idxN (ds.map fun d => d.1) nm = none) : chgD xs ds nm f = (ds, false) := by unfold chgD; rw [h]
theorem chgD_bad {xs : Sc} {ds : Db} {nm : ByteArray} {f : List Va → Option (List Va)} {j : Nat} (h : idxN (ds.map fun d => d.1) nm = some j) (hb : dbB xs ds = false) : chgD xs ds nm f = (ds, false) := by unfold chgD; rw [h]; simp [hb]
theorem chgD_no {xs : Sc} {ds : Db} {nm : ByteArray} {f : List Va → Option (List Va)} {j : Nat} (h : idxN (ds.map fun d => d.1) nm = some j) (hb : dbB xs ds = true) (hf : f (rowsAt ds j) = none) : chgD xs ds nm f = (ds, false) := by unfold chgD; rw [h]; simp [hb, hf]
theorem chgD_some {xs : Sc} {ds : Db} {nm : ByteArray} {f : List Va → Option (List Va)} {j : Nat} {rs : List Va} (h : idxN (ds.map fun d => d.1) nm = some j) (hb : dbB xs ds = true) (hf : f (rowsAt ds j) = some rs) : chgD xs ds nm f = if dbB xs (ds.set j (nm, rs)) = true then (ds.set j (nm, rs), true) else (ds, false) := by unfold chgD; rw [h]; simp [hb, hf]

/-- the answer of a function that changes rows which are read in w0: the new rows are read in w0, too, and in blocks of its own -/
def ChgPost (f : List Va → Option (List Va)) (rows : List Va) (w0 w : World) (e : Ending) (w' : World) : Prop :=
  Below w.heap.size w w' ∧ ((f rows = none ∧ e = .returned (.tuple #[.slice none 0 0, .bool false])) ∨ ∃ rs A d, f rows = some rs ∧ e = .returned (.tuple #[.slice A rs.length d, .bool true]) ∧ rs.length ≤ d ∧ rs.length ≤ 9223372036854775807 ∧ ∀ U, Held (fun i => i < w0.heap.size ∨ w.heap.size ≤ i) w' U → RVas U A rs)
/-- the cells of a row of the call's own are a list of values -/
theorem rvas_row {w : World} {base n c : Nat} {A : Option Addr} {cells : List Value} {rs : List Va} (h : w.ownsRow base 47 4 (.slice A n c) n cells) (hn : rs.length = n) (hr : ∀ j t, rs[j]? = some t → RVa w t (part4 cells j)) : RVas w A rs := by
  refine ⟨part4 cells, fun j t hj => ⟨hr j t hj, ?_⟩⟩
  have hjl := (List.getElem?_eq_some_iff.1 hj).1
  obtain ⟨g, rfl⟩ : ∃ g, A = some ⟨g, 0, none⟩ := by
    rcases h.2 with ⟨_, h2⟩ | ⟨g, cap, cur, h1, _⟩
    · omega
    · injection h1 with h1 _ _
      exact ⟨g, h1⟩
  refine ⟨_, rfl, fun i u hi => ?_⟩
  have hl := (hr j t hj).len
  have hi4 : i < 4 := by
    have := (List.getElem?_eq_some_iff.1 hi).1
    omega
  rw [part4_get _ _ _ hi4] at hi
  exact h.cells (g := g) rfl _ u hi
theorem part4_apps {xs ys : List Value} {n j : Nat} (hx : xs.length = n * 4) (hj : j < n) : part4 (xs ++ ys) j = part4 xs j := part4_ext fun i hi => by rw [List.getElem?_append_left (by omega)]
theorem part4_behind {xs ys : List Value} {n j : Nat} (hx : xs.length = n * 4) : part4 (xs ++ ys) (n + j) = part4 ys j := by
  unfold part4
  rw [show (n + j) * 4 = xs.length + j * 4 by omega, List.drop_append]
  rw [List.drop_eq_nil_of_le (by omega), List.nil_append, show xs.length + j * 4 - xs.length = j * 4 by omega]

/-- the cells of a list of any kind, one behind the other -/
theorem rl_cells {α : Type} {a : Kd α} (hone : ∀ {w : World} {x : α} {cs : List Value}, a.R w x cs → ∀ u ∈ cs, u.oneCell' = true) {w : World} {A : Option Addr} {ks : List α} (h : RL a w A ks) : ∃ news : List Value, news.length = ks.length * a.n ∧ Sl w A news ∧ (∀ u ∈ news, u.oneCell' = true) ∧ ∀ j x, ks[j]? = some x → a.R w x (partK a.n news j) := by
  obtain ⟨ps, hp⟩ := h
  have go : ∀ k, k ≤ ks.length → ∃ news : List Value, news.length = k * a.n ∧ Sl w A news ∧ (∀ u ∈ news, u.oneCell' = true) ∧ ∀ j x, j < k → ks[j]? = some x → a.R w x (partK a.n news j) := by
    intro k
    induction k with
    | zero => intro _; exact ⟨[], by simp, fun j u hj => by simp at hj, fun u hu => by simp at hu, fun j t hj => by omega⟩
    | succ k ih =>
      intro hk
      obtain ⟨news, h1, h2, h3, h4⟩ := ih (by omega)
      obtain ⟨hr, ad, hA, hc⟩ := hp k _ (List.getElem?_eq_getElem (show k < ks.length by omega))
      have hl := a.len hr
      refine ⟨news ++ ps k, by rw [List.length_append, h1, hl, Nat.succ_mul], fun j u hj => ?_, fun u hu => ?_, fun j x hj hx => ?_⟩
      · rcases Nat.lt_or_ge j news.length with hlt | hge
        · rw [List.getElem?_append_left hlt] at hj
          exact h2 j u hj
        · rw [List.getElem?_append_right hge] at hj
          refine ⟨ad, hA, ?_⟩
          have e : j = k * a.n + (j - news.length) := by omega
          rw [e]
          exact hc _ u hj
      · rcases List.mem_append.1 hu with hu | hu
        · exact h3 u hu
        · exact hone hr u hu
      · rcases Nat.lt_or_ge j k with hlt | hge
        · rw [partK_app h1 hlt]
          exact h4 j x hlt hx
        · have ej : j = k := by omega
          subst ej
          rw [List.getElem?_eq_getElem (by omega)] at hx
          injection hx with hx
          subst hx
          rw [partK_end h1 hl]
          exact hr
  obtain ⟨news, h1, h2, h3, h4⟩ := go ks.length (Nat.le_refl _)
  exact ⟨news, h1, h2, h3, fun j x hj => h4 j x (List.getElem?_eq_some_iff.1 hj).1 hj⟩
theorem kDd_one {w : World} {x : Dd} {cs : List Value} (h : kDd.R w x cs) : ∀ u ∈ cs, u.oneCell' = true := by
  obtain ⟨TA, ta, td, rfl, _⟩ := kDd_open h
  intro u hu
  simp at hu
  rcases hu with rfl | rfl <;> rfl
/-- a database whose j-th rows are others -/
theorem rl_set {w U : World} {s : Db} {base g c n j m d : Nat} {cells : List Value} {nm : ByteArray} {rs : List Va} {B : Option Addr} (hn : s.length = n) (h : U.ownsRow base 66 2 (.slice (some ⟨g, 0, none⟩) n c) n (cells.set (j * 2 + 1) (.slice B m d))) (hcl : cells.length = n * 2)
    (hr : ∀ i x, s[i]? = some x → kDd.R w x (partK 2 cells i)) (hb : Below w.heap.size w U) (hj : j < s.length) (hnm : s[j].1 = nm) (hm : m = rs.length) (hrs : RVas U B rs) (hld : rs.length ≤ d) (hl : rs.length ≤ 9223372036854775807) : RL kDd U (some ⟨g, 0, none⟩) (s.set j (nm, rs)) := by
  refine ⟨partK 2 (cells.set (j * 2 + 1) (.slice B m d)), fun i x hi => ⟨?_, _, rfl, fun q u hq => ?_⟩⟩
  · by_cases e : i = j
    · subst e
      rw [List.getElem?_set_self hj] at hi
      injection hi with hi
      subst hi
      obtain ⟨TA, ta, td, hcs, hs, _⟩ := kDd_open (hr i _ (List.getElem?_eq_getElem hj))
      have e2 : partK 2 (cells.set (i * 2 + 1) (.slice B m d)) i = [.string nm, .slice B rs.length d] := by
        have g0 : ∀ q, q < 2 → cells[i * 2 + q]? = [Value.string s[i].1, .slice TA ta td][q]? := fun q hq => by rw [← partK_get _ _ _ _ hq, hcs]
        apply List.ext_getElem?
        intro q
        match q with
        | 0 => rw [partK_get _ _ _ _ (by omega), List.getElem?_set_ne (by omega), g0 0 (by omega), ← hnm]; rfl
        | 1 => rw [partK_get _ _ _ _ (by omega), List.getElem?_set_self (by omega), hm]; rfl
        | q + 2 =>
          unfold partK
          rw [List.getElem?_take_eq_none (by omega)]
          rfl
      rw [e2]
      exact ⟨[.string nm], [.slice B rs.length d], rfl, ⟨rfl, by rw [← hnm]; exact hs⟩, ⟨B, d, rfl, hl, hld, hrs⟩⟩
    · rw [List.getElem?_set_ne (fun h => e h.symm)] at hi
      have e2 : partK 2 (cells.set (j * 2 + 1) (.slice B m d)) i = partK 2 cells i := by
        apply List.ext_getElem?
        intro q
        by_cases hq : q < 2
        · rw [partK_get _ _ _ _ hq, partK_get _ _ _ _ hq, List.getElem?_set_ne (by omega)]
        · unfold partK
          rw [List.getElem?_take_eq_none (by omega), List.getElem?_take_eq_none (by omega)]
      rw [e2]
      exact kDd.keep (hr i x hi) hb
  · have hq2 : q < 2 := by
      have := (List.getElem?_eq_some_iff.1 hq).1
      unfold partK at this
      rw [List.length_take] at this
      omega
    rw [partK_get _ _ _ _ hq2] at hq
    exact h.cells (g := g) rfl _ u hq
end Go.Proofs.YtlikmgkjilmjpaaGreat

/-
  A database in new memory, handed back beside a truth.
-/
namespace Go.Proofs.YtlikmgkjilmjpaaGreat
open Go.RowKit

def MadeChg (p : Db × Bool) (w : World) (e : Ending) (w' : World) : Prop :=
  ∃ (A : Option Addr) (d : Nat) (fp : List Nat), e = .returned (.tuple #[.agg #[.slice A p.1.length d], .bool p.2]) ∧ ODb w' p.1 [.slice A p.1.length d] fp ∧ (∀ b ∈ fp, w.heap.size ≤ b ∧ b < w'.heap.size) ∧ Below w.heap.size w w'
theorem made_chg {w W2 w3 U : World} {s : Db} {e : Ending} {G : Nat} {b : Bool} (h : MadeDb s W2 e w3) (hb : Below w.heap.size w W2) (hG : G < W2.heap.size) (hwG : w.heap.size ≤ G) (hU : w3.grownBy U (some G)) :
    ∃ (A : Option Addr) (d : Nat), e = .returned (.agg #[.slice A s.length d]) ∧ MadeChg (s, b) w (.returned (.tuple #[.agg #[.slice A s.length d], .bool b])) U := by
  obtain ⟨A, d, fp, rfl, ho, hfp, hb3⟩ := h
  have hsU := hU.size
  have hs := hb.size
  have hs3 := hb3.size
  refine ⟨A, d, rfl, A, d, fp, rfl, ?_, fun q hq => by have := hfp q hq; omega, ?_⟩
  · exact ODb.ol.2 (OL.held (ODb.ol.1 ho) (K := fun i => some i ≠ some G) ⟨hU.os, hU.tape, hU.output, hU.size, fun i hi hd => hU.block i hi hd⟩ (fun q hq e1 => by injection e1 with e1; have := hfp q hq; omega))
  · have h1 := hb.trans (hb3.mono hs)
    exact h1.grown hU h1.size (fun q hq => by injection hq with hq; omega)
theorem made_chgN {w W2 w3 U : World} {s : Db} {e : Ending} {G n : Nat} {b : Bool} (hn : s.length = n) (h : MadeDb s W2 e w3) (hb : Below w.heap.size w W2) (hG : G < W2.heap.size) (hwG : w.heap.size ≤ G) (hU : w3.grownBy U (some G)) :
    ∃ (A : Option Addr) (d : Nat), e = .returned (.agg #[.slice A n d]) ∧ MadeChg (s, b) w (.returned (.tuple #[.agg #[.slice A n d], .bool b])) U := by
  subst hn
  exact made_chg h hb hG hwG hU
theorem made_chg2 {w W2 w3 U : World} {p : Db × Bool} {e : Ending} {G : Nat} (h : MadeChg p W2 e w3) (hb : Below w.heap.size w W2) (hG : G < W2.heap.size) (hwG : w.heap.size ≤ G) (hU : w3.grownBy U (some G)) :
    ∃ (A : Option Addr) (d : Nat), e = .returned (.tuple #[.agg #[.slice A p.1.length d], .bool p.2]) ∧ MadeChg p w (.returned (.tuple #[.agg #[.slice A p.1.length d], .bool p.2])) U := by
  obtain ⟨A, d, fp, rfl, ho, hfp, hb3⟩ := h
  have hsU := hU.size
  have hs := hb.size
  have hs3 := hb3.size
  refine ⟨A, d, rfl, A, d, fp, rfl, ?_, fun q hq => by have := hfp q hq; omega, ?_⟩
  · exact ODb.ol.2 (OL.held (ODb.ol.1 ho) (K := fun i => some i ≠ some G) ⟨hU.os, hU.tape, hU.output, hU.size, fun i hi hd => hU.block i hi hd⟩ (fun q hq e1 => by injection e1 with e1; have := hfp q hq; omega))
  · have h1 := hb.trans (hb3.mono hs)
    exact h1.grown hU h1.size (fun q hq => by injection hq with hq; omega)
theorem wv_insF {v : Va} {rows rs : List Va} (hwv : wv v ≤ 1048576) (h1 : ∀ x ∈ rows, wv x ≤ 1048576) (hrs : insF v rows = some rs) : ∀ x ∈ rs, wv x ≤ 1048576 := by
  have e : rows ++ [v] = rs := by simpa [insF] using hrs
  subst e
  intro x hx
  rcases List.mem_append.1 hx with hx | hx
  · exact h1 x hx
  · simp at hx; subst hx; exact hwv
theorem wv_delF {k : Int} {rows rs : List Va} (h1 : ∀ x ∈ rows, wv x ≤ 1048576) (hrs : delF k rows = some rs) : ∀ x ∈ rs, wv x ≤ 1048576 := by
  unfold delF at hrs
  split at hrs
  · injection hrs with e
    subst e
    intro x hx
    rcases List.mem_append.1 hx with hx | hx
    · exact h1 x (List.mem_of_mem_take hx)
    · exact h1 x (List.mem_of_mem_drop hx)
  · cases hrs
theorem rl_at2w {w wr : World} {A : Option Addr} {xs : Db} (hp : RL kDd w A xs) (hb : Below w.heap.size w wr) {k : Nat} (hk : k < xs.length) : ∃ (ad p : Addr) (c0 c1 : Value), A = some ad ∧ ad.add (k * 2) = p ∧ kDd.R wr xs[k] [c0, c1] ∧ wr.cell? p = some c0 ∧ wr.cell? ⟨p.block, p.off + 1, none⟩ = some c1 ∧ kDd.R w xs[k] [c0, c1] := by
  obtain ⟨ad, p, c0, c1, h1, h2, h3, h4, h5⟩ := rl_at2 kDd_n hp (Below.refl _ _) hk
  exact ⟨ad, p, c0, c1, h1, h2, kDd.keep h3 hb, (hb.cell (World.block_lt_of_cell? w _ h4)).trans h4, (hb.cell (World.block_lt_of_cell? w _ h5)).trans h5, h3⟩
theorem own_someG {w : World} {base size n : Nat} {e : TypeId} {A : Option Addr} {c : Nat} {xs : List Value} (h : w.ownsRow base e size (.slice A n c) n xs) (hn : 0 < n) : ∃ g, A = some ⟨g, 0, none⟩ := by
  rcases h.2 with ⟨_, h2⟩ | ⟨g, cap, cur, h1, _⟩
  · omega
  · injection h1 with h1 _ _
    exact ⟨g, h1⟩
end Go.Proofs.YtlikmgkjilmjpaaGreat

/-
  An own list of a kind: one element replaced; its cells cut short. Hangs on no program.
-/
namespace Go.Proofs.YtlikmgkjilmjpaaGreat
open Go.RowKit
section
variable {α : Type}
theorem flat_dis {n : Nat} {fs : Nat → List Nat} (h : ((List.range n).flatMap fs).Nodup) {i k : Nat} (hi : i < n) (hk : k < n) (hne : i ≠ k) : ∀ p ∈ fs i, p ∉ fs k := by
  have hP := (List.pairwise_flatMap.1 h).2
  rw [List.pairwise_iff_getElem] at hP
  intro p hp hq
  rcases Nat.lt_or_gt_of_ne hne with hlt | hlt
  · have := hP i k (by simpa using hi) (by simpa using hk) hlt p (by simpa using hp) p (by simpa using hq)
    exact this rfl
  · have := hP k i (by simpa using hk) (by simpa using hi) hlt p (by simpa using hq) p (by simpa using hp)
    exact this rfl
theorem flat_set {n j : Nat} {fs : Nat → List Nat} {fx : List Nat} (h : ((List.range n).flatMap fs).Nodup) (hj : j < n) (hx : fx.Nodup) (hfx : ∀ b ∈ fx, b ∈ fs j ∨ b ∉ (List.range n).flatMap fs) : ((List.range n).flatMap (fun i => if i = j then fx else fs i)).Nodup := by
  have hP := List.pairwise_flatMap.1 h
  have hd : ∀ i, i < n → i ≠ j → ∀ p ∈ fx, p ∉ fs i := fun i hi hne p hp hq => by
    rcases hfx p hp with h1 | h1
    · exact flat_dis h hi hj hne p hq h1
    · exact h1 (List.mem_flatMap.2 ⟨i, List.mem_range.2 hi, hq⟩)
  refine List.pairwise_flatMap.2 ⟨fun i hi => ?_, ?_⟩
  · by_cases e : i = j
    · simp only [e, if_true]; exact hx
    · simp only [e, if_false]; exact hP.1 i hi
  · rw [List.pairwise_iff_getElem]
    intro i k hi hk hik p hp q hq e1
    subst e1
    have hi' : i < n := by simpa using hi
    have hk' : k < n := by simpa using hk
    rw [List.getElem_range] at hp hq
    by_cases e : i = j
    · have ek : k ≠ j := by omega
      simp only [e, if_true] at hp
      simp only [ek, if_false] at hq
      exact hd k hk' ek p hp hq
    · simp only [e, if_false] at hp
      by_cases ek : k = j
      · simp only [ek, if_true] at hq
        exact hd i hi' e p hq hp
      · simp only [ek, if_false] at hq
        exact flat_dis h hi' hk' (by omega) p hp hq
/-- one element replaced: what lies in the others is kept, the new one lies in blocks of the old one or in new ones -/
theorem olc_set {a : Kd α} {e : TypeId} {w w' : World} {xs : List α} {x : α} {A : Option Addr} {d j : Nat} {cells cells' rs : List Value} {fs : Nat → List Nat} {fp fx : List Nat} (h : OLc a e w xs A d cells fs fp) (hj : j < xs.length)
    (hrow : w'.ownsRow 0 e a.n (.slice A xs.length d) xs.length cells') (hpj : partK a.n cells' j = rs) (hpo : ∀ i, i ≠ j → partK a.n cells' i = partK a.n cells i)
    (hx : a.O w' x rs fx) (hfx : ∀ b ∈ fx, b ∈ fs j ∨ b ∉ fp) (hH : Held (fun b => b ∉ blk A ∧ b ∉ fs j) w w') :
    ∃ fp', OLc a e w' (xs.set j x) A d cells' (fun i => if i = j then fx else fs i) fp' ∧ ∀ b ∈ fp', b ∈ fp ∨ b ∈ fx := by
  obtain ⟨h1, h2, h3, rfl, h5⟩ := h
  obtain ⟨nA, nF, dAF⟩ := List.nodup_append.1 h5
  have hfj : ∀ i, i < xs.length → ∀ b ∈ fs i, b ∈ (List.range xs.length).flatMap fs := fun i hi b hm => List.mem_flatMap.2 ⟨i, List.mem_range.2 hi, hm⟩
  refine ⟨blk A ++ (List.range xs.length).flatMap (fun i => if i = j then fx else fs i), ⟨by rw [List.length_set]; exact h1, by rw [List.length_set]; exact hrow, fun i y hi => ?_, by rw [List.length_set], ?_⟩, ?_⟩
  · have hil : i < xs.length := by have := (List.getElem?_eq_some_iff.1 hi).1; rwa [List.length_set] at this
    by_cases ei : i = j
    · subst ei
      rw [List.getElem?_set_self hj] at hi
      injection hi with hi
      subst hi
      show a.O _ _ _ (if i = i then fx else fs i)
      rw [if_pos rfl, hpj]
      exact hx
    · rw [List.getElem?_set_ne (fun h => ei h.symm)] at hi
      show a.O _ _ _ (if i = j then fx else fs i)
      rw [if_neg ei, hpo i ei]
      exact a.held (h3 i y hi) hH fun b hb => ⟨fun hA => dAF b hA b (hfj i hil b hb) rfl, fun hF => flat_dis nF hil hj ei b hb hF⟩
  · refine List.nodup_append.2 ⟨nA, flat_set nF hj (a.nodup hx) (fun b hb => ?_), fun p hp q hq e1 => ?_⟩
    · rcases hfx b hb with h | h
      · exact .inl h
      · exact .inr fun h' => h (List.mem_append.2 (.inr h'))
    · subst e1
      obtain ⟨i, hi, hm⟩ := List.mem_flatMap.1 hq
      have hil := List.mem_range.1 hi
      by_cases ei : i = j
      · simp only [ei, if_true] at hm
        rcases hfx p hm with h | h
        · exact dAF p hp p (hfj j hj p h) rfl
        · exact h (List.mem_append.2 (.inl hp))
      · simp only [ei, if_false] at hm
        exact dAF p hp p (hfj i hil p hm) rfl
  · intro b hb
    rcases List.mem_append.1 hb with h | h
    · exact .inl (List.mem_append.2 (.inl h))
    · obtain ⟨i, hi, hm⟩ := List.mem_flatMap.1 h
      have hil := List.mem_range.1 hi
      by_cases ei : i = j
      · simp only [ei, if_true] at hm
        exact .inr hm
      · simp only [ei, if_false] at hm
        exact .inl (List.mem_append.2 (.inr (hfj i hil b hm)))
theorem own_cut {w : World} {base size n c : Nat} {e : TypeId} {A : Option Addr} {cells : List Value} (h : w.ownsRow base e size (.slice A n c) n cells) {k : Nat} (hk : k ≤ n) : w.ownsRow base e size (.slice A k c) k (cells.take (k * size)) := by
  obtain ⟨h1, h2⟩ := h
  have hm := Nat.mul_le_mul_right size hk
  refine ⟨by rw [List.length_take]; omega, ?_⟩
  rcases h2 with ⟨h0, hn⟩ | ⟨g, cap, cur, hv, hg, hh, hn, hcap, hsz, htake⟩
  · cases h0
    obtain rfl : k = 0 := by omega
    exact .inl ⟨rfl, rfl⟩
  · cases hv
    refine .inr ⟨g, c, cur, rfl, hg, hh, by omega, hcap, hsz, ?_⟩
    rw [← htake, List.take_take, Nat.min_eq_left hm]
theorem del_get {β : Type} {xs : List β} {k : Nat} (hk : k < xs.length) (i : Nat) : (xs.take k ++ xs.drop (k + 1))[i]? = xs[if i < k then i else i + 1]? := by
  have hl : (xs.take k).length = k := by rw [List.length_take]; omega
  by_cases h : i < k
  · rw [List.getElem?_append_left (by omega), if_pos h, List.getElem?_take_of_lt h]
  · rw [List.getElem?_append_right (by omega), if_neg h, List.getElem?_drop, hl]
    congr 1
    omega
theorem partK_del {β : Type} {n m k : Nat} {cells : List β} (hl : cells.length = m * n) (hk : k < m) (i : Nat) : partK n (cells.take (k * n) ++ cells.drop ((k + 1) * n)) i = partK n cells (if i < k then i else i + 1) := by
  have hkm : k * n + n ≤ m * n := by
    have := Nat.mul_le_mul_right n (show k + 1 ≤ m from hk)
    rwa [Nat.succ_mul] at this
  have hl1 : (cells.take (k * n)).length = k * n := by rw [List.length_take]; omega
  apply List.ext_getElem?
  intro q
  by_cases hq : q < n
  · rw [partK_get _ _ _ _ hq, partK_get _ _ _ _ hq]
    by_cases h : i < k
    · have : i * n + n ≤ k * n := by
        have := Nat.mul_le_mul_right n (show i + 1 ≤ k from h)
        rwa [Nat.succ_mul] at this
      rw [List.getElem?_append_left (by omega), if_pos h, List.getElem?_take_of_lt (by omega)]
    · have : k * n ≤ i * n := Nat.mul_le_mul_right n (by omega)
      rw [List.getElem?_append_right (by omega), if_neg h, List.getElem?_drop, hl1]
      congr 1
      rw [Nat.succ_mul, Nat.succ_mul]
      omega
  · unfold partK
    rw [List.getElem?_take_eq_none (by omega), List.getElem?_take_eq_none (by omega)]
/-- one element taken out -/
theorem olc_del {a : Kd α} {e : TypeId} {w w' : World} {xs : List α} {A A' : Option Addr} {d d' k base : Nat} {cells : List Value} {fs : Nat → List Nat} {fp : List Nat} (h : OLc a e w xs A d cells fs fp) (hk : k < xs.length)
    (hown : w'.ownsRow base e a.n (.slice A' (k + (xs.length - (k + 1))) d') (k + (xs.length - (k + 1))) (cells.take (k * a.n) ++ cells.drop ((k + 1) * a.n))) (hH : Held (fun b => b ∉ blk A) w w') (hA' : ∀ b ∈ blk A', b ∈ blk A ∨ b ∉ fp) :
    ∃ fs' fp', OLc a e w' (xs.take k ++ xs.drop (k + 1)) A' d' (cells.take (k * a.n) ++ cells.drop ((k + 1) * a.n)) fs' fp' ∧ ∀ b ∈ fp', b ∈ fp ∨ b ∈ blk A' := by
  obtain ⟨h1, h2, h3, rfl, h5⟩ := h
  obtain ⟨nA, nF, dAF⟩ := List.nodup_append.1 h5
  have hl : (xs.take k ++ xs.drop (k + 1)).length = k + (xs.length - (k + 1)) := by rw [List.length_append, List.length_take, List.length_drop]; omega
  have hcl : cells.length = xs.length * a.n := h2.1
  have hfj : ∀ i, i < xs.length → ∀ b ∈ fs i, b ∈ (List.range xs.length).flatMap fs := fun i hi b hm => List.mem_flatMap.2 ⟨i, List.mem_range.2 hi, hm⟩
  have hP := (List.pairwise_flatMap.1 nF).1
  have hsh : ∀ i, i < k + (xs.length - (k + 1)) → (if i < k then i else i + 1) < xs.length := fun i hi => by split <;> omega
  refine ⟨fun i => fs (if i < k then i else i + 1), blk A' ++ (List.range (k + (xs.length - (k + 1)))).flatMap (fun i => fs (if i < k then i else i + 1)), ⟨by rw [hl]; omega, by rw [hl]; exact own_zero hown, fun i y hi => ?_, by rw [hl], ?_⟩, ?_⟩
  · rw [del_get hk] at hi
    rw [partK_del hcl hk]
    have hil := (List.getElem?_eq_some_iff.1 hi).1
    exact a.held (h3 _ y hi) hH fun b hb hA => dAF b hA b (hfj _ hil b hb) rfl
  · refine List.nodup_append.2 ⟨blk_nodup _, List.pairwise_flatMap.2 ⟨fun i hi => hP _ (List.mem_range.2 (hsh i (List.mem_range.1 hi))), ?_⟩, fun p hp q hq e1 => ?_⟩
    · rw [List.pairwise_iff_getElem]
      intro i j hi hj hij p hp q hq e1
      subst e1
      have hi' : i < k + (xs.length - (k + 1)) := by simpa using hi
      have hj' : j < k + (xs.length - (k + 1)) := by simpa using hj
      rw [List.getElem_range] at hp hq
      exact flat_dis nF (hsh i hi') (hsh j hj') (by split <;> split <;> omega) p hp hq
    · subst e1
      obtain ⟨i, hi, hm⟩ := List.mem_flatMap.1 hq
      have := hfj _ (hsh i (List.mem_range.1 hi)) p hm
      rcases hA' p hp with h | h
      · exact dAF p h p this rfl
      · exact h (List.mem_append.2 (.inr this))
  · intro b hb
    rcases List.mem_append.1 hb with h | h
    · exact .inr h
    · obtain ⟨i, hi, hm⟩ := List.mem_flatMap.1 h
      exact .inl (List.mem_append.2 (.inr (hfj _ (hsh i (List.mem_range.1 hi)) b hm)))
end
end Go.Proofs.YtlikmgkjilmjpaaGreat
