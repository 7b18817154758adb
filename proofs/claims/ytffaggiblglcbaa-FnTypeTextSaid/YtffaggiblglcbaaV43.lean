/-
  Merged by program: TyBS.
-/
import Derived.Test.YtffaggiblglcbaaV33
import Derived.Test.YtffaggiblglcbaaV39

/-
  A drawn type in a variable, before it is bent: what is known of it, and the steps that bend it.
-/
namespace Go.Proofs.Ytffaggiblglcbaa
open Go.RowKit

/-- the variable is the block G, the result's cell the block H (the first new one) -/
structure BS (b B : Nat) (w : World) (H G : Nat) (t : Ty) (fp : List Nat) (q : Int) (L A : Option Addr) (n c m d : Nat) (wr : World) : Prop where
  box : Box3 wr G 27 (.int .i64 q) (.slice L n c) (.slice A m d)
  res : Box3 wr H 27 (.int .i64 0) (.slice none 0 0) (.slice none 0 0)
  own : OTy wr t [.int .i64 q, .slice L n c, .slice A m d] fp
  bd : ∀ x ∈ fp, H < x ∧ x < wr.heap.size ∧ x ≠ G
  wb : wt t ≤ B
  cur : Cur wr b
  gr : w.grownBy wr (some b)
  num : b < w.heap.size ∧ w.heap.size = H ∧ H < G

section
variable {b B : Nat} {w : World} {H G : Nat} {t : Ty} {fp : List Nat} {q : Int} {L A : Option Addr} {n c m d : Nat} {wr w2 : World}
theorem BS.keep (h : BS b B w H G t fp q L A n c m d wr) {row : Option Nat} (hg : wr.grownBy w2 row) (hrow : row = none ∨ row = some b) (hc : Cur w2 b) : BS b B w H G t fp q L A n c m d w2 := by
  obtain ⟨n1, n2, n3⟩ := h.num
  have hne : ∀ x, b < x → some x ≠ row := by
    intro x hx e
    rcases hrow with rfl | rfl
    · cases e
    · injection e with e; omega
  refine ⟨h.box.grown hg (hne G (by omega)), h.res.grown hg (hne H (by omega)), h.own.keep hg (fun x hx => hne x (by have := h.bd x hx; omega)), fun x hx => ⟨(h.bd x hx).1, Nat.lt_of_lt_of_le (h.bd x hx).2.1 hg.size, (h.bd x hx).2.2⟩, h.wb, hc, ?_, h.num⟩
  rcases hrow with rfl | rfl
  · exact grown_trans_row h.gr ⟨hg.os, hg.tape, hg.output, hg.size, fun i hi _ => hg.block i hi (by simp)⟩
  · exact grown_trans_row h.gr hg
theorem BS.under (h : BS b B w H G t fp q L A n c m d wr) (hb : Below wr.heap.size wr w2) : BS b B w H G t fp q L A n c m d w2 :=
  h.keep (row := none) (grown_of_below hb) (.inl rfl) (h.cur.below hb)
theorem BS.more (h : BS b B w H G t fp q L A n c m d wr) {B' : Nat} (hB : B ≤ B') : BS b B' w H G t fp q L A n c m d wr := { h with wb := Nat.le_trans h.wb hB }
theorem BS.kind (h : BS b B w H G t fp q L A n c m d wr) {k : Int} (h0 : -9223372036854775808 ≤ k) (h1 : k ≤ 9223372036854775807) :
    BS b B w H G (.node ⟨k, t.top.labels⟩ t.kids) fp k L A n c m d (wr.setCell ⟨G, 0, none⟩ (.int .i64 k)) := by
  obtain ⟨n1, n2, n3⟩ := h.num
  obtain ⟨a, ks⟩ := t
  have hgU : wr.grownBy (wr.setCell ⟨G, 0, none⟩ (.int .i64 k)) (some G) := grown_set (World.grownBy.refl _ _) _
  obtain ⟨L', A', c', d', xs, fs, he, hf, haok, hl, hcl, hrow, hkids, hnd⟩ := otree h.own
  injection he with e0 he
  injection he with e1 he
  injection he with e2 _
  refine ⟨h.box.set0 _, h.res.far (by show H ≠ G; omega) _, ?_, fun x hx => ⟨(h.bd x hx).1, Nat.lt_of_lt_of_le (h.bd x hx).2.1 hgU.size, (h.bd x hx).2.2⟩, ?_, h.cur.grownNew hgU (fun g hgg => by injection hgg with hgg; omega), grown_new h.gr hgU (fun g hgg => by injection hgg with hgg; omega), h.num⟩
  · have hn := OTy.node (w := wr) ⟨k, a.labels⟩ ks L' A' c' d' xs fs ⟨h0, h1, haok.2.2.1, haok.2.2.2⟩ hl hcl hrow hkids hnd
    rw [← hf] at hn
    have e3 : [Value.int .i64 k, .slice L' a.labels.length c', .slice A' ks.length d'] = [.int .i64 k, .slice L n c, .slice A m d] := by rw [e1, e2]
    have hn2 : OTy wr (.node ⟨k, a.labels⟩ ks) [.int .i64 k, .slice L n c, .slice A m d] fp := by rw [← e3]; exact hn
    exact hn2.keep hgU (fun x hx e => by injection e with e; exact (h.bd x hx).2.2 e)
  · have e4 : wt (.node ⟨k, a.labels⟩ ks) = wt (.node a ks) := by rw [wt_node, wt_node]; rfl
    show wt (.node ⟨k, a.labels⟩ ks) ≤ B
    rw [e4]; exact h.wb
/-- a new type in the variable -/
theorem BS.newT (h : BS b B w H G t fp q L A n c m d wr) {s : Ty} {w3 : World} {e : Ending} (hm : MadeT s wr e w3) {B' : Nat} (hB : wt s ≤ B') :
    ∃ (L' A' : Option Addr) (c' d' : Nat) (gp : List Nat), e = .returned (.agg #[.int .i64 s.top.kind, .slice L' s.top.labels.length c', .slice A' s.kids.length d']) ∧ Box3 w3 G 27 (.int .i64 q) (.slice L n c) (.slice A m d) ∧
      BS b B' w H G s gp s.top.kind L' A' s.top.labels.length c' s.kids.length d' (((w3.setCell ⟨G, 0, none⟩ (.int .i64 s.top.kind)).setCell ⟨G, 1, none⟩ (.slice L' s.top.labels.length c')).setCell ⟨G, 2, none⟩ (.slice A' s.kids.length d')) := by
  obtain ⟨n1, n2, n3⟩ := h.num
  obtain ⟨L', A', c', d', gp, rfl, hot, hfp, hb3⟩ := hm
  have hbx := h.box.under hb3 h.box.lt
  have hs3 := hb3.size
  have hgl := h.box.lt
  obtain ⟨U, hU⟩ : ∃ U, ((w3.setCell ⟨G, 0, none⟩ (.int .i64 s.top.kind)).setCell ⟨G, 1, none⟩ (.slice L' s.top.labels.length c')).setCell ⟨G, 2, none⟩ (.slice A' s.kids.length d') = U := ⟨_, rfl⟩
  have hgU : w3.grownBy U (some G) := by rw [← hU]; exact grown_set (grown_set (grown_set (World.grownBy.refl _ _) _) _) _
  have hsU := hgU.size
  refine ⟨L', A', c', d', gp, rfl, hbx, ?_⟩
  rw [hU]
  refine ⟨?_, ?_, hot.keep hgU (fun x hx e => by injection e with e; have := (hfp x hx).1; omega), fun x hx => ?_, hB, (h.cur.below hb3).grownNew hgU (fun g hgg => by injection hgg with hgg; omega), grown_new (grown_trans_row h.gr (grown_of_below hb3)) hgU (fun g hgg => by injection hgg with hgg; omega), h.num⟩
  · rw [← hU]; exact ((hbx.set0 _).set1 _).set2 _
  · exact (h.res.under hb3 h.res.lt).grown hgU (fun e => by injection e with e; omega)
  · have := hfp x hx
    omega
/-- one label more -/
theorem BS.label (h : BS b B w H G t fp q L A n c m d wr) {x : ByteArray} (hx : x.size ≤ 4) (hn : n + 1 ≤ 1000) {L' : Option Addr} {c' : Nat} {w4 : World} {xs : List Value} (hxs : xs = t.top.labels.map Value.string)
    (hown : w4.ownsRow 0 9 1 (.slice L' (n + 1) c') (n + 1) (xs ++ [.string x])) (hg : wr.grownBy w4 (Value.slice L n c).ownBlock) (hor : (Value.slice L' (n + 1) c').ownBlock = (Value.slice L n c).ownBlock ∨ (Value.slice L' (n + 1) c').ownBlock = some wr.heap.size) :
    ∃ gp, BS b (B + 5) w H G (.node ⟨q, t.top.labels ++ [x]⟩ t.kids) gp q L' A (n + 1) c' m d (w4.setCell ⟨G, 1, none⟩ (.slice L' (n + 1) c')) := by
  obtain ⟨n1, n2, n3⟩ := h.num
  obtain ⟨a, ks⟩ := t
  obtain ⟨L0, A0, c0, d0, ys, fs, he, hf, haok, hl, hcl, hrow, hkids, hnd⟩ := otree h.own
  injection he with e0 he
  injection he with e1 he
  injection he with e2 _
  injection e0 with _ e0
  injection e1 with e1 e1n e1c
  injection e2 with e2 e2m e2d
  subst e1 e1c e2 e2d
  obtain ⟨nL, nA, nF, dLA, dLF, dAF⟩ := nodup3.1 hnd
  have hgl := h.box.lt
  have hs4 := hg.size
  have hrowL : ∀ g, (Value.slice L n c).ownBlock = some g ↔ g ∈ blk L := blk_own L n c
  have bdx : ∀ y ∈ blk L ++ blk A ++ (List.range ks.length).flatMap fs, H < y ∧ y < wr.heap.size ∧ y ≠ G := fun y hy => h.bd y (by rw [hf]; exact hy)
  have bdL : ∀ y ∈ blk L, H < y ∧ y < wr.heap.size ∧ y ≠ G := fun y hy => bdx y (by simp [hy])
  have hL' : ∀ g ∈ blk L', g ∈ blk L ∨ g = wr.heap.size := by
    intro g hm
    have e := (blk_own L' (n + 1) c' g).2 hm
    rcases hor with h | h
    · rw [h] at e; exact .inl ((hrowL g).1 e)
    · rw [h] at e; injection e with e; exact .inr e.symm
  have notrow : ∀ g, g ∉ blk L → some g ≠ (Value.slice L n c).ownBlock := fun g hm e => hm ((hrowL g).1 e.symm)
  have hGL : G ∉ blk L := fun hm => (bdL G hm).2.2 rfl
  have hHL : H ∉ blk L := fun hm => by have := (bdL H hm).1; omega
  have hbw : ∀ g, (Value.slice L n c).ownBlock = some g → H < g := fun g hgg => (bdL g ((hrowL g).1 hgg)).1
  obtain ⟨U, hU⟩ : ∃ U, w4.setCell ⟨G, 1, none⟩ (.slice L' (n + 1) c') = U := ⟨_, rfl⟩
  have hgU : w4.grownBy U (some G) := by rw [← hU]; exact grown_set (World.grownBy.refl _ _) _
  have hsU := hgU.size
  have hlt' : ∀ g ∈ blk L', g < w4.heap.size := fun g hm => (hown.lt g ((blk_own L' (n + 1) c' g).2 hm)).2
  refine ⟨blk L' ++ blk A ++ (List.range ks.length).flatMap fs, ?_⟩
  rw [hU]
  refine ⟨?_, ?_, ?_, fun y hy => ?_, ?_, (h.cur.grownNew hg (fun g hgg => by have := hbw g hgg; omega)).grownNew hgU (fun g hgg => by injection hgg with hgg; omega), grown_new (grown_new h.gr hg (fun g hgg => by have := hbw g hgg; omega)) hgU (fun g hgg => by injection hgg with hgg; omega), h.num⟩
  · rw [← hU]; exact (h.box.grown hg (notrow G hGL)).set1 _
  · exact (h.res.grown hg (notrow H hHL)).grown hgU (fun e => by injection e with e; omega)
  · have hn2 := OTy.node (w := U) ⟨q, a.labels ++ [x]⟩ ks L' A c' d ys fs ⟨by rw [e0]; exact haok.1, by rw [e0]; exact haok.2.1, by show (a.labels ++ [x]).length ≤ _; rw [List.length_append, ← e1n]; simp; omega, fun y hy => by
        rcases List.mem_append.1 hy with hy | hy
        · exact haok.2.2.2 y hy
        · simp at hy; subst hy; omega⟩
      (by
        show U.ownsRow 0 _ 1 (.slice L' (a.labels ++ [x]).length c') (a.labels ++ [x]).length ((a.labels ++ [x]).map Value.string)
        rw [List.map_append, List.length_append, ← e1n]
        have hxs' : xs = a.labels.map Value.string := hxs
        rw [hxs'] at hown
        exact own_keep hown hgU (fun g hm e => by
          injection e with e
          subst e
          rcases hL' g hm with h1 | h1
          · exact hGL h1
          · omega)) hcl
      (own_keep (own_keep hrow hg (fun g hm => notrow g (fun hm2 => dLA g hm2 hm))) hgU (fun g hm e => by injection e with e; exact (bdx g (by simp [hm])).2.2 e))
      (fun j s hj => ((hkids j s hj).keep hg (fun g hm => notrow g (fun hm2 => dLF g hm2 (flat_mem (List.getElem?_eq_some_iff.1 hj).1 hm)))).keep hgU (fun g hm e => by injection e with e; exact (bdx g (List.mem_append.2 (.inr (flat_mem (List.getElem?_eq_some_iff.1 hj).1 hm)))).2.2 e))
      (nodup3.2 ⟨blk_nodup _, nA, nF, fun g hm hm2 => by
        rcases hL' g hm with h1 | h1
        · exact dLA g h1 hm2
        · have := bdx g (by simp [hm2]); omega, fun g hm hm2 => by
        rcases hL' g hm with h1 | h1
        · exact dLF g h1 hm2
        · have := bdx g (List.mem_append.2 (.inr hm2)); omega, dAF⟩)
    have e3 : [Value.int .i64 q, .slice L' (a.labels ++ [x]).length c', .slice A ks.length d] = [.int .i64 q, .slice L' (n + 1) c', .slice A m d] := by rw [List.length_append, ← e1n, ← e2m]; rfl
    rw [← e3]
    exact hn2
  · rcases List.mem_append.1 hy with hy | hy
    · rcases List.mem_append.1 hy with hy | hy
      · have h2 := hlt' y hy
        rcases hL' y hy with h1 | h1
        · have := bdL y h1; exact ⟨this.1, by omega, this.2.2⟩
        · exact ⟨by omega, by omega, by omega⟩
      · have := bdx y (by simp [hy]); exact ⟨this.1, by omega, this.2.2⟩
    · have := bdx y (List.mem_append.2 (.inr hy)); exact ⟨this.1, by omega, this.2.2⟩
  · have hw := h.wb
    rw [wt_node] at hw
    show wt (.node ⟨q, a.labels ++ [x]⟩ ks) ≤ _
    rw [wt_node]
    have e5 : wtA ⟨q, a.labels ++ [x]⟩ = wtA a + 1 + x.size := by unfold wtA total; simp; omega
    rw [e5]
    omega
/-- one part more: a type without parts -/
theorem BS.part (h : BS b B w H G t fp q L A n c m d wr) (hm : m + 1 ≤ 1000) {A' : Option Addr} {d' : Nat} {w4 : World} {ys : List Value} {p : Int} (hp0 : -9223372036854775808 ≤ p) (hp1 : p ≤ 9223372036854775807) (hys : ∃ fs, fp = blk L ++ blk A ++ (List.range t.kids.length).flatMap fs ∧ ∀ j s, t.kids[j]? = some s → OTy wr s (part3 ys j) (fs j))
    (hyl : ys.length = m * 3) (hown : w4.ownsRow 0 27 3 (.slice A' (m + 1) d') (m + 1) (ys ++ [.int .i64 p, .slice none 0 0, .slice none 0 0])) (hg : wr.grownBy w4 (Value.slice A m d).ownBlock) (hor : (Value.slice A' (m + 1) d').ownBlock = (Value.slice A m d).ownBlock ∨ (Value.slice A' (m + 1) d').ownBlock = some wr.heap.size) :
    ∃ gp, BS b (B + 5) w H G (.node t.top (t.kids ++ [.node ⟨p, []⟩ []])) gp q L A' n c (m + 1) d' (w4.setCell ⟨G, 2, none⟩ (.slice A' (m + 1) d')) := by
  obtain ⟨n1, n2, n3⟩ := h.num
  obtain ⟨a, ks⟩ := t
  obtain ⟨L0, A0, c0, d0, _, _, he, _, haok, hl, hcl, _, _, _⟩ := otree h.own
  injection he with e0 he
  injection he with e1 he
  injection he with e2 _
  injection e0 with _ e0
  injection e1 with e1 e1n e1c
  injection e2 with e2 e2m e2d
  subst e1 e1c e2 e2d
  obtain ⟨fs, hf, hkids⟩ := hys
  have hkl : ks.length = m := e2m.symm
  change fp = blk L ++ blk A ++ (List.range ks.length).flatMap fs at hf
  change ∀ j s, ks[j]? = some s → _ at hkids
  have hnd := h.own.nodup
  rw [hf] at hnd
  obtain ⟨nL, nA, nF, dLA, dLF, dAF⟩ := nodup3.1 hnd
  have hgl := h.box.lt
  have hs4 := hg.size
  have hrowA : ∀ g, (Value.slice A m d).ownBlock = some g ↔ g ∈ blk A := blk_own A m d
  have bdx : ∀ y ∈ blk L ++ blk A ++ (List.range ks.length).flatMap fs, H < y ∧ y < wr.heap.size ∧ y ≠ G := fun y hy => h.bd y (by rw [hf]; exact hy)
  have bdA : ∀ y ∈ blk A, H < y ∧ y < wr.heap.size ∧ y ≠ G := fun y hy => bdx y (by simp [hy])
  have hA' : ∀ g ∈ blk A', g ∈ blk A ∨ g = wr.heap.size := by
    intro g hm
    have e := (blk_own A' (m + 1) d' g).2 hm
    rcases hor with h | h
    · rw [h] at e; exact .inl ((hrowA g).1 e)
    · rw [h] at e; injection e with e; exact .inr e.symm
  have notrow : ∀ g, g ∉ blk A → some g ≠ (Value.slice A m d).ownBlock := fun g hm e => hm ((hrowA g).1 e.symm)
  have hGA : G ∉ blk A := fun hm => (bdA G hm).2.2 rfl
  have hHA : H ∉ blk A := fun hm => by have := (bdA H hm).1; omega
  have hbw : ∀ g, (Value.slice A m d).ownBlock = some g → H < g := fun g hgg => (bdA g ((hrowA g).1 hgg)).1
  obtain ⟨U, hU⟩ : ∃ U, w4.setCell ⟨G, 2, none⟩ (.slice A' (m + 1) d') = U := ⟨_, rfl⟩
  have hgU : w4.grownBy U (some G) := by rw [← hU]; exact grown_set (World.grownBy.refl _ _) _
  have hsU := hgU.size
  have hlt' : ∀ g ∈ blk A', g < w4.heap.size := fun g hm => (hown.lt g ((blk_own A' (m + 1) d' g).2 hm)).2
  have hflat : (List.range (ks ++ [Tr.node (⟨p, []⟩ : TyA) []]).length).flatMap (fun j => if j = m then [] else fs j) = (List.range ks.length).flatMap fs := by
    rw [List.length_append, hkl]
    have := flat_more (k := m) (fs := fs) (fp := [])
    simpa using this
  refine ⟨blk L ++ blk A' ++ (List.range ks.length).flatMap fs, ?_⟩
  rw [hU]
  refine ⟨?_, ?_, ?_, fun y hy => ?_, ?_, (h.cur.grownNew hg (fun g hgg => by have := hbw g hgg; omega)).grownNew hgU (fun g hgg => by injection hgg with hgg; omega), grown_new (grown_new h.gr hg (fun g hgg => by have := hbw g hgg; omega)) hgU (fun g hgg => by injection hgg with hgg; omega), h.num⟩
  · rw [← hU]; exact (h.box.grown hg (notrow G hGA)).set2 _
  · exact (h.res.grown hg (notrow H hHA)).grown hgU (fun e => by injection e with e; omega)
  · have hn2 := OTy.node (w := U) a (ks ++ [.node ⟨p, []⟩ []]) L A' c d' (ys ++ [.int .i64 p, .slice none 0 0, .slice none 0 0]) (fun j => if j = m then [] else fs j) haok
      (own_keep (own_keep hl hg (fun g hm => notrow g (dLA g hm))) hgU (fun g hm e => by injection e with e; exact (bdx g (by simp [hm])).2.2 e))
      (by rw [List.length_append, hkl]; simp; omega)
      (by
        rw [List.length_append, hkl]
        exact own_keep hown hgU (fun g hm e => by
          injection e with e
          subst e
          rcases hA' g hm with h1 | h1
          · exact hGA h1
          · omega))
      (fun j s hj => by
        show OTy _ _ _ (if j = m then [] else fs j)
        by_cases e : j = m
        · subst e
          rw [List.getElem?_append_right (by omega), hkl, Nat.sub_self] at hj
          simp at hj
          subst hj
          rw [if_pos rfl, part3_end hyl]
          exact leaf_own U p hp0 hp1
        · have hjl := (List.getElem?_eq_some_iff.1 hj).1
          rw [List.length_append, hkl] at hjl
          have hj' : j < m := by simp at hjl; omega
          rw [List.getElem?_append_left (by omega)] at hj
          rw [if_neg e, part3_app hyl hj']
          exact ((hkids j s hj).keep hg (fun g hm => notrow g (fun hm2 => dAF g hm2 (flat_mem (by omega) hm)))).keep hgU (fun g hm e => by injection e with e; exact (bdx g (List.mem_append.2 (.inr (flat_mem (by omega) hm)))).2.2 e))
      (by
        rw [hflat]
        exact nodup3.2 ⟨nL, blk_nodup _, nF, fun g hm hm2 => by
          rcases hA' g hm2 with h1 | h1
          · exact dLA g hm h1
          · have := bdx g (by simp [hm]); omega, dLF, fun g hm hm2 => by
          rcases hA' g hm with h1 | h1
          · exact dAF g h1 hm2
          · have := bdx g (List.mem_append.2 (.inr hm2)); omega⟩)
    rw [hflat] at hn2
    have e3 : [Value.int .i64 a.kind, .slice L a.labels.length c, .slice A' (ks ++ [Tr.node (⟨p, []⟩ : TyA) []]).length d'] = [.int .i64 q, .slice L n c, .slice A' (m + 1) d'] := by rw [List.length_append, hkl, ← e1n, ← e0]; rfl
    rw [← e3]
    exact hn2
  · rcases List.mem_append.1 hy with hy | hy
    · rcases List.mem_append.1 hy with hy | hy
      · have := bdx y (by simp [hy]); exact ⟨this.1, by omega, this.2.2⟩
      · have h2 := hlt' y hy
        rcases hA' y hy with h1 | h1
        · have := bdA y h1; exact ⟨this.1, by omega, this.2.2⟩
        · exact ⟨by omega, by omega, by omega⟩
    · have := bdx y (List.mem_append.2 (.inr hy)); exact ⟨this.1, by omega, this.2.2⟩
  · have hw := h.wb
    rw [wt_node] at hw
    show wt (.node a (ks ++ [.node ⟨p, []⟩ []])) ≤ _
    rw [wt_node]
    have e5 : wtK (ks ++ [.node ⟨p, []⟩ []]) = wtK ks + 1 := by unfold wtK; simp [wt_node, wtA, wtK, total]; omega
    rw [e5]
    omega
/-- the variable is handed back -/
theorem BS.done (h : BS b B w H G t fp q L A n c m d wr) : Box3 (((wr.setCell ⟨H, 0, none⟩ (.int .i64 q)).setCell ⟨H, 1, none⟩ (.slice L n c)).setCell ⟨H, 2, none⟩ (.slice A m d)) H 27 (.int .i64 q) (.slice L n c) (.slice A m d) ∧
    DrawTy b B w (.returned (.agg #[.int .i64 q, .slice L n c, .slice A m d])) (((wr.setCell ⟨H, 0, none⟩ (.int .i64 q)).setCell ⟨H, 1, none⟩ (.slice L n c)).setCell ⟨H, 2, none⟩ (.slice A m d)) := by
  obtain ⟨n1, n2, n3⟩ := h.num
  obtain ⟨U, hU⟩ : ∃ U, ((wr.setCell ⟨H, 0, none⟩ (.int .i64 q)).setCell ⟨H, 1, none⟩ (.slice L n c)).setCell ⟨H, 2, none⟩ (.slice A m d) = U := ⟨_, rfl⟩
  have hgU : wr.grownBy U (some H) := by rw [← hU]; exact grown_set (grown_set (grown_set (World.grownBy.refl _ _) _) _) _
  have hu : Box3 U H 27 (.int .i64 q) (.slice L n c) (.slice A m d) := by rw [← hU]; exact ((h.res.set0 _).set1 _).set2 _
  rw [hU]
  have hot := h.own.keep hgU (fun x hx e => by injection e with e; have := (h.bd x hx).1; omega)
  have hsU := hgU.size
  obtain ⟨L', c', A', d', he⟩ := hot.three
  injection he with e0 he
  injection he with e1 he
  injection he with e2 _
  rw [e0, e1, e2] at hot
  rw [e0, e1, e2] at hu ⊢
  exact ⟨hu, t, L', A', c', d', fp, rfl, hot, fun x hx => by have := h.bd x hx; omega, h.wb, h.cur.grownNew hgU (fun g hgg => by injection hgg with hgg; omega), grown_new h.gr hgU (fun g hgg => by injection hgg with hgg; omega)⟩
end
section
variable {b B : Nat} {w : World} {H G : Nat} {t : Ty} {fp : List Nat} {q : Int} {L A : Option Addr} {n c m d : Nat} {wr w2 : World}
theorem BS.rows (h : BS b B w H G t fp q L A n c m d wr) : ∃ (ys : List Value) (fs : Nat → List Nat), fp = blk L ++ blk A ++ (List.range t.kids.length).flatMap fs ∧ wr.ownsRow 0 9 1 (.slice L n c) n (t.top.labels.map Value.string) ∧
    wr.ownsRow 0 27 3 (.slice A m d) m ys ∧ (∀ j s, t.kids[j]? = some s → OTy wr s (part3 ys j) (fs j)) ∧ ys.length = m * 3 := by
  obtain ⟨a, ks⟩ := t
  obtain ⟨L0, A0, c0, d0, ys, fs, he, hf, _, hl, _, hrow, hkids, _⟩ := otree h.own
  injection he with e0 he
  injection he with e1 he
  injection he with e2 _
  injection e1 with e1 e1n e1c
  injection e2 with e2 e2m e2d
  subst e1 e1c e2 e2d
  refine ⟨ys, fs, hf, by rw [e1n]; exact hl, by rw [e2m]; exact hrow, hkids, by rw [e2m]; exact hrow.1⟩
theorem BS.boxes (h : BS b B w H G t fp q L A n c m d wr) {row : Option Nat} (hr : row = (Value.slice L n c).ownBlock ∨ row = (Value.slice A m d).ownBlock) (hg : wr.grownBy w2 row) :
    Box3 w2 G 27 (.int .i64 q) (.slice L n c) (.slice A m d) ∧ Box3 w2 H 27 (.int .i64 0) (.slice none 0 0) (.slice none 0 0) := by
  obtain ⟨ys, fs, hf, _⟩ := h.rows
  have hin : ∀ g, row = some g → g ∈ fp := by
    intro g e
    rw [hf]
    rcases hr with hr | hr
    · rw [hr] at e; have := (blk_own L n c g).1 e; simp [this]
    · rw [hr] at e; have := (blk_own A m d g).1 e; simp [this]
  exact ⟨h.box.grown hg (fun e => by have := h.bd G (hin G e.symm); omega), h.res.grown hg (fun e => by have := h.bd H (hin H e.symm); omega)⟩
end
section
variable {b B : Nat} {w : World} {H G : Nat} {t : Ty} {fp : List Nat} {q : Int} {L A : Option Addr} {n c m d : Nat} {wr w2 : World}
theorem BS.newQ (h : BS b B w H G t fp q L A n c m d wr) {s : Ty} {w3 : World} {e : Ending} (hm : MadeT s wr e w3) {B' : Nat} (hB : wt s ≤ B') {q' : Int} {n' m' : Nat} (h1 : s.top.kind = q') (h2 : s.top.labels.length = n') (h3 : s.kids.length = m') :
    ∃ (L' A' : Option Addr) (c' d' : Nat) (gp : List Nat), e = .returned (.agg #[.int .i64 q', .slice L' n' c', .slice A' m' d']) ∧ Box3 w3 G 27 (.int .i64 q) (.slice L n c) (.slice A m d) ∧ Box3 w3 H 27 (.int .i64 0) (.slice none 0 0) (.slice none 0 0) ∧
      BS b B' w H G s gp q' L' A' n' c' m' d' (((w3.setCell ⟨G, 0, none⟩ (.int .i64 q')).setCell ⟨G, 1, none⟩ (.slice L' n' c')).setCell ⟨G, 2, none⟩ (.slice A' m' d')) := by
  have hb3 : Below wr.heap.size wr w3 := by
    obtain ⟨_, _, _, _, _, _, _, _, hb3⟩ := hm
    exact hb3
  obtain ⟨L', A', c', d', gp, he, hbx, hbs⟩ := h.newT hm hB
  rw [h1, h2, h3] at he hbs
  exact ⟨L', A', c', d', gp, he, hbx, h.res.under hb3 h.res.lt, hbs⟩
end
end Go.Proofs.Ytffaggiblglcbaa
