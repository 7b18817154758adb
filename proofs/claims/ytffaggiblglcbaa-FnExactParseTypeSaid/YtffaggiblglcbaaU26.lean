/-
  Merged by program: TinB.
-/
import Derived.Test.YtffaggiblglcbaaU25

/-
  A type in the making: one part more, told by what its blocks hold afterwards.
-/
namespace Go.Proofs.Ytffaggiblglcbaa
open Go.RowKit

section
variable {B g : Nat} {κ : Int} {ls : List ByteArray} {ts : List Ty} {L A : Option Addr} {lc d : Nat} {xs : List Value} {fs : Nat → List Nat} {w U : World}
theorem Tin.built (h : Tin B g κ ls ts L A lc d xs fs w) {a : Nat} (ha2 : a = g ∨ a ∈ blk A) (hU : Fr g a w.heap.size w U) {t : Ty} {fp : List Nat} {r0 r1 r2 : Value} (hot : OTy w t [r0, r1, r2] fp) (hfp : ∀ x ∈ fp, B ≤ x ∧ x < w.heap.size)
    (hap : ∀ x ∈ fp, x ≠ g ∧ x ∉ blk L ++ blk A ++ (List.range ts.length).flatMap fs) {A' : Option Addr} {d' : Nat} (hbx : Box3 U g 27 (.int .i64 κ) (.slice L ls.length lc) (.slice A' (ts.length + 1) d'))
    (hrow : U.ownsRow B 27 3 (.slice A' (ts.length + 1) d') (ts.length + 1) (xs ++ [r0, r1, r2])) (hor : ∀ b ∈ blk A', b ∈ blk A ∨ w.heap.size ≤ b) :
    Tin B g κ ls (ts ++ [t]) L A' lc d' (xs ++ [r0, r1, r2]) (fun j => if j = ts.length then fp else fs j) U := by
  obtain ⟨nL, nA, nF, dLA, dLF, dAF⟩ := nodup3.1 h.nd
  have hxl : xs.length = ts.length * 3 := h.r2.1
  have bdL : ∀ g ∈ blk L, B ≤ g ∧ g < w.heap.size := fun g hm => h.bd g (by simp [hm])
  have bdF : ∀ g ∈ (List.range ts.length).flatMap fs, B ≤ g ∧ g < w.heap.size := fun g hm => h.bd g (List.mem_append.2 (.inr hm))
  have apL : ∀ x ∈ fp, x ∉ blk L := fun x hx hm => (hap x hx).2 (by simp [hm])
  have apA : ∀ x ∈ fp, x ∉ blk A := fun x hx hm => (hap x hx).2 (by simp [hm])
  have apF : ∀ x ∈ fp, x ∉ (List.range ts.length).flatMap fs := fun x hx hm => (hap x hx).2 (List.mem_append.2 (.inr hm))
  have gL : g ∉ blk L := fun hm => h.gn (by simp [hm])
  have gA : g ∉ blk A := fun hm => h.gn (by simp [hm])
  have gF : g ∉ (List.range ts.length).flatMap fs := fun hm => h.gn (List.mem_append.2 (.inr hm))
  have hgA' : g ∉ blk A' := fun hm => by
    rcases hor g hm with h1 | h1
    · exact gA h1
    · have := h.gb; omega
  have hs := hU.size
  have nea : ∀ x, x ∉ blk A → x ≠ g → x ≠ a := fun x h1 h2 e => by
    rcases ha2 with h3 | h3
    · omega
    · exact h1 (e ▸ h3)
  have hlen : (ts ++ [t]).length = ts.length + 1 := by simp
  exact {
    box := by rw [hlen]; exact hbx
    r1 := own_fr h.r1 hU (fun b hb => ⟨(bdL b hb).2, fun e => gL (e ▸ hb), nea b (fun hm => dLA b hb hm) (fun e => gL (e ▸ hb))⟩)
    r2 := by rw [hlen]; exact hrow
    kid := fun j s hj => by
      show OTy _ _ _ (if j = ts.length then fp else fs j)
      by_cases e : j = ts.length
      · subst e
        rw [List.getElem?_append_right (by omega), Nat.sub_self] at hj
        simp at hj
        subst hj
        rw [if_pos rfl, part3_end hxl]
        exact hot.fr hU (fun b hm => ⟨(hfp b hm).2, (hap b hm).1, nea b (apA b hm) (hap b hm).1⟩)
      · have hjl := (List.getElem?_eq_some_iff.1 hj).1
        rw [hlen] at hjl
        have hj' : j < ts.length := by omega
        rw [List.getElem?_append_left (by omega)] at hj
        rw [if_neg e, part3_app hxl hj']
        have hjm : ∀ b ∈ fs j, b ∈ (List.range ts.length).flatMap fs := fun b hb => List.mem_flatMap.2 ⟨j, List.mem_range.2 hj', hb⟩
        exact (h.kid j s hj).fr hU (fun b hm => ⟨(bdF b (hjm b hm)).2, fun e => gF (e ▸ hjm b hm), nea b (fun hA => dAF b hA (hjm b hm)) (fun e => gF (e ▸ hjm b hm))⟩)
    nd := by
      rw [hlen, flat_more]
      refine nodup3.2 ⟨nL, blk_nodup _, List.nodup_append.2 ⟨nF, hot.nodup, fun x hx y hy e => apF y hy (e ▸ hx)⟩, fun b hm hm2 => ?_, fun b hm hm2 => ?_, fun b hm hm2 => ?_⟩
      · rcases hor b hm2 with h1 | h1
        · exact dLA b hm h1
        · have := bdL b hm; omega
      · rcases List.mem_append.1 hm2 with h1 | h1
        · exact dLF b hm h1
        · exact apL b h1 hm
      · rcases hor b hm with h1 | h1
        · rcases List.mem_append.1 hm2 with h2 | h2
          · exact dAF b h1 h2
          · exact apA b h2 h1
        · rcases List.mem_append.1 hm2 with h2 | h2
          · have := bdF b h2; omega
          · have := hfp b h2; omega
    gn := fun hm => by
      rw [hlen, flat_more] at hm
      rcases List.mem_append.1 hm with hm | hm
      · rcases List.mem_append.1 hm with hm | hm
        · exact gL hm
        · exact hgA' hm
      · rcases List.mem_append.1 hm with hm | hm
        · exact gF hm
        · exact (hap g hm).1 rfl
    gb := ⟨h.gb.1, by have := h.gb; omega⟩
    bd := fun b hm => by
      rw [hlen, flat_more] at hm
      rcases List.mem_append.1 hm with hm | hm
      · rcases List.mem_append.1 hm with hm | hm
        · have := bdL b hm; omega
        · have := hrow.lt b ((blk_own A' (ts.length + 1) d' b).2 hm); omega
      · rcases List.mem_append.1 hm with hm | hm
        · have := bdF b hm; omega
        · have := hfp b hm; omega
    lz := h.lz
    kz := h.kz }
theorem St.same {H n : Nat} {s : ByteArray} {r : List UInt8} (h : St H s n r w) (hk : ∀ k, k ≤ H + 8 → U.heap[k]? = w.heap[k]?) : St H s n r U := by
  obtain ⟨h1, ⟨p, h2, h3⟩, h4⟩ := h
  exact ⟨⟨(hk _ (by omega)).trans h1.cs, (hk _ (by omega)).trans h1.ct, (hk _ (by omega)).trans h1.cr, (hk _ (by omega)).trans h1.ca, (hk _ (by omega)).trans h1.cl, (hk _ (by omega)).trans h1.cf⟩, ⟨p, (hk _ (by omega)).trans h2, h3⟩, (hk _ (by omega)).trans h4⟩
theorem Fr.swap {a b C p q : Nat} (h : Fr a b C w U) (hC : B ≤ C) (ha : B ≤ a) (hb : B ≤ b) : Fr p q B w U := .of_below ((h.mono hC).below ha hb)
end

/-- an element appended as zero and then stored, and the variable told of it, in either order -/
theorem arg_built {H n : Nat} {s : ByteArray} {B g : Nat} {κ : Int} {w0 : World} {ls : List ByteArray} {ts : List Ty} {r : List UInt8} {L A : Option Addr} {lc d : Nat} {xs : List Value} {fs : Nat → List Nat} {w w8 : World} (h : IMid H s B g κ w0 ls ts n r L A lc d xs fs w)
    {t : Ty} {fp : List Nat} {r0 r1 r2 z0 z1 z2 : Value} (hot : OTy w t [r0, r1, r2] fp) (hfp : ∀ x ∈ fp, B ≤ x ∧ x < w.heap.size) (hap : ∀ x ∈ fp, x ≠ g ∧ x ∉ blk L ++ blk A ++ (List.range ts.length).flatMap fs)
    {b8 d8 : Nat} (hown : w8.ownsRow B 27 3 (.slice (some ⟨b8, 0, none⟩) (ts.length + 1) d8) (ts.length + 1) (xs ++ [z0, z1, z2])) (hg : w.grownBy w8 (Value.slice A ts.length d).ownBlock)
    (hor : (Value.slice (some ⟨b8, 0, none⟩) (ts.length + 1) d8).ownBlock = (Value.slice A ts.length d).ownBlock ∨ (Value.slice (some ⟨b8, 0, none⟩) (ts.length + 1) d8).ownBlock = some w.heap.size) :
    (∃ L A lc d xs fs, IMid H s B g κ w0 ls (ts ++ [t]) n r L A lc d xs fs ((store3 w8 b8 ts.length r0 r1 r2).setCell ⟨g, 2, none⟩ (.slice (some ⟨b8, 0, none⟩) (ts.length + 1) d8))) ∧
    (∃ L A lc d xs fs, IMid H s B g κ w0 ls (ts ++ [t]) n r L A lc d xs fs (store3 (w8.setCell ⟨g, 2, none⟩ (.slice (some ⟨b8, 0, none⟩) (ts.length + 1) d8)) b8 ts.length r0 r1 r2)) := by
  obtain ⟨h1, h2, h3, h4⟩ := h
  have hgb := h1.gb
  have hxl : xs.length = ts.length * 3 := h1.r2.1
  obtain ⟨a, ha, ha2⟩ : ∃ a, (∀ b ∈ blk A, b = a) ∧ (a = g ∨ a ∈ blk A) := by
    cases A with
    | none => exact ⟨g, by simp [blk], .inl rfl⟩
    | some ad => exact ⟨ad.block, by simp [blk], .inr (by simp [blk])⟩
  have haB : B ≤ a := by
    rcases ha2 with e | e
    · omega
    · exact (h1.bd a (by simp [e])).1
  have hb8 : b8 ∈ blk A ∨ b8 = w.heap.size := by
    rcases hor with e | e
    · exact .inl ((blk_own A ts.length d b8).1 (by rw [← e]; rfl))
    · injection e with e
      exact .inr e
  have hgb8 : g ≠ b8 := by
    intro e
    rcases hb8 with e2 | e2
    · exact h1.gn (by simp [e, e2])
    · omega
  have hs8 := hg.size
  have hbx8 : Box3 w8 g 27 (.int .i64 κ) (.slice L ls.length lc) (.slice A ts.length d) := h1.box.grown hg h1.apA
  have hput : put3 (xs ++ [z0, z1, z2]) ts.length r0 r1 r2 = xs ++ [r0, r1, r2] := by
    unfold put3
    rw [← hxl]
    simp
  have hf8 : Fr g a w.heap.size w w8 := ⟨hg.os, hg.tape, hg.output, hg.size, fun k h1 h2 h3 => hg.block k h1 (fun e => h3 (ha k ((blk_own A ts.length d k).1 e.symm)))⟩
  have hlow8 : b8 = a ∨ w.heap.size ≤ b8 := by
    rcases hb8 with e | e
    · exact .inl (ha b8 e)
    · exact .inr (by omega)
  have fin : ∀ U : World, Fr g a w.heap.size w U → Box3 U g 27 (.int .i64 κ) (.slice L ls.length lc) (.slice (some ⟨b8, 0, none⟩) (ts.length + 1) d8) → U.ownsRow B 27 3 (.slice (some ⟨b8, 0, none⟩) (ts.length + 1) d8) (ts.length + 1) (xs ++ [r0, r1, r2]) →
      ∃ L A lc d xs fs, IMid H s B g κ w0 ls (ts ++ [t]) n r L A lc d xs fs U := fun U hU hbx hrow =>
    ⟨_, _, _, _, _, _, h1.built ha2 hU hot hfp hap hbx hrow (fun b hb => by
      simp [blk] at hb
      subst hb
      rcases hb8 with e | e
      · exact .inl e
      · exact .inr (by omega)), h2.same (fun k hk => hU.block k (by omega) (by omega) (by omega)), h3.trans (hU.swap (by omega) hgb.1 haB), h4⟩
  constructor
  · have hst := own_store3 hown ts.length r0 r1 r2
    rw [hput] at hst
    have hf9 : Fr g a w.heap.size w (store3 w8 b8 ts.length r0 r1 r2) := hf8.trans ⟨hst.2.os, hst.2.tape, hst.2.output, hst.2.size, fun k h1 h2 h3 => hst.2.block k (by omega) (fun e => by injection e with e; omega)⟩
    have hbx9 : Box3 (store3 w8 b8 ts.length r0 r1 r2) g 27 (.int .i64 κ) (.slice L ls.length lc) (.slice A ts.length d) := hbx8.grown hst.2 (fun e => by injection e with e; exact hgb8 e)
    have hgg : (store3 w8 b8 ts.length r0 r1 r2).grownBy ((store3 w8 b8 ts.length r0 r1 r2).setCell ⟨g, 2, none⟩ (.slice (some ⟨b8, 0, none⟩) (ts.length + 1) d8)) (some g) := grown_set (World.grownBy.refl _ _) _
    exact fin _ (hf9.setP 2 _) (hbx9.set2 _) (own_keep hst.1 hgg (fun b hb e => by simp [blk] at hb; injection e with e; omega))
  · have hgg : w8.grownBy (w8.setCell ⟨g, 2, none⟩ (.slice (some ⟨b8, 0, none⟩) (ts.length + 1) d8)) (some g) := grown_set (World.grownBy.refl _ _) _
    have hown9 := own_keep hown hgg (fun b hb e => by simp [blk] at hb; injection e with e; omega)
    have hst := own_store3 hown9 ts.length r0 r1 r2
    rw [hput] at hst
    have hsg := hgg.size
    have hf9 := hf8.setP 2 (.slice (some ⟨b8, 0, none⟩) (ts.length + 1) d8)
    exact fin _ (hf9.trans ⟨hst.2.os, hst.2.tape, hst.2.output, hst.2.size, fun k h1 h2 h3 => hst.2.block k (by omega) (fun e => by injection e with e; omega)⟩) ((hbx8.set2 _).grown hst.2 (fun e => by injection e with e; exact hgb8 e)) hst.1
end Go.Proofs.Ytffaggiblglcbaa
