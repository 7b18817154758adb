/-
  Merged by program: SqT.
-/
import Derived.Test.YtffaggiblglcbaaV20
import Derived.Test.YtffaggiblglcbaaV12
import Derived.Test.YtffaggiblglcbaaV33

/-
  The model's reader of types: l4Type.
-/
namespace Go.Proofs.Ytffaggiblglcbaa
open Go.RowKit

theorem l3Bool_any (w : World) : Calls Try.prog 67 #[] w (MadeT (.node ⟨2, []⟩ []) w) := by
  have hR : ∀ U, (w.alloc (.cells #[.int .i64 2, .slice none 0 0, .slice none 0 0] 27)) = U → MadeT (.node ⟨2, []⟩ []) w (.returned (.agg #[.int .i64 2, .slice none 0 0, .slice none 0 0])) U := by
    rintro U rfl
    exact ⟨none, none, 0, 0, [], rfl, leaf_own _ 2 (by decide) (by decide), by simp, (Below.refl _ _).alloc (Nat.le_refl _) _⟩
  have HR := Lib.hid hR
  clear hR
  go_enter Try.func67, Try.ntmps67
  go_wp2_with fail
  have hb := Box3.new w 27 (.int .i64 2) (.slice none 0 0) (.slice none 0 0)
  have t0 := hb.c0
  have t1 := hb.c1
  have t2 := hb.c2
  clear hb
  exact bodyPost_ret (v := .agg #[.int .i64 2, .slice none 0 0, .slice none 0 0]) (by simp [results, Try.results67, go_sem, t0, t1, t2]) rfl (HR.out _ rfl)

/-- a node over a literal of parts -/
theorem lit_own {q : Int} (hq : 0 ≤ q ∧ q ≤ 9) {ks : List Ty} {xs : List Value} {fs : Nat → List Nat} {w : World} (hlen : xs.length = ks.length * 3) (hks : ks.length ≤ 1000) (hkid : ∀ j t, ks[j]? = some t → OTy w t (part3 xs j) (fs j)) (hnd : ((List.range ks.length).flatMap fs).Nodup)
    (hbd : ∀ b ∈ (List.range ks.length).flatMap fs, b < w.heap.size) : OTy (w.alloc (.cells xs.toArray 27)) (.node ⟨q, []⟩ ks) [.int .i64 q, .slice none 0 0, .slice (some ⟨w.heap.size, 0, none⟩) ks.length ks.length] (blk none ++ blk (some ⟨w.heap.size, 0, none⟩) ++ (List.range ks.length).flatMap fs) := by
  have hrow : (w.alloc (.cells xs.toArray 27)).ownsRow 0 27 3 (.slice (some ⟨w.heap.size, 0, none⟩) ks.length ks.length) ks.length xs := by
    have := own_full w xs.toArray ks.length (by simpa using hlen) (by unfold maxLen; omega)
    simpa using this
  refine .node ⟨q, []⟩ ks none (some ⟨w.heap.size, 0, none⟩) 0 ks.length xs fs ⟨by show -9223372036854775808 ≤ q; omega, by show q ≤ 9223372036854775807; omega, by simp, by simp⟩ ⟨rfl, .inl ⟨rfl, rfl⟩⟩ (by omega) hrow (fun j t hj => (hkid j t hj).under ((Below.refl _ _).alloc (Nat.le_refl _) _)) ?_
  refine nodup3.2 ⟨blk_nodup _, blk_nodup _, hnd, by simp [blk], by simp [blk], fun x hx hy => ?_⟩
  simp [blk] at hx
  have := hbd x hy
  omega
theorem bag_own {t : Ty} {w : World} {x y z : Value} {fp : List Nat} (h : OTy w t [x, y, z] fp) (hfp : ∀ b ∈ fp, b < w.heap.size) : OTy (w.alloc (.cells #[x, y, z] 27)) (.node ⟨4, []⟩ [t]) [.int .i64 4, .slice none 0 0, .slice (some ⟨w.heap.size, 0, none⟩) 1 1] (w.heap.size :: fp) := by
  have := lit_own (q := 4) (by decide) (ks := [t]) (xs := [x, y, z]) (fs := fun _ => fp) (w := w) rfl (by simp) (fun j u hj => by
    match j with
    | 0 => simp at hj; subst hj; exact h
    | j + 1 => simp at hj) (by simpa using h.nodup) (by simpa using hfp)
  simpa [blk] using this
theorem fun_own {t u : Ty} {w : World} {x y z x' y' z' : Value} {fp gp : List Nat} (h : OTy w t [x, y, z] fp) (h' : OTy w u [x', y', z'] gp) (hfp : ∀ b ∈ fp, b < w.heap.size) (hgp : ∀ b ∈ gp, b < w.heap.size) (hne : ∀ b ∈ fp, b ∉ gp) :
    OTy (w.alloc (.cells #[x, y, z, x', y', z'] 27)) (.node ⟨5, []⟩ [t, u]) [.int .i64 5, .slice none 0 0, .slice (some ⟨w.heap.size, 0, none⟩) 2 2] (w.heap.size :: (fp ++ gp)) := by
  have e : (List.range 2).flatMap (fun j => if j = 0 then fp else gp) = fp ++ gp := by simp [List.range_succ]
  have := lit_own (q := 5) (by decide) (ks := [t, u]) (xs := [x, y, z, x', y', z']) (fs := fun j => if j = 0 then fp else gp) (w := w) rfl (by simp) (fun j v hj => by
    match j with
    | 0 => simp at hj; subst hj; exact h
    | 1 => simp at hj; subst hj; exact h'
    | j + 2 => simp at hj) (by
      show ((List.range 2).flatMap (fun j => if j = 0 then fp else gp)).Nodup
      rw [e]
      exact List.nodup_append.2 ⟨h.nodup, h'.nodup, fun a ha b hb e => hne a ha (e ▸ hb)⟩) (by
      show ∀ b ∈ (List.range 2).flatMap (fun j => if j = 0 then fp else gp), b < w.heap.size
      rw [e]
      intro b hb
      rcases List.mem_append.1 hb with hb | hb
      · exact hfp b hb
      · exact hgp b hb)
  have e2 : blk none ++ blk (some ⟨w.heap.size, 0, none⟩) ++ (List.range ([t, u] : List Ty).length).flatMap (fun j => if j = 0 then fp else gp) = w.heap.size :: (fp ++ gp) := by
    show blk none ++ blk (some ⟨w.heap.size, 0, none⟩) ++ (List.range 2).flatMap (fun j => if j = 0 then fp else gp) = _
    rw [e]
    simp [blk]
  rw [e2] at this
  exact this

/-- where l4Type stands: the result's cell is the block H -/
def TMid (b : Nat) (s : ByteArray) (H : Nat) (w : World) (r : List UInt8) (bad : Bool) (wx : World) : Prop :=
  Box3 wx H 27 (.int .i64 0) (.slice none 0 0) (.slice none 0 0) ∧ RdSt wx b s r bad ∧ Fr b b H w wx ∧ b < H ∧ w.heap.size = H
section
variable {b H : Nat} {s : ByteArray} {w wx w2 : World} {r : List UInt8} {bad : Bool}
theorem TMid.call (h : TMid b s H w r bad wx) {r' : List UInt8} {bad' : Bool} (hr : RdSt w2 b s r' bad') (hf : Fr b b wx.heap.size wx w2) : TMid b s H w r' bad' w2 := by
  obtain ⟨h2, h3, h4, h5, h6⟩ := h
  exact ⟨h2.fr hf h2.lt (by omega) (by omega), hr, h4.step (by have := h2.lt; omega) hf, h5, h6⟩
theorem TMid.under (h : TMid b s H w r bad wx) (hb : Below wx.heap.size wx w2) : TMid b s H w r bad w2 := h.call (h.2.1.under hb) (.of_below hb)
theorem TMid.lt (h : TMid b s H w r bad wx) : H < wx.heap.size := h.1.lt
/-- what was found, stored into the result -/
theorem TMid.done (h : TMid b s H w r bad wx) {t : Ty} {L A : Option Addr} {c d : Nat} {fp : List Nat} (ht : OTy wx t [.int .i64 t.top.kind, .slice L t.top.labels.length c, .slice A t.kids.length d] fp) (hfp : ∀ x ∈ fp, H < x ∧ x < wx.heap.size) {o : Option (Ty × List UInt8)} (ho : Sr o t r bad)
    {q : Int} {n m : Nat} (e1 : t.top.kind = q) (e2 : t.top.labels.length = n) (e3 : t.kids.length = m) :
    SqP b s o w (.returned (.agg #[.int .i64 q, .slice L n c, .slice A m d])) (((wx.setCell ⟨H, 0, none⟩ (.int .i64 q)).setCell ⟨H, 1, none⟩ (.slice L n c)).setCell ⟨H, 2, none⟩ (.slice A m d)) ∧
    Box3 (((wx.setCell ⟨H, 0, none⟩ (.int .i64 q)).setCell ⟨H, 1, none⟩ (.slice L n c)).setCell ⟨H, 2, none⟩ (.slice A m d)) H 27 (.int .i64 q) (.slice L n c) (.slice A m d) := by
  obtain ⟨k2, k3, k4, k5, k6⟩ := h
  subst e1 e2 e3
  refine ⟨?_, ((k2.set0 _).set1 _).set2 _⟩
  generalize hU : ((wx.setCell ⟨H, 0, none⟩ (.int .i64 t.top.kind)).setCell ⟨H, 1, none⟩ (.slice L t.top.labels.length c)).setCell ⟨H, 2, none⟩ (.slice A t.kids.length d) = U
  have hgU : wx.grownBy U (some H) := by rw [← hU]; exact grown_set (grown_set (grown_set (World.grownBy.refl _ _) _) _) _
  have hs := hgU.size
  have hlt := k2.lt
  refine ⟨t, L, A, c, d, fp, r, bad, rfl, ht.keep hgU (fun x hx e => by injection e with e; have := hfp x hx; omega), fun x hx => by have := hfp x hx; omega, k3.grown hgU (fun e => by injection e with e; omega), ?_, ho⟩
  rw [k6]
  exact k4.grown hgU (by omega) (fun k hk => by injection hk with hk; omega)
theorem TMid.zero (h : TMid b s H w r bad wx) {o : Option (Ty × List UInt8)} (hb : bad = true) (ho : o = none) :
    SqP b s o w (.returned (.agg #[.int .i64 0, .slice none 0 0, .slice none 0 0])) (((wx.setCell ⟨H, 0, none⟩ (.int .i64 0)).setCell ⟨H, 1, none⟩ (.slice none 0 0)).setCell ⟨H, 2, none⟩ (.slice none 0 0)) ∧
    Box3 (((wx.setCell ⟨H, 0, none⟩ (.int .i64 0)).setCell ⟨H, 1, none⟩ (.slice none 0 0)).setCell ⟨H, 2, none⟩ (.slice none 0 0)) H 27 (.int .i64 0) (.slice none 0 0) (.slice none 0 0) :=
  h.done (t := .node ⟨0, []⟩ []) (leaf_own wx 0 (by decide) (by decide)) (by simp) (.inr ⟨hb, ho⟩) rfl rfl rfl
theorem TMid.made (h : TMid b s H w r bad wx) {t : Ty} {e : Ending} (hm : MadeT t wx e w2) {o : Option (Ty × List UInt8)} (ho : Sr o t r bad) {q : Int} {n m : Nat} (e1 : t.top.kind = q) (e2 : t.top.labels.length = n) (e3 : t.kids.length = m) :
    ∃ L A c d, e = .returned (.agg #[.int .i64 q, .slice L n c, .slice A m d]) ∧ TMid b s H w r bad w2 ∧
    SqP b s o w (.returned (.agg #[.int .i64 q, .slice L n c, .slice A m d])) (((w2.setCell ⟨H, 0, none⟩ (.int .i64 q)).setCell ⟨H, 1, none⟩ (.slice L n c)).setCell ⟨H, 2, none⟩ (.slice A m d)) ∧
    Box3 (((w2.setCell ⟨H, 0, none⟩ (.int .i64 q)).setCell ⟨H, 1, none⟩ (.slice L n c)).setCell ⟨H, 2, none⟩ (.slice A m d)) H 27 (.int .i64 q) (.slice L n c) (.slice A m d) := by
  obtain ⟨L, A, c, d, fp, rfl, hot, hfp, hb⟩ := hm
  have h2 := h.under hb
  subst e1 e2 e3
  exact ⟨L, A, c, d, rfl, h2, h2.done hot (fun x hx => by have := hfp x hx; have := h.lt; omega) ho rfl rfl rfl⟩
end
end Go.Proofs.Ytffaggiblglcbaa
