/-
  Merged by program: TyFun, Draw.
-/
import Derived.Test.YtffaggiblglcbaaV11
import Derived.Test.YtffaggiblglcbaaV1
import Derived.Test.YtffaggiblglcbaaProg
import Derived.OwnWalk
import Derived.RegionTactic
import Derived.Deep.QuietTactic
import Derived.BigQuiet
import Derived.WalkLawsBesides
import Derived.IntWalk

/-
  The makers of types among the draws: l3Fun, l3Int.
-/
namespace Go.Proofs.Ytffaggiblglcbaa
open Go.RowKit

theorem l3Int_any (w : World) : Calls Try.prog 47 #[] w (MadeT (.node ⟨1, []⟩ []) w) := by
  have hR : ∀ U, (w.alloc (.cells #[.int .i64 1, .slice none 0 0, .slice none 0 0] 27)) = U → MadeT (.node ⟨1, []⟩ []) w (.returned (.agg #[.int .i64 1, .slice none 0 0, .slice none 0 0])) U := by
    rintro U rfl
    exact ⟨none, none, 0, 0, [], rfl, OTy.node ⟨1, []⟩ [] none none 0 0 [] (fun _ => []) ⟨by decide, by decide, by decide, by simp⟩ ⟨rfl, .inl ⟨rfl, rfl⟩⟩ (by decide) ⟨rfl, .inl ⟨rfl, rfl⟩⟩ (fun j t hj => by simp at hj) (by simp [blk]), by simp, (Below.refl _ _).alloc (Nat.le_refl _) _⟩
  have HR := Lib.hid hR
  clear hR
  go_enter Try.func47, Try.ntmps47
  go_wp2_with fail
  have hb := Box3.new w 27 (.int .i64 1) (.slice none 0 0) (.slice none 0 0)
  have t0 := hb.c0
  have t1 := hb.c1
  have t2 := hb.c2
  clear hb
  exact bodyPost_ret (v := .agg #[.int .i64 1, .slice none 0 0, .slice none 0 0]) (by simp [results, Try.results47, go_sem, t0, t1, t2]) rfl (HR.out _ rfl)

set_option maxHeartbeats 3200000 in
set_option maxRecDepth 100000 in
theorem l3Fun_any (s t : Ty) (w : World) (cs ds : List Value) (h : RTy w s cs) (h' : RTy w t ds) (hw : wt s ≤ 1048576) (hw' : wt t ≤ 1048576) : Calls Try.prog 48 #[.agg cs.toArray, .agg ds.toArray] w (MadeT (.node ⟨5, []⟩ [s, t]) w) := by
  obtain ⟨c0, c1, c2, rfl⟩ := h.three
  obtain ⟨d0, d1, d2, rfl⟩ := h'.three
  obtain ⟨W1, hW1⟩ : ∃ W1, ((w.alloc (.cells #[c0, c1, c2] 27)).alloc (.cells #[d0, d1, d2] 27)).alloc (.cells #[.int .i64 0, .slice none 0 0, .slice none 0 0] 27) = W1 := ⟨_, rfl⟩
  obtain ⟨H, hH⟩ : ∃ H, w.heap.size = H := ⟨_, rfl⟩
  have hz1s : W1.heap.size = H + 3 := by rw [← hW1, ← hH]; simp
  have b0 : Box3 W1.drew H 27 c0 c1 c2 := by rw [← hW1, ← hH]; exact ((Box3.new w _ _ _ _).alloc _).alloc _
  have b1 : Box3 W1.drew (H + 1) 27 d0 d1 d2 := by
    rw [← hW1, ← hH]
    have := (Box3.new (w.alloc (.cells #[c0, c1, c2] 27)) 27 d0 d1 d2).alloc (.cells #[.int .i64 0, .slice none 0 0, .slice none 0 0] 27)
    simp only [World.size_alloc] at this
    exact this
  have b2 : Box3 W1.drew (H + 1 + 1) 27 (.int .i64 0) (.slice none 0 0) (.slice none 0 0) := by
    rw [← hW1, ← hH]
    have := Box3.new ((w.alloc (.cells #[c0, c1, c2] 27)).alloc (.cells #[d0, d1, d2] 27)) 27 (.int .i64 0) (.slice none 0 0) (.slice none 0 0)
    simp only [World.size_alloc] at this
    exact this
  have hb1 : Below w.heap.size w W1.drew := by rw [← hW1]; exact ((((Below.refl _ _).alloc (Nat.le_refl _) _).alloc (by simp) _).alloc (by simp; omega) _).drew
  have hzd : W1.drew.heap.size = H + 3 := hz1s
  have HC1 := Lib.hid (l3Copy_any s W1.drew _ (h.keep hb1) hw)
  have HC2 := Lib.hid (fun W (hB : Below W1.drew.heap.size W1.drew W) => l3Copy_any t W _ ((h'.keep hb1).keep hB) hw')
  have HW1 := Lib.hid hW1
  have HB1 := Lib.hid hb1
  have B0 := Lib.hid b0
  have B1 := Lib.hid b1
  have B2 := Lib.hid b2
  have HH := Lib.hid hH
  have HZ := Lib.hid hzd
  have x0 := b0.c0
  have x1 := b0.c1
  have x2 := b0.c2
  have y0 := b1.c0
  have y1 := b1.c1
  have y2 := b1.c2
  have hne0 : H ≠ H + 1 + 1 := by omega
  have hne1 : H + 1 ≠ H + 1 + 1 := by omega
  clear h h' hw hw' hW1 hb1 b0 b1 b2 hz1s hzd
  go_enter Try.func48, Try.ntmps48
  go_wp2_with fail
  rw [HW1.out]
  go_region_held3 (fun W => W.cell? ⟨H, 0, none⟩ = some c0 ∧ W.cell? ⟨H, 1, none⟩ = some c1 ∧ W.cell? ⟨H, 2, none⟩ = some c2 ∧ W.cell? ⟨H + 1, 0, none⟩ = some d0 ∧ W.cell? ⟨H + 1, 1, none⟩ = some d1 ∧ W.cell? ⟨H + 1, 2, none⟩ = some d2)
    (first | (refine ⟨?_, ?_, ?_, ?_, ?_, ?_⟩ <;> assumption) | exact ⟨cell_three m0 hne0, cell_three m1 hne0, cell_three m2 hne0, cell_three n0 hne1, cell_three n1 hne1, cell_three n2 hne1⟩ | go_keep)
    (first
      | (go_at_call 75; refine (HC2.out w2 HB2.out).mono ?_; rintro e w3 ⟨L3, A3, l3, e3, gp, rfl, hot, hfp, hb3⟩; have HOT3 := Lib.hid hot; have HFP3 := Lib.hid hfp; have HB3 := Lib.hid hb3; have hb4 := HB2.out.trans (hb3.mono HB2.out.size); have p0 := B0.out.under hb4 B0.out.lt; have p1 := B1.out.under hb4 B1.out.lt; have p2 := (B2.out.under hb4 B2.out.lt).alloc (.cells #[.int .i64 s.top.kind, .slice L2 s.top.labels.length l2, .slice A2 s.kids.length e2, .int .i64 t.top.kind, .slice L3 t.top.labels.length l3, .slice A3 t.kids.length e3] 27); have r0 := p2.c0; have r1 := p2.c1; have r2 := p2.c2; have f0 := p2.free 0; have f1 := p2.free 1; have f2 := p2.free 2; have p3 := p0.alloc (.cells #[.int .i64 s.top.kind, .slice L2 s.top.labels.length l2, .slice A2 s.kids.length e2, .int .i64 t.top.kind, .slice L3 t.top.labels.length l3, .slice A3 t.kids.length e3] 27); have p4 := p1.alloc (.cells #[.int .i64 s.top.kind, .slice L2 s.top.labels.length l2, .slice A2 s.kids.length e2, .int .i64 t.top.kind, .slice L3 t.top.labels.length l3, .slice A3 t.kids.length e3] 27); have m0 := p3.c0; have m1 := p3.c1; have m2 := p3.c2; have n0 := p4.c0; have n1 := p4.c1; have n2 := p4.c2; have P2 := Lib.hid p2; have k0 := p0.c0; have k1 := p0.c1; have k2 := p0.c2; have l0 := p1.c0; have l1 := p1.c1; have l2' := p1.c2; clear hot hfp hb3 hb4 p0 p1 p2 p3 p4)
      | (go_at_call 75; refine HC1.out.mono ?_; rintro e w2 ⟨L2, A2, l2, e2, fp, rfl, hot, hfp, hb2⟩; have HOT := Lib.hid hot; have HFP := Lib.hid hfp; have HB2 := Lib.hid hb2; have p0 := B0.out.under hb2 B0.out.lt; have p1 := B1.out.under hb2 B1.out.lt; have u0 := p0.c0; have u1 := p0.c1; have u2 := p0.c2; have v0 := p1.c0; have v1 := p1.c1; have v2 := p1.c2; clear hot hfp hb2 p0 p1))
  go_wp2_with fail
  generalize hU : (((w3.alloc (.cells #[.int .i64 s.top.kind, .slice L2 s.top.labels.length l2, .slice A2 s.kids.length e2, .int .i64 t.top.kind, .slice L3 t.top.labels.length l3, .slice A3 t.kids.length e3] 27)).setCell ⟨H + 1 + 1, 0, none⟩ (.int .i64 5)).setCell ⟨H + 1 + 1, 1, none⟩ (.slice none 0 0)).setCell ⟨H + 1 + 1, 2, none⟩ (.slice (some ⟨w3.heap.size, 0, none⟩) 2 2) = U
  have hgU : (w3.alloc (.cells #[.int .i64 s.top.kind, .slice L2 s.top.labels.length l2, .slice A2 s.kids.length e2, .int .i64 t.top.kind, .slice L3 t.top.labels.length l3, .slice A3 t.kids.length e3] 27)).grownBy U (some (H + 1 + 1)) := by rw [← hU]; exact grown_set (grown_set (grown_set (World.grownBy.refl _ _) _) _) _
  have u1 : Box3 U (H + 1 + 1) 27 (.int .i64 5) (.slice none 0 0) (.slice (some ⟨w3.heap.size, 0, none⟩) 2 2) := by
    rw [← hU]
    exact ((P2.out.set0 _).set1 _).set2 _
  have HRR : Hid (MadeT (.node ⟨5, []⟩ [s, t]) w (.returned (.agg #[.int .i64 5, .slice none 0 0, .slice (some ⟨w3.heap.size, 0, none⟩) 2 2])) U) := Lib.hid (by
    have hzz := HZ.out
    have hs2 := HB2.out.size
    have hs3 := HB3.out.size
    refine build_done (q := 5) (ks := [s, t]) (xs := [.int .i64 s.top.kind, .slice L2 s.top.labels.length l2, .slice A2 s.kids.length e2, .int .i64 t.top.kind, .slice L3 t.top.labels.length l3, .slice A3 t.kids.length e3]) (fs := fun j => if j = 0 then fp else gp) (W1 := W1.drew) (w2 := w3) (G := H + 1 + 1) (by decide) (by decide) rfl (by simp) (fun j v hj => ?_) ?_ (fun b hb => ?_) HB1.out (HB2.out.trans (HB3.out.mono hs2)) (by omega) (by have := HH.out; omega) hgU
    · match j, hj with
      | 0, hj =>
        simp at hj
        subst hj
        exact HOT.out.under HB3.out
      | 1, hj =>
        simp at hj
        subst hj
        exact HOT3.out
      | j + 2, hj => simp at hj
    · have e : (List.range 2).flatMap (fun j => if j = 0 then fp else gp) = fp ++ gp := by simp [List.range_succ]
      show ((List.range 2).flatMap _).Nodup
      rw [e]
      refine List.nodup_append.2 ⟨HOT.out.nodup, HOT3.out.nodup, fun x hx y hy e => ?_⟩
      have := HFP.out x hx
      have := HFP3.out y hy
      omega
    · have e : (List.range 2).flatMap (fun j => if j = 0 then fp else gp) = fp ++ gp := by simp [List.range_succ]
      have hb' : b ∈ fp ++ gp := by rw [← e]; exact hb
      rcases List.mem_append.1 hb' with hb' | hb'
      · have := HFP.out b hb'; omega
      · have := HFP3.out b hb'; omega)
  have t0 := u1.c0
  have t1 := u1.c1
  have t2 := u1.c2
  clear hU hgU u1
  exact bodyPost_ret (v := .agg #[.int .i64 5, .slice none 0 0, .slice (some ⟨w3.heap.size, 0, none⟩) 2 2]) (by simp [results, Try.results48, go_sem, t0, t1, t2]) rfl HRR.out
end Go.Proofs.Ytffaggiblglcbaa

/-
  The cursor over the bytes of a draw: made anew, read byte by byte, numbers below a bound, picks from a list. What a draw gives is left open; what is said is that it returns, within its bounds, and that only the cursor's own block has turned.
-/
namespace Go.Proofs.Ytffaggiblglcbaa
open Go.RowKit

/-- the cursor at block b: the bytes of the draw, the place, the mixed number -/
def Cur (w : World) (b : Nat) : Prop :=
  ∃ (A : Option Addr) (cap : Nat) (bs : List UInt8) (i : Nat) (h : Int), w.heap[b]? = some (.cells #[.slice A bs.length cap, .int .i64 i, .int .i64 h] 70 (0, 0)) ∧
    Sl w A (bcells bs) ∧ (∀ ad, A = some ad → bcells bs ≠ [] → ad.block < b) ∧ i ≤ bs.length ∧ bs.length ≤ 1048576

def NewPost (w : World) (e : Ending) (w' : World) : Prop := ∃ b, e = .returned (.pointer (some ⟨b, 0, none⟩)) ∧ w.heap.size ≤ b ∧ Cur w' b ∧ Below w.heap.size w w'

def NInv (n : Nat) (w : World) (q i : Value) (wr : World) : Prop := ∃ (j : Nat) (h : Int), j ≤ n ∧ i = .int .i64 j ∧ q = .int .i64 h ∧ wr = w

theorem sl_old {A : Option Addr} {xs : List Value} {w : World} (h : Sl w A xs) : ∀ ad, A = some ad → xs ≠ [] → ad.block < w.heap.size := by
  intro ad e hx
  obtain ⟨u, hu⟩ : ∃ u, xs[0]? = some u := by
    cases xs with
    | nil => exact absurd rfl hx
    | cons u r => exact ⟨u, rfl⟩
  obtain ⟨ad', e', hc⟩ := h 0 u hu
  rw [e] at e'
  injection e' with e'
  subst e'
  have := World.block_lt_of_cell? w _ hc
  have hb : (ad.add 0).block = ad.block := by unfold Addr.add; split <;> rfl
  omega
theorem cur_new {A : Option Addr} {cap : Nat} {bs : List UInt8} {w : World} (h : Sl w A (bcells bs)) (hn : bs.length ≤ 1048576) (q : Int) :
    NewPost w (.returned (.pointer (some ⟨w.heap.size, 0, none⟩))) (w.alloc (.cells #[.slice A bs.length cap, .int .i64 0, .int .i64 q] 70)) :=
  ⟨w.heap.size, rfl, Nat.le_refl _, ⟨A, cap, bs, 0, q, heap_alloc_new w _, h.below ((Below.refl _ _).alloc (Nat.le_refl _) _), sl_old h, Nat.zero_le _, hn⟩, (Below.refl _ _).alloc (Nat.le_refl _) _⟩

set_option maxRecDepth 100000 in
set_option maxHeartbeats 1600000 in
theorem l1New_any (A : Option Addr) (cap : Nat) (bs : List UInt8) (w : World) (h : Sl w A (bcells bs)) (hn : bs.length ≤ 1048576) :
    Calls Try.prog 21 #[.slice A bs.length cap] w (NewPost w) := by
  have HN := Lib.hid (fun q => cur_new (cap := cap) h hn q)
  go_enter Try.func21, Try.ntmps21
  go_wp2_with fail
  go_loopw [3, 4] (fun q i wr => NInv bs.length w q i wr) (fun _ i _ => bs.length - (intOf i).toNat)
  case atStart => exact ⟨0, _, Nat.zero_le _, rfl, rfl, rfl⟩
  case round =>
    obtain ⟨j, h0, hj, rfl, rfl, rfl⟩ := hrel
    by_cases hlt : j < bs.length
    · by_cases h4 : j < 4000
      · obtain ⟨ad, rfl, hc⟩ := h j _ (show (bcells bs)[j]? = some (.int .u8 (bs[j]'hlt).toNat) by simp [bcells, hlt])
        go_wp2_with fail
        go_roundw
        case rel => exact ⟨j + 1, _, hlt, by go_num, rfl, rfl⟩
        case measure => simp [intOf]; omega
      · go_wp2_with fail
        go_ret
        exact HN.out _
    · go_wp2_with fail
      go_ret
      exact HN.out _

theorem and255 (z : Int) : 0 ≤ bits .and .i64 z 255 ∧ bits .and .i64 z 255 ≤ 255 := by
  have h : (BitVec.ofInt 64 z &&& BitVec.ofInt 64 255).toNat ≤ 255 := by
    rw [BitVec.toNat_and]
    exact Nat.and_le_right
  show 0 ≤ IntKind.i64.wrap (((BitVec.ofInt 64 z &&& BitVec.ofInt 64 255).toNat : Nat) : Int) ∧ IntKind.i64.wrap (((BitVec.ofInt 64 z &&& BitVec.ofInt 64 255).toNat : Nat) : Int) ≤ 255
  rw [IntKind.wrap_i64]
  omega
theorem set_at (w : World) (b : Nat) (cs : Array Value) (t : TypeId) (j : Nat) (u : Value) (h : w.heap[b]? = some (.cells cs t (0, 0))) : (w.setCell ⟨b, j, none⟩ u).heap[b]? = some (.cells (cs.setIfInBounds j u) t (0, 0)) := heap_setCell_same w b j cs t u h
theorem grown_trans_row {a w w' : World} {row : Option Nat} (h : a.grownBy w row) (k : w.grownBy w' row) : a.grownBy w' row :=
  ⟨k.os.trans h.os, k.tape.trans h.tape, k.output.trans h.output, Nat.le_trans h.size k.size, fun i hi hn => (k.block i (Nat.lt_of_lt_of_le hi h.size) hn).trans (h.block i hi hn)⟩
theorem sl_heap {w w' : World} {A : Option Addr} {xs : List Value} (h : Sl w A xs) (e : w'.heap = w.heap) : Sl w' A xs := by
  intro j u hj
  obtain ⟨ad, e1, hc⟩ := h j u hj
  exact ⟨ad, e1, by rw [World.cell?_of_block (w := w) (by rw [e])]; exact hc⟩
theorem cur_heap {w w' : World} {b : Nat} (h : Cur w b) (e : w'.heap = w.heap) : Cur w' b := by
  obtain ⟨A, cap, bs, i, q, h1, h2, h3, h4, h5⟩ := h
  exact ⟨A, cap, bs, i, q, by rw [e]; exact h1, sl_heap h2 e, h3, h4, h5⟩
theorem grown_heap {a w w' : World} {row : Option Nat} (h : a.grownBy w row) (e : w'.heap = w.heap) (e1 : w'.os = w.os) (e2 : w'.tape = w.tape) (e3 : w'.output = w.output) : a.grownBy w' row :=
  ⟨e1.trans h.os, e2.trans h.tape, e3.trans h.output, by rw [e]; exact h.size, fun i hi hn => by rw [e]; exact h.block i hi hn⟩
/-- both, of a world that differs from this one in nothing but draws -/
def Kept (w : World) (b : Nat) (X : World) : Prop := ∀ W' : World, W'.heap = X.heap → W'.os = X.os → W'.tape = X.tape → W'.output = X.output → Cur W' b ∧ w.grownBy W' (some b)
theorem kept_mk {w X : World} {b : Nat} (h : Cur X b) (g : w.grownBy X (some b)) : Kept w b X := fun _ e e1 e2 e3 => ⟨cur_heap h e, grown_heap g e e1 e2 e3⟩
theorem grown_drewN {a w : World} {row : Option Nat} (h : a.grownBy w row) (n : Nat) : a.grownBy (w.drewN n) row := ⟨h.os, h.tape, h.output, h.size, h.block⟩
theorem sl_set {w : World} {b j : Nat} {A : Option Addr} {xs : List Value} (h : Sl w A xs) (hA : ∀ ad, A = some ad → xs ≠ [] → ad.block ≠ b) (u : Value) : Sl (w.setCell ⟨b, j, none⟩ u) A xs := by
  intro k v hk
  obtain ⟨ad, e, hc⟩ := h k v hk
  have hb : (ad.add k).block = ad.block := by unfold Addr.add; split <;> rfl
  exact ⟨ad, e, by rw [World.cell?_setCell_other _ _ _ _ (fun e2 => hA ad e (fun hx => by rw [hx] at hk; simp at hk) (by rw [← hb, ← e2]))]; exact hc⟩

/-- a number between, the cursor still a cursor, and nothing but its block has turned -/
def DPost (b : Nat) (lo hi : Int) (w : World) (e : Ending) (w' : World) : Prop := ∃ x : Int, e = .returned (.int .i64 x) ∧ lo ≤ x ∧ x ≤ hi ∧ Cur w' b ∧ w.grownBy w' (some b)

set_option maxRecDepth 100000 in
set_option maxHeartbeats 1600000 in
theorem l1Byte_any (b : Nat) (w : World) (hcur : Cur w b) : Calls Try.prog 74 #[.pointer (some ⟨b, 0, none⟩)] w (DPost b 0 255 w) := by
  obtain ⟨A, cap, bs, i, q, hblk, hsl, hA1, hi, hn⟩ := hcur
  have hA : ∀ ad, A = some ad → bcells bs ≠ [] → ad.block ≠ b := fun ad e h => Nat.ne_of_lt (hA1 ad e h)
  have f0 : w.cell? ⟨b, 0, none⟩ = some (.slice A bs.length cap) := cell_of_row w b 0 _ _ _ hblk
  have f1 : w.cell? ⟨b, 1, none⟩ = some (.int .i64 i) := cell_of_row w b 1 _ _ _ hblk
  have f2 : w.cell? ⟨b, 2, none⟩ = some (.int .i64 q) := cell_of_row w b 2 _ _ _ hblk
  have z1 : w.frozen? ⟨b, 1, none⟩ = false := frozen_of_row w b 1 _ _ hblk
  have z2 : w.frozen? ⟨b, 2, none⟩ = false := frozen_of_row w b 2 _ _ hblk
  have g2 : ∀ v, Kept w b (w.setCell ⟨b, 2, none⟩ (.int .i64 v)) := fun v =>
    kept_mk ⟨A, cap, bs, i, v, set_at w b _ _ 2 _ hblk, sl_set hsl hA _, hA1, hi, hn⟩ (grown_set (World.grownBy.refl w _) _)
  by_cases hlt : i < bs.length
  · have g3 : ∀ v, Kept w b ((w.setCell ⟨b, 2, none⟩ (.int .i64 v)).setCell ⟨b, 1, none⟩ (.int .i64 ((i : Int) + 1))) := fun v =>
      kept_mk ⟨A, cap, bs, i + 1, v, set_at (w.setCell ⟨b, 2, none⟩ (.int .i64 v)) b _ _ 1 _ (set_at w b _ _ 2 _ hblk), sl_set (sl_set hsl hA _) hA _, hA1, hlt, hn⟩ (grown_set (grown_set (World.grownBy.refl w _) _) _)
    obtain ⟨ad, rfl, hc0⟩ := hsl i _ (show (bcells bs)[i]? = some (.int .u8 (bs[i]'hlt).toNat) by simp [bcells, hlt])
    have hne : (ad.add i).block ≠ b := by
      have hb : (ad.add i).block = ad.block := by unfold Addr.add; split <;> rfl
      rw [hb]
      exact hA ad rfl (fun hx => by have := congrArg List.length hx; rw [bcells_len] at this; simp at this; rw [this] at hlt; simp at hlt)
    have hc : ∀ v, (w.setCell ⟨b, 2, none⟩ v).cell? (ad.add i) = some (.int .u8 (bs[i]'hlt).toNat) := fun v => by
      rw [World.cell?_setCell_other _ _ _ _ (fun e2 => hne (by rw [← e2]))]
      exact hc0
    have HG := Lib.hid g3
    clear hblk hsl g2 g3 hA hA1 hc0 hne
    go_enter Try.func74, Try.ntmps74
    go_wp2_with fail
    generalize wrap64 (wrap64 (q * 6364136223846793005) + 1442695040888963407) = q1
    go_quiet (fail)
    generalize hx : bits BinOp.and .i64 _ 255 = x
    have hx0 : 0 ≤ x ∧ x ≤ 255 := by rw [← hx]; exact and255 _
    have hx1 := hx0.1
    have hx2 := hx0.2
    clear hx0 hx
    go_wp2_with fail
    go_quiet (fail)
    go_wp2_with fail
    go_quiet (fail)
    generalize hy : bits BinOp.and .i64 _ 255 = y
    have hy0 : 0 ≤ y ∧ y ≤ 255 := by rw [← hy]; exact and255 _
    have hy1 := hy0.1
    have hy2 := hy0.2
    clear hy0 hy
    go_wp2_with fail
    go_ret
    exact ⟨y, rfl, hy1, hy2, HG.out q1 _ rfl rfl rfl rfl⟩
  · have HG := Lib.hid g2
    clear hblk hsl g2 hA hA1
    go_enter Try.func74, Try.ntmps74
    go_wp2_with fail
    generalize wrap64 (wrap64 (q * 6364136223846793005) + 1442695040888963407) = q1
    go_quiet (fail)
    generalize hx : bits BinOp.and .i64 _ 255 = x
    have hx0 : 0 ≤ x ∧ x ≤ 255 := by rw [← hx]; exact and255 _
    have hx1 := hx0.1
    have hx2 := hx0.2
    clear hx0 hx
    go_wp2_with fail
    go_quiet (fail)
    go_wp2_with fail
    go_ret
    exact ⟨x, rfl, hx1, hx2, HG.out q1 _ rfl rfl rfl rfl⟩

set_option maxRecDepth 100000 in
set_option maxHeartbeats 1600000 in
theorem l1Below_any (b : Nat) (n : Int) (w : World) (hcur : Cur w b) (h1 : 1 ≤ n) (h2 : n ≤ 1000000000) : Calls Try.prog 45 #[.pointer (some ⟨b, 0, none⟩), .int .i64 n] w (DPost b 0 (n - 1) w) := by
  have hn0 : ¬ n ≤ 0 := by omega
  by_cases h256 : n ≤ 256
  · have HC := Lib.hid hcur
    clear hcur
    go_enter Try.func45, Try.ntmps45
    go_wp2_with fail
    refine (l1Byte_any b w HC.out).mono ?_
    rintro e w1 ⟨x, rfl, hx0, hx1, hc, hg⟩
    have HR : Hid (∀ v : Int, v = x % n → DPost b 0 (n - 1) w (.returned (.int .i64 v)) w1) := fun v hv => ⟨v, rfl, by rw [hv]; exact Int.emod_nonneg _ (by omega), by rw [hv]; have := Int.emod_lt_of_pos x (by omega : 0 < n); omega, hc, hg⟩
    clear hc hg
    go_wp2_with fail
    go_ret
    exact HR.out _ rfl
  · have HC := Lib.hid hcur
    clear hcur
    go_enter Try.func45, Try.ntmps45
    go_wp2_with fail
    refine (l1Byte_any b w HC.out).mono ?_
    rintro e w1 ⟨x1, rfl, hx0, hx1, hc1, hg1⟩
    have HC1 := Lib.hid hc1
    have HG1 := Lib.hid hg1
    clear hc1 hg1
    go_wp2_with fail
    refine (l1Byte_any b w1 HC1.out).mono ?_
    rintro e w2 ⟨x2, rfl, hy0, hy1, hc2, hg2⟩
    have HC2 := Lib.hid hc2
    have HG2 := Lib.hid (hg2)
    clear hc2 hg2
    go_wp2_with fail
    refine (l1Byte_any b w2 HC2.out).mono ?_
    rintro e w3 ⟨x3, rfl, hz0, hz1, hc3, hg3⟩
    have HC3 := Lib.hid hc3
    have HG3 := Lib.hid (hg3)
    clear hc3 hg3
    go_wp2_with fail
    refine (l1Byte_any b w3 HC3.out).mono ?_
    rintro e w4 ⟨x4, rfl, hv0, hv1, hc4, hg4⟩
    have HR : Hid (∀ v : Int, v = (x1 * 16777216 + x2 * 65536 + x3 * 256 + x4) % n → DPost b 0 (n - 1) w (.returned (.int .i64 v)) w4) := fun v hv => ⟨v, rfl, by rw [hv]; exact Int.emod_nonneg _ (by omega), by rw [hv]; have := Int.emod_lt_of_pos (x1 * 16777216 + x2 * 65536 + x3 * 256 + x4) (by omega : 0 < n); omega, hc4, grown_trans_row HG1.out (grown_trans_row HG2.out (grown_trans_row HG3.out hg4))⟩
    clear hc4 hg4
    go_wp2_with fail
    go_ret
    exact HR.out _ rfl

theorem l1Once_any (b : Nat) (n : Int) (w : World) (hcur : Cur w b) (h1 : 1 ≤ n) (h2 : n ≤ 1000000000) : Calls Try.prog 71 #[.pointer (some ⟨b, 0, none⟩), .int .i64 n] w (fun e w' => ∃ y : Bool, e = .returned (.bool y) ∧ Cur w' b ∧ w.grownBy w' (some b)) := by
  have HC := Lib.hid hcur
  clear hcur
  go_enter Try.func71, Try.ntmps71
  go_wp2_with fail
  refine (l1Below_any b n w HC.out h1 h2).mono ?_
  rintro e w1 ⟨x, rfl, hx0, hx1, hc, hg⟩
  have HR : Hid (Cur w1 b ∧ w.grownBy w1 (some b)) := ⟨hc, hg⟩
  clear hc hg
  go_wp2_with fail
  go_ret
  exact ⟨_, rfl, HR.out⟩
end Go.Proofs.Ytffaggiblglcbaa
