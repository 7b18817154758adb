/-
  Merged by program: SqI.
-/
import Derived.Test.YtffaggiblglcbaaV19
import Derived.Deep.RegionHeld3
import Derived.Deep.RegionLaw
import Derived.Deep.CutRange

/-
  The model's reader of types: l4Rec, l4Type.
-/
namespace Go.Proofs.Ytffaggiblglcbaa
open Go.RowKit

/-- what was found, and whether something went wrong -/
def Sr (o : Option (Ty × List UInt8)) (t : Ty) (r : List UInt8) (bad : Bool) : Prop := (bad = false ∧ o = some (t, r)) ∨ (bad = true ∧ o = none)
/-- what l4Type leaves -/
def SqP (b : Nat) (s : ByteArray) (o : Option (Ty × List UInt8)) (w : World) (e : Ending) (w' : World) : Prop :=
  ∃ (t : Ty) (L A : Option Addr) (c d : Nat) (fp : List Nat) (r : List UInt8) (bad : Bool), e = .returned (.agg #[.int .i64 t.top.kind, .slice L t.top.labels.length c, .slice A t.kids.length d]) ∧
    OTy w' t [.int .i64 t.top.kind, .slice L t.top.labels.length c, .slice A t.kids.length d] fp ∧ (∀ x ∈ fp, w.heap.size ≤ x ∧ x < w'.heap.size) ∧ RdSt w' b s r bad ∧ Fr b b w.heap.size w w' ∧ Sr o t r bad
theorem RdSt.fr {w w' : World} {b : Nat} {s : ByteArray} {r : List UInt8} {bad : Bool} {p q B : Nat} (h : RdSt w b s r bad) (hf : Fr p q B w w') (hb : b < B) (h1 : b ≠ p) (h2 : b ≠ q) : RdSt w' b s r bad := by
  obtain ⟨k, hk, ha⟩ := h
  exact ⟨k, hk.fr hf hb h1 h2, ha⟩
theorem RdSt.under {w w' : World} {b : Nat} {s : ByteArray} {r : List UInt8} {bad : Bool} (h : RdSt w b s r bad) (hb : Below w.heap.size w w') : RdSt w' b s r bad := by
  obtain ⟨k, hk, ha⟩ := h
  exact ⟨k, hk.under hb hk.lt, ha⟩
theorem RdSt.grown {w w' : World} {b : Nat} {s : ByteArray} {r : List UInt8} {bad : Bool} {row : Option Nat} (h : RdSt w b s r bad) (hg : w.grownBy w' row) (hne : some b ≠ row) : RdSt w' b s r bad := by
  obtain ⟨k, hk, ha⟩ := h
  exact ⟨k, hk.grown hg hne, ha⟩
theorem RdSt.lt {w : World} {b : Nat} {s : ByteArray} {r : List UInt8} {bad : Bool} (h : RdSt w b s r bad) : b < w.heap.size := by
  obtain ⟨k, hk, _⟩ := h
  exact hk.lt
theorem RdSt.drew {w : World} {b : Nat} {s : ByteArray} {r : List UInt8} {bad : Bool} (h : RdSt w b s r bad) : RdSt w.drew b s r bad := h
theorem RdSt.cellBad {w : World} {b : Nat} {s : ByteArray} {r : List UInt8} {bad : Bool} (h : RdSt w b s r bad) : w.cell? ⟨b, 2, none⟩ = some (.bool bad) := by
  obtain ⟨k, hk, _⟩ := h
  exact hk.c2
theorem RdSt.place {w : World} {b : Nat} {s : ByteArray} {r : List UInt8} {bad : Bool} (h : RdSt w b s r bad) : placeOf w b + r.length = s.size := by
  obtain ⟨k, hk, ha⟩ := h
  rw [placeOf_box hk]
  exact ha.len
theorem sqF_cont {Q : List UInt8 → Option (Ty × List UInt8)} {k : Nat} {r r6 r7 : List UInt8} {t : Ty} {bad : Bool} (h : Sr ((tk 58 (word r).2).bind Q) t r6 bad) (h7 : tkB bad 44 r6 = some r7) : sqF Q (k + 1) r = (sqF Q k r7).map fun y => (bs (word r).1 :: y.1, t :: y.2.1, y.2.2) := by
  rcases h with ⟨rfl, h⟩ | ⟨rfl, h⟩
  · obtain ⟨r1, h1, h2⟩ := Option.bind_eq_some_iff.1 h
    have h7' : tk 44 r6 = some r7 := h7
    conv => lhs; unfold sqF
    rw [h1]
    simp only [Option.bind_some]
    rw [h2]
    simp only [Option.bind_some]
    rw [h7']
  · cases h7
theorem sqF_last {Q : List UInt8 → Option (Ty × List UInt8)} {k : Nat} {r r6 : List UInt8} {t : Ty} {bad : Bool} (h : Sr ((tk 58 (word r).2).bind Q) t r6 bad) (h7 : tkB bad 44 r6 = none) : sqF Q (k + 1) r = (tkB bad 125 r6).map fun r3 => ([bs (word r).1], [t], r3) := by
  rcases h with ⟨rfl, h⟩ | ⟨rfl, h⟩
  · obtain ⟨r1, h1, h2⟩ := Option.bind_eq_some_iff.1 h
    have h7' : tk 44 r6 = none := h7
    conv => lhs; unfold sqF
    rw [h1]
    simp only [Option.bind_some]
    rw [h2]
    simp only [Option.bind_some]
    rw [h7']
    rfl
  · show _ = none
    conv => lhs; unfold sqF
    cases h1 : tk 58 (word r).2 with
    | none => rfl
    | some r1 =>
      rw [h1] at h
      simp only [Option.bind_some] at h ⊢
      rw [h]
      rfl
/-- where l4Rec stands: the result's cell is the block H, the variable the block H + 1 -/
def RMid (b : Nat) (s : ByteArray) (H : Nat) (w : World) (ls : List ByteArray) (ts : List Ty) (r : List UInt8) (bad : Bool) (L A : Option Addr) (lc d : Nat) (xs : List Value) (fs : Nat → List Nat) (wx : World) : Prop :=
  Tin (H + 1) (H + 1) 3 ls ts L A lc d xs fs wx ∧ Box3 wx H 27 (.int .i64 0) (.slice none 0 0) (.slice none 0 0) ∧ RdSt wx b s r bad ∧ Fr b b H w wx ∧ b < H
section
variable {b H : Nat} {s : ByteArray} {w wx w2 w3 w4 : World} {ls : List ByteArray} {ts : List Ty} {r : List UInt8} {bad : Bool} {L A : Option Addr} {lc d : Nat} {xs : List Value} {fs : Nat → List Nat}
theorem RMid.call (h : RMid b s H w ls ts r bad L A lc d xs fs wx) {r' : List UInt8} {bad' : Bool} (hr : RdSt w2 b s r' bad') (hf : Fr b b wx.heap.size wx w2) : RMid b s H w ls ts r' bad' L A lc d xs fs w2 := by
  obtain ⟨h1, h2, h3, h4, h5⟩ := h
  exact ⟨h1.fr hf (by omega) (by omega), h2.fr hf h2.lt (by omega) (by omega), hr, h4.step (by have := h2.lt; omega) hf, h5⟩
theorem RMid.under (h : RMid b s H w ls ts r bad L A lc d xs fs wx) (hb : Below wx.heap.size wx w2) : RMid b s H w ls ts r bad L A lc d xs fs w2 := h.call (h.2.2.1.under hb) (.of_below hb)
theorem RMid.low (h : RMid b s H w ls ts r bad L A lc d xs fs wx) : H ≤ wx.heap.size := Nat.le_of_lt h.2.1.lt
theorem Tin.apL {B g : Nat} {κ : Int} (h : Tin B g κ ls ts L A lc d xs fs w) : some g ≠ (Value.slice L ls.length lc).ownBlock := fun e => h.gn (by simp [(blk_own L ls.length lc g).1 e.symm])
theorem Tin.apA {B g : Nat} {κ : Int} (h : Tin B g κ ls ts L A lc d xs fs w) : some g ≠ (Value.slice A ts.length d).ownBlock := fun e => h.gn (by simp [(blk_own A ts.length d g).1 e.symm])
theorem RMid.label (h : RMid b s H w ls ts r bad L A lc d xs fs w3) {x : ByteArray} (hx : x.size ≤ 1048576) {L' : Option Addr} {lc' : Nat} (hown : w4.ownsRow (H + 1) 9 1 (.slice L' (ls.length + 1) lc') (ls.length + 1) (ls.map Value.string ++ [.string x]))
    (hg : w3.grownBy w4 (Value.slice L ls.length lc).ownBlock) (hor : (Value.slice L' (ls.length + 1) lc').ownBlock = (Value.slice L ls.length lc).ownBlock ∨ (Value.slice L' (ls.length + 1) lc').ownBlock = some w3.heap.size) :
    ∃ L A lc d xs fs, RMid b s H w (ls ++ [x]) ts r bad L A lc d xs fs (w4.setCell ⟨H + 1, 1, none⟩ (.slice L' (ls.length + 1) lc')) := by
  obtain ⟨h1, h2, h3, h4, h5⟩ := h
  have hlow : ∀ g, (Value.slice L ls.length lc).ownBlock = some g → H + 1 ≤ g := h1.rowL
  have hne : some H ≠ (Value.slice L ls.length lc).ownBlock := fun e => by have := hlow H e.symm; omega
  have hU : w4.grownBy (w4.setCell ⟨H + 1, 1, none⟩ (.slice L' (ls.length + 1) lc')) (some (H + 1)) := grown_set (World.grownBy.refl _ _) _
  refine ⟨_, _, _, _, _, _, h1.label hx hown hg hor, (h2.grown hg hne).grown hU (fun e => by injection e with e; omega), (h3.grown hg (fun e => by have := hlow b e.symm; omega)).grown hU (fun e => by injection e with e; omega), ?_, h5⟩
  have hs := h2.lt
  exact ((h4.grown hg (by omega) (fun g hgg => by have := hlow g hgg; omega)).setCell (.inr (.inr (by show H ≤ H + 1; omega))) _)
theorem RMid.part (h : RMid b s H w ls ts r bad L A lc d xs fs w3) {t : Ty} {fp : List Nat} {r0 r1 r2 : Value} (hot : OTy w3 t [r0, r1, r2] fp) (hfp : ∀ x ∈ fp, H + 1 ≤ x ∧ x < w3.heap.size) (hap : ∀ x ∈ fp, x ≠ H + 1 ∧ x ∉ blk L ++ blk A ++ (List.range ts.length).flatMap fs)
    {A' : Option Addr} {d' : Nat} (hown : w4.ownsRow (H + 1) 27 3 (.slice A' (ts.length + 1) d') (ts.length + 1) (xs ++ [r0, r1, r2])) (hg : w3.grownBy w4 (Value.slice A ts.length d).ownBlock)
    (hor : (Value.slice A' (ts.length + 1) d').ownBlock = (Value.slice A ts.length d).ownBlock ∨ (Value.slice A' (ts.length + 1) d').ownBlock = some w3.heap.size) :
    ∃ L A lc d xs fs, RMid b s H w ls (ts ++ [t]) r bad L A lc d xs fs (w4.setCell ⟨H + 1, 2, none⟩ (.slice A' (ts.length + 1) d')) := by
  obtain ⟨h1, h2, h3, h4, h5⟩ := h
  have hlow : ∀ g, (Value.slice A ts.length d).ownBlock = some g → H + 1 ≤ g := h1.rowA
  have hne : some H ≠ (Value.slice A ts.length d).ownBlock := fun e => by have := hlow H e.symm; omega
  have hU : w4.grownBy (w4.setCell ⟨H + 1, 2, none⟩ (.slice A' (ts.length + 1) d')) (some (H + 1)) := grown_set (World.grownBy.refl _ _) _
  refine ⟨_, _, _, _, _, _, h1.part hot hfp hap hown hg hor, (h2.grown hg hne).grown hU (fun e => by injection e with e; omega), (h3.grown hg (fun e => by have := hlow b e.symm; omega)).grown hU (fun e => by injection e with e; omega), ?_, h5⟩
  have hs := h2.lt
  exact ((h4.grown hg (by omega) (fun g hgg => by have := hlow g hgg; omega)).setCell (.inr (.inr (by show H ≤ H + 1; omega))) _)
end
theorem news1 (w : World) (u : Value) (t : TypeId) : ∀ (j : Nat) (v : Value), [u][j]? = some v → (w.alloc (.cells #[u] t)).cell? ((⟨w.heap.size, 0, none⟩ : Addr).add j) = some v := by
  intro j v hj
  obtain ⟨ad, e, h⟩ := sl_one w u t j v hj
  injection e with e
  subst e
  exact h
/-- what the loop of l4Rec keeps: at its head nothing has gone wrong -/
def RecInv (b : Nat) (s : ByteArray) (Q : List UInt8 → Option (Ty × List UInt8)) (r0 : List UInt8) (H : Nat) (w wr : World) : Prop :=
  ∃ (ls : List ByteArray) (ts : List Ty) (r : List UInt8) (k : Nat) (L A : Option Addr) (lc d : Nat) (xs : List Value) (fs : Nat → List Nat), RMid b s H w ls ts r false L A lc d xs fs wr ∧
    r.length < k ∧ sqF Q (r0.length + 1) r0 = (sqF Q k r).map (fun y => (ls ++ y.1, ts ++ y.2.1, y.2.2)) ∧ ls.length = ts.length ∧ ls.length + r.length ≤ s.size
/-- l4Rec's end: what is found, stored into the result -/
theorem rec_done {b H : Nat} {s : ByteArray} {w wx U : World} {ls : List ByteArray} {ts : List Ty} {r : List UInt8} {bad : Bool} {L A : Option Addr} {lc d : Nat} {xs : List Value} {fs : Nat → List Nat} (h : RMid b s H w ls ts r bad L A lc d xs fs wx) (hH : w.heap.size = H)
    (h1 : ls.length ≤ 1048577) (h2 : ts.length ≤ 1048577) (hU : wx.grownBy U (some H)) {o : Option (Ty × List UInt8)} (ho : Sr o (.node ⟨3, ls⟩ ts) r bad) : SqP b s o w (.returned (.agg #[.int .i64 3, .slice L ls.length lc, .slice A ts.length d])) U := by
  obtain ⟨k1, k2, k3, k4, k5⟩ := h
  have hs := hU.size
  have hlt := k2.lt
  refine ⟨.node ⟨3, ls⟩ ts, L, A, lc, d, _, r, bad, rfl, (k1.own (by omega) (by omega)).keep hU (fun x hx e => by injection e with e; have := k1.bd x hx; omega), fun x hx => by have := k1.bd x hx; omega, k3.grown hU (fun e => by injection e with e; omega), ?_, ho⟩
  rw [hH]
  exact k4.grown hU (by omega) (fun k hk => by injection hk with hk; omega)
theorem sr_bind (o : Option (List UInt8)) (Q : List UInt8 → Option (Ty × List UInt8)) (r : List UInt8) : (if (!o.isSome) = true then none else Q (o.getD r)) = o.bind Q := by
  cases o <;> rfl

theorem fp_new {H : Nat} {w w6 w7 : World} {fp : List Nat} (h : ∀ x ∈ fp, w.heap.size ≤ x ∧ x < w6.heap.size) (h1 : H + 1 < w.heap.size) (h2 : w6.heap.size ≤ w7.heap.size) : ∀ x ∈ fp, H + 1 ≤ x ∧ x < w7.heap.size := fun x hx => by
  have := h x hx
  omega
theorem fp_apart {B g : Nat} {κ : Int} {ls : List ByteArray} {ts : List Ty} {L A : Option Addr} {lc d : Nat} {xs : List Value} {fs : Nat → List Nat} {w w6 : World} {fp : List Nat} (h : ∀ x ∈ fp, w.heap.size ≤ x ∧ x < w6.heap.size) (ht : Tin B g κ ls ts L A lc d xs fs w) : ∀ x ∈ fp, x ≠ g ∧ x ∉ blk L ++ blk A ++ (List.range ts.length).flatMap fs := fun x hx => by
  have h1 := h x hx
  have h2 := ht.gb
  refine ⟨by omega, fun hm => ?_⟩
  have := ht.bd x hm
  omega
theorem rec_len {D : Nat} {r r6 r7 : List UInt8} {t : Ty} {bad : Bool} (h : Sr ((tk 58 (word r).2).bind (sq D)) t r6 bad) (h7 : tkB bad 44 r6 = some r7) : r7.length + 3 ≤ r.length := by
  rcases h with ⟨rfl, h⟩ | ⟨rfl, h⟩
  · obtain ⟨r1, h1, h2⟩ := Option.bind_eq_some_iff.1 h
    have e1 := congrArg List.length (tk_some h1)
    have e2 := congrArg List.length (tk_some (show tk 44 r6 = some r7 from h7))
    have e3 := sq_wt _ _ _ _ h2
    have e4 := word_len r
    simp only [List.length_cons] at e1 e2
    omega
  · cases h7
theorem rec_sr {Q : List UInt8 → Option (Ty × List UInt8)} {k K : Nat} {r r0 r6 : List UInt8} {t : Ty} {bad : Bool} {ls : List ByteArray} {ts : List Ty} {x : ByteArray} (hx : bs (word r).1 = x) (hk : r.length < k) (hsq : sqF Q K r0 = (sqF Q k r).map (fun y => (ls ++ y.1, ts ++ y.2.1, y.2.2)))
    (h : Sr ((tk 58 (word r).2).bind Q) t r6 bad) (h7 : tkB bad 44 r6 = none) : Sr ((sqF Q K r0).map fun y => (.node ⟨3, y.1⟩ y.2.1, y.2.2)) (.node ⟨3, ls ++ [x]⟩ (ts ++ [t])) ((tkB bad 125 r6).getD r6) (!(tkB bad 125 r6).isSome) := by
  obtain ⟨j, rfl⟩ : ∃ j, k = j + 1 := ⟨k - 1, by omega⟩
  rw [hsq, sqF_last h h7, hx]
  cases tkB bad 125 r6 with
  | none => exact .inr ⟨rfl, rfl⟩
  | some r3 => exact .inl ⟨rfl, rfl⟩
theorem rec_go {Q : List UInt8 → Option (Ty × List UInt8)} {k K : Nat} {r r0 r6 r7 : List UInt8} {t : Ty} {bad : Bool} {ls : List ByteArray} {ts : List Ty} {x : ByteArray} (hx : bs (word r).1 = x) (hk : r.length < k) (hsq : sqF Q K r0 = (sqF Q k r).map (fun y => (ls ++ y.1, ts ++ y.2.1, y.2.2)))
    (h : Sr ((tk 58 (word r).2).bind Q) t r6 bad) (h7 : tkB bad 44 r6 = some r7) : sqF Q K r0 = (sqF Q (k - 1) r7).map (fun y => (ls ++ [x] ++ y.1, ts ++ [t] ++ y.2.1, y.2.2)) := by
  obtain ⟨j, rfl⟩ : ∃ j, k = j + 1 := ⟨k - 1, by omega⟩
  rw [hsq, sqF_cont h h7, hx, Nat.add_sub_cancel, Option.map_map]
  congr 1
  funext y
  simp

set_option maxHeartbeats 6400000 in
set_option maxRecDepth 100000 in
theorem l4Rec_of (D : Nat) (ih : ∀ (q : Int) (b : Nat) (s : ByteArray) (r : List UInt8) (bad : Bool) (w : World), q + D = 8 → s.size ≤ 1048576 → RdSt w b s r bad → Calls Try.prog 33 #[.pointer (some ⟨b, 0, none⟩), .int .i64 q] w (SqP b s (if bad = true then none else sq D r) w))
    (q : Int) (b : Nat) (s : ByteArray) (r0 : List UInt8) (w : World) (hq : q + D = 8) (hs : s.size ≤ 1048576) (h : RdSt w b s r0 false) :
    Calls Try.prog 68 #[.pointer (some ⟨b, 0, none⟩), .int .i64 q] w (SqP b s ((sqF (sq D) (r0.length + 1) r0).map fun y => (.node ⟨3, y.1⟩ y.2.1, y.2.2)) w) := by
  obtain ⟨i0, hi, hz0, hz1, hz2⟩ := info_parts infoStr
  obtain ⟨i1, hi1, hy0, hy1, hy2⟩ := info_parts infoTy
  have hbl := h.lt
  obtain ⟨H, hH⟩ : ∃ H, w.heap.size = H := ⟨_, rfl⟩
  obtain ⟨W1, hW1⟩ : ∃ W1, (w.alloc (.cells #[.int .i64 0, .slice none 0 0, .slice none 0 0] 27)).alloc (.cells #[.int .i64 3, .slice none 0 0, .slice none 0 0] 27) = W1 := ⟨_, rfl⟩
  have hst : RecInv b s (sq D) r0 H w W1 := by
    have b0 : Box3 W1 H 27 (.int .i64 0) (.slice none 0 0) (.slice none 0 0) := by rw [← hW1, ← hH]; exact (Box3.new w _ _ _ _).alloc _
    have b1 : Box3 W1 (H + 1) 27 (.int .i64 3) (.slice none 0 0) (.slice none 0 0) := by
      have := Box3.new (w.alloc (.cells #[.int .i64 0, .slice none 0 0, .slice none 0 0] 27)) 27 (.int .i64 3) (.slice none 0 0) (.slice none 0 0)
      rw [hW1, World.size_alloc, hH] at this
      exact this
    have hb1 : Below w.heap.size w W1 := by rw [← hW1]; exact ((Below.refl _ _).alloc (Nat.le_refl _) _).alloc (by simp) _
    refine ⟨[], [], r0, r0.length + 1, none, none, 0, 0, [], fun _ => [], ⟨Tin.fresh b1 (by omega) ⟨by decide, by decide⟩, b0, h.under hb1, by rw [← hH]; exact Fr.of_below hb1, by omega⟩, by omega, ?_, rfl, ?_⟩
    · simp
    · have := h.place
      simp
      omega
  have HST := Lib.hid hst
  have HI := Lib.hid ih
  have HW1 := Lib.hid hW1
  have HH := Lib.hid hH
  have HQ := Lib.hid hq
  clear hst ih hW1 h hq
  go_enter Try.func68, Try.ntmps68
  go_wp2_with fail
  rw [HW1.out]
  go_loopw [] (fun wr => RecInv b s (sq D) r0 H w wr) (fun wr => s.size - placeOf wr b)
  case atStart => exact HST.out
  case round =>
    obtain ⟨ls, ts, r, k, L, A, lc, d, xs, fs, hm, hrk, hsq, hlt, hls⟩ := hrel
    have x2 := hm.2.2.1.cellBad
    have y1 := hm.1.box.c1
    have HM := Lib.hid hm
    have HMD := Lib.hid (hm.under ((Below.refl _ _).drew))
    have HPL := Lib.hid hm.2.2.1.place
    have HRK := Lib.hid hrk
    have HSQ := Lib.hid hsq
    have HLT := Lib.hid hlt
    have HLS := Lib.hid hls
    have hlz : ls.length ≤ 1048576 := by omega
    have hwl := word_len r
    have hxz : (bs (word r).1).size ≤ 1048576 := by rw [bs_size]; omega
    have HWD := Lib.hid (l4Word_any b s r false wr.drew hm.2.2.1.drew hs)
    unfold WordP at HWD
    obtain ⟨x, hx⟩ : ∃ x, bs (word r).1 = x := ⟨_, rfl⟩
    rw [hx] at HWD hxz
    have HX := Lib.hid hx
    have HXZ := Lib.hid hxz
    clear hm hrk hsq hlt hls hx hwl hxz
    go_upto_region 3 with (fail)
    go_cut [] from 7 to 31 (fun wx => ∃ L A lc d xs fs, RMid b s H w (ls ++ [x]) ts (word r).2 false L A lc d xs fs wx)
    case first =>
      go_region_law (first
        | (refine step_append_at (by rfl) (.tmp 13) (.tmp 16) 24 (by rfl) (H + 1) 9 i0 _ 1 16 Try.underlying24 hi hz0 hz1 hz2 (by rfl) (by omega) (.slice L ls.length lc) ls.length (ls.map Value.string) (by rfl) HM3.out.1.r1 ⟨w2.heap.size, 0, none⟩ 1 1 [.string x] (by rfl) (by rfl) HNW.out (one_str _) (by unfold maxLen; omega) (by omega) (by have := HM3.out.1.gb; omega) ?_; intro A4 d4 w4 hown4 hgr4 hor4; have bx4 := HM3.out.1.box.grown hgr4 HM3.out.1.apL; have g4 := bx4.c1; have f4 := bx4.free 1; have HN := Lib.hid (HM3.out.label HXZ.out hown4 hgr4 hor4); clear hown4 hgr4 hor4 bx4)
        | (go_simp; refine HWD.out.mono ?_; rintro e w2 ⟨rfl, hr2, hf2⟩; have HM2 := Lib.hid (HMD.out.call hr2 hf2); have HM3 := Lib.hid (HM2.out.under ((Below.refl w2.heap.size w2).alloc (Nat.le_refl _) (.cells #[.string x] 9))); clear hr2 hf2; have e3 := HM2.out.1.box.c1; have e4 := HM3.out.1.box.c1; have HNW := Lib.hid (news1 w2 (.string x) 9)))
      all_goals go_wp2_with fail
      all_goals go_meet
      all_goals (case rel => exact HN.out)
    case rest =>
      obtain ⟨L3, A3, lc3, d3, xs3, fs3, hm3⟩ := hcut
      clear x2 y1 HM HMD HWD
      have HMU := Lib.hid (l4Must_any b s (word r).2 false 58 wc hm3.2.2.1 hs)
      have HM3 := Lib.hid hm3
      clear hm3
      unfold MustP at HMU
      go_wp2_with fail
      refine HMU.out.mono ?_
      rintro e w5 ⟨rfl, hr5, hf5⟩
      have hm5 := HM3.out.call hr5 hf5
      have hm5d := hm5.under (Below.refl w5.heap.size w5).drew
      have hty := HI.out q b s _ _ w5.drew HQ.out hs hm5d.2.2.1
      rw [sr_bind (tkB false 58 (word r).2) (sq D) (word r).2] at hty
      have y1 := hm5.1.box.c2
      have hsl : ts.length ≤ 1048576 := by have := HLT.out; omega
      have HTY := Lib.hid hty
      have HM5 := Lib.hid hm5
      have HM5d := Lib.hid hm5d
      clear hm5 hm5d hty hr5 hf5 HMU
      go_upto_region 5 with (fail)
      go_cut [] from 7 to 31 (fun wx => ∃ t6 r6 bad6 L A lc d xs fs, RMid b s H w (ls ++ [x]) (ts ++ [t6]) r6 bad6 L A lc d xs fs wx ∧ Sr ((tk 58 (word r).2).bind (sq D)) t6 r6 bad6)
      case first =>
        go_region_law (first
          | (refine step_append_at (by rfl) (.tmp 22) (.tmp 26) 25 (by rfl) (H + 1) 27 i1 _ 3 56 Try.underlying25 hi1 hy0 hy1 hy2 (by rfl) (by omega) (.slice A3 ts.length d3) ts.length xs3 (by rfl) HM7.out.1.r2 ⟨w6.heap.size, 0, none⟩ 1 1 [.int .i64 t6.top.kind, .slice L6 t6.top.labels.length c6, .slice A6 t6.kids.length d6] (by rfl) (by rfl) HNW.out (one3 _ _ _ _ _ _ _) (by unfold maxLen; omega) (by omega) (by have := HM7.out.1.gb; omega) ?_; intro A8 d8 w8 hown8 hgr8 hor8; have bx8 := HM7.out.1.box.grown hgr8 HM7.out.1.apA; have g8 := bx8.c2; have f8 := bx8.free 2; have HN := Lib.hid (HM7.out.part HOT.out HFP.out HAP.out hown8 hgr8 hor8); clear hown8 hgr8 hor8 bx8)
          | (go_simp; refine HTY.out.mono ?_; rintro e w6 ⟨t6, L6, A6, c6, d6, fp6, r6, bad6, rfl, hot6, hfp6, hr6, hf6, hsr6⟩; have HM6 := Lib.hid (HM5d.out.call hr6 hf6); have hba6 := (Below.refl w6.heap.size w6).alloc (Nat.le_refl _) (.cells #[.int .i64 t6.top.kind, .slice L6 t6.top.labels.length c6, .slice A6 t6.kids.length d6] 27); have HM7 := Lib.hid (HM6.out.under hba6); have HOT := Lib.hid (hot6.under hba6); have HSR := Lib.hid hsr6; have HFP := Lib.hid (fp_new hfp6 HM5d.out.1.gb.2 hba6.size); have HAP := Lib.hid (fp_apart hfp6 HM5d.out.1); clear hr6 hf6 hot6 hfp6 hsr6 hba6; have e3 := HM6.out.1.box.c2; have e4 := HM7.out.1.box.c2; have HNW := Lib.hid (news3 w6 (.int .i64 t6.top.kind) (.slice L6 t6.top.labels.length c6) (.slice A6 t6.kids.length d6) 27)))
        all_goals go_wp2_with fail
        all_goals go_meet
        all_goals (case rel => obtain ⟨L9, A9, lc9, d9, xs9, fs9, hm9⟩ := HN.out; exact ⟨t6, r6, bad6, L9, A9, lc9, d9, xs9, fs9, hm9, HSR.out⟩)
      case rest =>
        obtain ⟨t6, r6, bad6, L9, A9, lc9, d9, xs9, fs9, hm9, hsr6⟩ := hcut
        clear y1 HM3 HM5 HM5d HTY
        have HTK := Lib.hid (l4Take_any b s r6 bad6 44 wc hm9.2.2.1 hs)
        have HM9 := Lib.hid hm9
        have HSR := Lib.hid hsr6
        clear hm9 hsr6
        unfold TakeP at HTK
        cases ho : tkB bad6 44 r6 with
        | none =>
          rw [ho] at HTK
          simp only [Option.isSome_none, Option.getD_none] at HTK
          have HO := Lib.hid (rec_sr HX.out HRK.out HSQ.out HSR.out ho)
          clear ho
          go_wp2_with fail
          refine HTK.out.mono ?_
          rintro e w7 ⟨rfl, hr7, hf7⟩
          have hm7 := HM9.out.call hr7 hf7
          have HMU := Lib.hid (l4Must_any b s r6 bad6 125 w7 hm7.2.2.1 hs)
          have HM7 := Lib.hid hm7
          unfold MustP at HMU
          clear hm7 hr7 hf7 HTK
          go_wp2_with fail
          refine HMU.out.mono ?_
          rintro e w8 ⟨rfl, hr8, hf8⟩
          have hm8 := HM7.out.call hr8 hf8
          have hl1 : (ls ++ [x]).length = ls.length + 1 := by simp
          have hl2 : (ts ++ [t6]).length = ts.length + 1 := by simp
          have HD := Lib.hid (fun U (hU : w8.grownBy U (some H)) => rec_done hm8 HH.out (by rw [hl1]; omega) (by rw [hl2]; omega) hU HO.out)
          have q0 := hm8.1.box.c0
          have q1 := hm8.1.box.c1
          have q2 := hm8.1.box.c2
          have r0' := hm8.2.1.c0
          have r1' := hm8.2.1.c1
          have r2' := hm8.2.1.c2
          have s0 := hm8.2.1.free 0
          have s1 := hm8.2.1.free 1
          have s2 := hm8.2.1.free 2
          have HBX := Lib.hid hm8.2.1
          rw [hl1] at q1 HD
          rw [hl2] at q2 HD
          clear hm8 hr8 hf8 HMU hl1 hl2
          go_wp2_with fail
          generalize hU : ((w8.setCell ⟨H, 0, none⟩ (.int .i64 3)).setCell ⟨H, 1, none⟩ (.slice L9 (ls.length + 1) lc9)).setCell ⟨H, 2, none⟩ (.slice A9 (ts.length + 1) d9) = U
          have hgU : w8.grownBy U (some H) := by rw [← hU]; exact grown_set (grown_set (grown_set (World.grownBy.refl _ _) _) _) _
          have u1 : Box3 U H 27 (.int .i64 3) (.slice L9 (ls.length + 1) lc9) (.slice A9 (ts.length + 1) d9) := by
            rw [← hU]
            exact ((HBX.out.set0 _).set1 _).set2 _
          have HRR := Lib.hid (HD.out U hgU)
          have t0 := u1.c0
          have t1 := u1.c1
          have t2 := u1.c2
          clear hU hgU u1 q0 q1 q2 r0' r1' r2' s0 s1 s2
          exact bodyPost_ret (v := .agg #[.int .i64 3, .slice L9 (ls.length + 1) lc9, .slice A9 (ts.length + 1) d9]) (by simp [results, Try.results68, go_sem, t0, t1, t2]) rfl HRR.out
        | some r7 =>
          rw [ho] at HTK
          simp only [Option.isSome_some, Option.getD_some] at HTK
          have hbad : bad6 = false := by
            cases bad6 with
            | false => rfl
            | true => cases ho
          subst hbad
          have HO := Lib.hid (rec_go HX.out HRK.out HSQ.out HSR.out ho)
          have HLN := Lib.hid (rec_len HSR.out ho)
          clear ho
          go_wp2_with fail
          refine HTK.out.mono ?_
          rintro e w7 ⟨rfl, hr7, hf7⟩
          have HM7 := Lib.hid (HM9.out.call hr7 hf7)
          clear hr7 hf7 HTK
          go_wp2_with fail
          go_roundw
          case rel =>
            refine ⟨ls ++ [x], ts ++ [t6], r7, k - 1, L9, A9, lc9, d9, xs9, fs9, HM7.out, ?_, HO.out, by simp [HLT.out], ?_⟩
            · have h1 := HRK.out
              have h2 := HLN.out
              omega
            · have h1 := HLS.out
              have h2 := HLN.out
              simp
              omega
          case measure =>
            have h1 := HPL.out
            have h2 := HM7.out.2.2.1.place
            have h3 := HLN.out
            omega
end Go.Proofs.Ytffaggiblglcbaa
