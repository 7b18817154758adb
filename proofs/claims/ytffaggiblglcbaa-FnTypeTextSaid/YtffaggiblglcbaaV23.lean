/-
  Merged by program: RdA.
-/
import Derived.Test.YtffaggiblglcbaaV21
import Derived.Test.YtffaggiblglcbaaV22

/-
  The program's reader of types: readArg.
-/
namespace Go.Proofs.Ytffaggiblglcbaa
open Go.RowKit

/-- what was found, how many nodes were met, whether all went well -/
def Rr (o : Option (Ty × List UInt8 × Nat)) (t : Ty) (r : List UInt8) (n : Nat) (ok : Bool) : Prop := (ok = true ∧ o = some (t, r, n)) ∨ (ok = false ∧ o = none)
/-- what readType leaves -/
def TypP (H : Nat) (s : ByteArray) (o : Option (Ty × List UInt8 × Nat)) (w : World) (e : Ending) (w' : World) : Prop :=
  ∃ (t : Ty) (ok : Bool) (n : Nat) (r : List UInt8) (L A : Option Addr) (c d : Nat) (fp : List Nat), e = .returned (.tuple #[.agg #[.int .i64 t.top.kind, .slice L t.top.labels.length c, .slice A t.kids.length d], .bool ok]) ∧
    OTy w' t [.int .i64 t.top.kind, .slice L t.top.labels.length c, .slice A t.kids.length d] fp ∧ (∀ x ∈ fp, w.heap.size ≤ x ∧ x < w'.heap.size) ∧ St H s n r w' ∧ Fr (H + 2) (H + 3) w.heap.size w w' ∧ Rr o t r n ok
/-- what readArg leaves -/
def ArgP (H : Nat) (s : ByteArray) (B g : Nat) (κ : Int) (w0 : World) (ls : List ByteArray) (ts : List Ty) (o : Option (Ty × List UInt8 × Nat)) (e : Ending) (w' : World) : Prop :=
  ∃ (t : Ty) (ok : Bool) (n : Nat) (r : List UInt8) (L A : Option Addr) (lc d : Nat) (xs : List Value) (fs : Nat → List Nat), e = .returned (.bool ok) ∧ IMid H s B g κ w0 ls (ts ++ [t]) n r L A lc d xs fs w' ∧ Rr o t r n ok

theorem own_lit3 {w : World} {base n c : Nat} {e : TypeId} {A : Option Addr} {xs : List Value} (h : w.ownsRow base e 3 (.slice A n c) n xs) (hn : 0 < n) : ∃ b, A = some ⟨b, 0, none⟩ := by
  rcases h.2 with ⟨_, h0⟩ | ⟨g, cap, cur, hv, _⟩
  · omega
  · injection hv with h1 _ _
    exact ⟨g, h1⟩
theorem own_at3 {w : World} {base b n c : Nat} {e : TypeId} {xs : List Value} {z0 z1 z2 : Value} (h : w.ownsRow base e 3 (.slice (some ⟨b, 0, none⟩) (n + 1) c) (n + 1) (xs ++ [z0, z1, z2])) (hx : xs.length = n * 3) (i : Nat) {u : Value} (hu : [z0, z1, z2][i]? = some u) : w.cell? ⟨b, n * 3 + i, none⟩ = some u := by
  have hi : i < 3 := by have := (List.getElem?_eq_some_iff.1 hu).1; simpa using this
  rw [h.cellAt _ (by omega), List.getElem?_append_right (by omega), hx, Nat.add_sub_cancel_left]
  exact hu
theorem arg_ne {H n : Nat} {s : ByteArray} {B g : Nat} {κ : Int} {w0 : World} {ls : List ByteArray} {ts : List Ty} {r : List UInt8} {L A : Option Addr} {lc d : Nat} {xs : List Value} {fs : Nat → List Nat} {w : World} (h : IMid H s B g κ w0 ls ts n r L A lc d xs fs w) {b8 d8 : Nat}
    (hor : (Value.slice (some ⟨b8, 0, none⟩) (ts.length + 1) d8).ownBlock = (Value.slice A ts.length d).ownBlock ∨ (Value.slice (some ⟨b8, 0, none⟩) (ts.length + 1) d8).ownBlock = some w.heap.size) : g ≠ b8 := by
  intro e
  have hgb := h.1.gb
  rcases hor with e1 | e1
  · have hm := (blk_own A ts.length d b8).1 (by rw [← e1]; rfl)
    exact h.1.gn (by simp [e, hm])
  · have e2 : some b8 = some w.heap.size := e1
    injection e2 with e2
    omega
set_option maxHeartbeats 3200000 in
set_option maxRecDepth 100000 in
theorem readArg_any (H : Nat) (s : ByteArray) (o : Option (Ty × List UInt8 × Nat)) (B g : Nat) (κ : Int) (w0 : World) (ls : List ByteArray) (ts : List Ty) (n : Nat) (r : List UInt8) (L A : Option Addr) (lc d : Nat) (xs : List Value) (fs : Nat → List Nat) (w : World) (h : IMid H s B g κ w0 ls ts n r L A lc d xs fs w) (hts : ts.length ≤ 1000)
    (hty : Calls Try.prog 60 #[.pointer (some ⟨H + 3, 0, none⟩), .pointer (some ⟨H + 5, 0, none⟩), .pointer (some ⟨H + 8, 0, none⟩), .pointer (some ⟨H + 6, 0, none⟩)] w (TypP H s o w)) :
    Calls Try.prog 56 #[.pointer (some ⟨g, 0, none⟩), .pointer (some ⟨H + 4, 0, none⟩)] w (ArgP H s B g κ w0 ls ts o) := by
  obtain ⟨i1, hi1, hy0, hy1, hy2⟩ := info_parts infoTy
  have H0 := Lib.hid h
  have HT := Lib.hid hty
  have x4 : w.cell? ⟨H + 4, 0, none⟩ = some (.func (.func 60) #[] #[.pointer (some ⟨H + 3, 0, none⟩), .pointer (some ⟨H + 5, 0, none⟩), .pointer (some ⟨H + 8, 0, none⟩), .pointer (some ⟨H + 6, 0, none⟩)]) := h.2.1.1.ct.cell
  clear h hty
  go_enter Try.func56, Try.ntmps56
  go_wp2_with fail
  refine HT.out.mono ?_
  rintro e w5 ⟨t, ok, n5, r5, L5, A5, c5, d5, fp, rfl, hot, hfp, hst, hf5, hrr⟩
  clear x4
  have hm5 := H0.out.call hst hf5
  obtain ⟨y0, hy0'⟩ : ∃ y, t.top.kind = y := ⟨_, rfl⟩
  obtain ⟨y1, hy1'⟩ : ∃ y, t.top.labels.length = y := ⟨_, rfl⟩
  obtain ⟨y2, hy2'⟩ : ∃ y, t.kids.length = y := ⟨_, rfl⟩
  rw [hy0', hy1', hy2'] at hot
  rw [hy0', hy1', hy2']
  obtain ⟨N, hN⟩ : ∃ N, w5.heap.size = N := ⟨_, rfl⟩
  obtain ⟨W6, hW6⟩ : ∃ W6, (w5.alloc (.cells #[.int .i64 y0, .slice L5 y1 c5, .slice A5 y2 d5] 27)).drew = W6 := ⟨_, rfl⟩
  have hb6 : Below w5.heap.size w5 W6 := by rw [← hW6]; exact ((Below.refl _ _).alloc (Nat.le_refl _) _).drew
  have hz6 : W6.heap.size = N + 1 := by rw [← hW6]; simp [hN]
  have hbx6 : Box3 W6 N 27 (.int .i64 y0) (.slice L5 y1 c5) (.slice A5 y2 d5) := by rw [← hW6, ← hN]; exact Box3.new w5 _ _ _ _
  have hm6 := hm5.under hb6
  obtain ⟨W7, hW7⟩ : ∃ W7, W6.alloc (.cells #[.int .i64 0, .slice none 0 0, .slice none 0 0] 27) = W7 := ⟨_, rfl⟩
  have hb7 : Below W6.heap.size W6 W7 := by rw [← hW7]; exact (Below.refl _ _).alloc (Nat.le_refl _) _
  have hm7 := hm6.under hb7
  have hot7 := (hot.under hb6).under hb7
  have hgb0 := H0.out.1.gb
  have hz7 : W7.heap.size = N + 2 := by rw [← hW7]; simp [hz6]
  have hfp7 : ∀ x ∈ fp, B ≤ x ∧ x < W7.heap.size := fun x hx => by have h1 := hfp x hx; omega
  have hap7 := fp_apart hfp H0.out.1
  have HNW : Hid (∀ (j : Nat) (u : Value), [.int .i64 0, .slice none 0 0, .slice none 0 0][j]? = some u → W7.cell? ((⟨N + 1, 0, none⟩ : Addr).add j) = some u) := Lib.hid (by
    have := news3 W6 (.int .i64 0) (.slice none 0 0) (.slice none 0 0) 27
    rw [hW7, hz6] at this
    exact this)
  have hbx7 := hbx6.under hb7 hbx6.lt
  have HM6 := Lib.hid hm6
  have HM7 := Lib.hid hm7
  have HBX6 := Lib.hid hbx6
  have HBX7 := Lib.hid hbx7
  have HOT := Lib.hid hot7
  have HFP := Lib.hid hfp7
  have HAP := Lib.hid hap7
  have HRR := Lib.hid hrr
  have q14 := hm6.1.box.c2
  have q14' := hm7.1.box.c2
  have q15 := hbx6.c0
  have q16 := hbx6.c1
  have q17 := hbx6.c2
  have q15' := hbx7.c0
  have q16' := hbx7.c1
  have q17' := hbx7.c2
  have HFR : Hid (∀ w8, (∃ L A lc d xs fs, IMid H s B g κ w0 ls (ts ++ [t]) n5 r5 L A lc d xs fs w8) → ArgP H s B g κ w0 ls ts o (.returned (.bool ok)) w8) := Lib.hid (fun w8 ⟨L9, A9, lc9, d9, xs9, fs9, h9⟩ => ⟨t, ok, n5, r5, L9, A9, lc9, d9, xs9, fs9, rfl, h9, hrr⟩)
  subst hW7
  subst hW6
  clear hot hfp hst hf5 hrr hm5 hb6 hbx6 hm6 hb7 hm7 hot7 hfp7 hap7 hy0' hy1' hy2' hz7 hbx7 hgb0 hz6 HRR
  have q14a : ((w5.alloc (.cells #[.int .i64 y0, .slice L5 y1 c5, .slice A5 y2 d5] 27)).alloc (.cells #[.int .i64 0, .slice none 0 0, .slice none 0 0] 27)).cell? ⟨g, 2, none⟩ = some (.slice A ts.length d) := q14'
  have q15a : ((w5.alloc (.cells #[.int .i64 y0, .slice L5 y1 c5, .slice A5 y2 d5] 27)).alloc (.cells #[.int .i64 0, .slice none 0 0, .slice none 0 0] 27)).cell? ⟨N, 0, none⟩ = some (.int .i64 y0) := q15'
  have q16a : ((w5.alloc (.cells #[.int .i64 y0, .slice L5 y1 c5, .slice A5 y2 d5] 27)).alloc (.cells #[.int .i64 0, .slice none 0 0, .slice none 0 0] 27)).cell? ⟨N, 1, none⟩ = some (.slice L5 y1 c5) := q16'
  have q17a : ((w5.alloc (.cells #[.int .i64 y0, .slice L5 y1 c5, .slice A5 y2 d5] 27)).alloc (.cells #[.int .i64 0, .slice none 0 0, .slice none 0 0] 27)).cell? ⟨N, 2, none⟩ = some (.slice A5 y2 d5) := q17'
  have hlt1 : (ts.length : Int) < (ts.length : Int) + 1 := by omega
  go_upto_region 2 with (fail)
  go_cut [5] from 6 to 21 (fun s5 wx => s5 = .bool ok ∧ ∃ L A lc d xs fs, IMid H s B g κ w0 ls (ts ++ [t]) n5 r5 L A lc d xs fs wx)
  case first =>
    go_region_law (refine step_append_at (by rfl) (.tmp 14) (.tmp 17) 25 (by rfl) B 27 i1 _ 3 56 Try.underlying25 hi1 hy0 hy1 hy2 (by rfl) (by omega) (.slice A ts.length d) ts.length xs (by rfl) HM7.out.1.r2 ⟨N + 1, 0, none⟩ 1 1 [.int .i64 0, .slice none 0 0, .slice none 0 0] (by rfl) (by rfl) HNW.out (one3 _ _ _ _ _ _ _) (by unfold maxLen; omega) (by omega) HM7.out.low ?_; intro A8 d8 w8 hown8 hgr8 hor8; obtain ⟨b8, rfl⟩ := own_lit3 hown8 (by omega); have HAB := Lib.hid (arg_built HM7.out HOT.out HFP.out HAP.out hown8 hgr8 hor8); have bx8 := HM7.out.1.box.grown hgr8 HM7.out.1.apA; have g8 := bx8.c2; have f8 := bx8.free 2; have hxl := HM7.out.1.r2.1; have m0 : w8.cell? ⟨b8, ts.length * 3, none⟩ = some (.int .i64 0) := own_at3 hown8 hxl 0 rfl; have m1 := own_at3 hown8 hxl 1 rfl; have m2 := own_at3 hown8 hxl 2 rfl; have k0 := hown8.frozenAt (ts.length * 3); have k1 := hown8.frozenAt (ts.length * 3 + 1); have k2 := hown8.frozenAt (ts.length * 3 + 2); have hne8 := arg_ne HM7.out hor8; have hne8' := Ne.symm hne8; clear hown8 hgr8 hor8 bx8 hxl)
    all_goals go_wp2_with fail
    all_goals go_meet
    all_goals (case rel => first | exact ⟨rfl, HAB.out.1⟩ | exact ⟨rfl, HAB.out.2⟩)
  case rest =>
    obtain ⟨rfl, hm9⟩ := hcut
    have HG := Lib.hid (HFR.out wc hm9)
    clear hm9
    go_wp2_with fail
    go_ret
    exact HG.out
end Go.Proofs.Ytffaggiblglcbaa
