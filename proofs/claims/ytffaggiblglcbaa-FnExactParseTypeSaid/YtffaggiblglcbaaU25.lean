/-
  Merged by program: RdL.
-/
import Derived.Test.YtffaggiblglcbaaU22
import Derived.Test.YtffaggiblglcbaaU24
import Derived.Deep.RegionLaw
import Derived.Deep.CutRange

/-
  The program's reader of types: readLabel, readArg.
-/
namespace Go.Proofs.Ytffaggiblglcbaa
open Go.RowKit

/-- where the program stands: the type in the making is the block g, its memory lies from B on, behind the shared variables -/
def IMid (H : Nat) (s : ByteArray) (B g : Nat) (κ : Int) (w0 : World) (ls : List ByteArray) (ts : List Ty) (n : Nat) (r : List UInt8) (L A : Option Addr) (lc d : Nat) (xs : List Value) (fs : Nat → List Nat) (w : World) : Prop :=
  Tin B g κ ls ts L A lc d xs fs w ∧ St H s n r w ∧ Fr (H + 2) (H + 3) B w0 w ∧ H + 8 < B
section
variable {H B g n : Nat} {s : ByteArray} {κ : Int} {w0 w w2 w3 w4 : World} {ls : List ByteArray} {ts : List Ty} {r : List UInt8} {L A : Option Addr} {lc d : Nat} {xs : List Value} {fs : Nat → List Nat}
theorem IMid.call (h : IMid H s B g κ w0 ls ts n r L A lc d xs fs w) {n' : Nat} {r' : List UInt8} (hs : St H s n' r' w2) (hf : Fr (H + 2) (H + 3) w.heap.size w w2) : IMid H s B g κ w0 ls ts n' r' L A lc d xs fs w2 := by
  obtain ⟨h1, h2, h3, h4⟩ := h
  exact ⟨h1.fr hf (by omega) (by omega), hs, h3.step (by have := h1.gb; omega) hf, h4⟩
theorem IMid.under (h : IMid H s B g κ w0 ls ts n r L A lc d xs fs w) (hb : Below w.heap.size w w2) : IMid H s B g κ w0 ls ts n r L A lc d xs fs w2 := h.call (h.2.1.under hb) (.of_below hb)
theorem IMid.low (h : IMid H s B g κ w0 ls ts n r L A lc d xs fs w) : B ≤ w.heap.size := by have := h.1.gb; omega
theorem IMid.label (h : IMid H s B g κ w0 ls ts n r L A lc d xs fs w3) {x : ByteArray} (hx : x.size ≤ 1048576) {L' : Option Addr} {lc' : Nat} (hown : w4.ownsRow B 9 1 (.slice L' (ls.length + 1) lc') (ls.length + 1) (ls.map Value.string ++ [.string x]))
    (hg : w3.grownBy w4 (Value.slice L ls.length lc).ownBlock) (hor : (Value.slice L' (ls.length + 1) lc').ownBlock = (Value.slice L ls.length lc).ownBlock ∨ (Value.slice L' (ls.length + 1) lc').ownBlock = some w3.heap.size) :
    ∃ L A lc d xs fs, IMid H s B g κ w0 (ls ++ [x]) ts n r L A lc d xs fs (w4.setCell ⟨g, 1, none⟩ (.slice L' (ls.length + 1) lc')) := by
  obtain ⟨h1, h2, h3, h4⟩ := h
  have hU : w4.grownBy (w4.setCell ⟨g, 1, none⟩ (.slice L' (ls.length + 1) lc')) (some g) := grown_set (World.grownBy.refl _ _) _
  have hgb := h1.gb
  exact ⟨_, _, _, _, _, _, h1.label hx hown hg hor, (h2.grown hg (fun k hk => by have := h1.rowL k hk; omega)).grown hU (fun k hk => by injection hk with hk; omega), (h3.grown hg (by omega) h1.rowL).setCell (.inr (.inr hgb.1)) _, h4⟩
theorem IMid.part (h : IMid H s B g κ w0 ls ts n r L A lc d xs fs w3) {t : Ty} {fp : List Nat} {r0 r1 r2 : Value} (hot : OTy w3 t [r0, r1, r2] fp) (hfp : ∀ x ∈ fp, B ≤ x ∧ x < w3.heap.size) (hap : ∀ x ∈ fp, x ≠ g ∧ x ∉ blk L ++ blk A ++ (List.range ts.length).flatMap fs)
    {A' : Option Addr} {d' : Nat} (hown : w4.ownsRow B 27 3 (.slice A' (ts.length + 1) d') (ts.length + 1) (xs ++ [r0, r1, r2])) (hg : w3.grownBy w4 (Value.slice A ts.length d).ownBlock)
    (hor : (Value.slice A' (ts.length + 1) d').ownBlock = (Value.slice A ts.length d).ownBlock ∨ (Value.slice A' (ts.length + 1) d').ownBlock = some w3.heap.size) :
    ∃ L A lc d xs fs, IMid H s B g κ w0 ls (ts ++ [t]) n r L A lc d xs fs (w4.setCell ⟨g, 2, none⟩ (.slice A' (ts.length + 1) d')) := by
  obtain ⟨h1, h2, h3, h4⟩ := h
  have hU : w4.grownBy (w4.setCell ⟨g, 2, none⟩ (.slice A' (ts.length + 1) d')) (some g) := grown_set (World.grownBy.refl _ _) _
  have hgb := h1.gb
  exact ⟨_, _, _, _, _, _, h1.part hot hfp hap hown hg hor, (h2.grown hg (fun k hk => by have := h1.rowA k hk; omega)).grown hU (fun k hk => by injection hk with hk; omega), (h3.grown hg (by omega) h1.rowA).setCell (.inr (.inr hgb.1)) _, h4⟩
theorem IMid.kind (h : IMid H s B g κ w0 ls ts n r L A lc d xs fs w) {κ' : Int} (hk : 0 ≤ κ' ∧ κ' ≤ 9) : IMid H s B g κ' w0 ls ts n r L A lc d xs fs (w.setCell ⟨g, 0, none⟩ (.int .i64 κ')) := by
  obtain ⟨h1, h2, h3, h4⟩ := h
  have hU : w.grownBy (w.setCell ⟨g, 0, none⟩ (.int .i64 κ')) (some g) := grown_set (World.grownBy.refl _ _) _
  have hgb := h1.gb
  exact ⟨h1.kind hk, h2.grown hU (fun k hk => by injection hk with hk; omega), h3.setCell (.inr (.inr hgb.1)) _, h4⟩
theorem IMid.setPos (h : IMid H s B g κ w0 ls ts n r L A lc d xs fs w) {r' : List UInt8} {p : Nat} (ha : At s r' p) {u : Value} (hu : u = .int .i64 p) : IMid H s B g κ w0 ls ts n r' L A lc d xs fs (w.setCell ⟨H + 2, 0, none⟩ u) := by
  obtain ⟨h1, h2, h3, h4⟩ := h
  have hU : w.grownBy (w.setCell ⟨H + 2, 0, none⟩ u) (some (H + 2)) := grown_set (World.grownBy.refl _ _) _
  exact ⟨h1.keep hU (fun k hk => by injection hk with hk; omega), h2.setPos ha hu, h3.setP 0 _, h4⟩
end
theorem At.lab {s : ByteArray} {r : List UInt8} {p : Nat} (h : At s r p) : ∃ r1, At s r1 (p + (labOf r).length) ∧ ((∃ q, cutC r = some (labOf r, q) ∧ tk 58 r1 = some q) ∨ (cutC r = none ∧ tk 58 r1 = none)) := by
  cases hc : cutC r with
  | none =>
    have hl : labOf r = r := by unfold labOf; rw [hc]
    rw [hl]
    refine ⟨[], ?_, .inr ⟨rfl, rfl⟩⟩
    have h' : At s (r ++ []) p := by rw [List.append_nil]; exact h
    exact h'.app.1
  | some p0 =>
    obtain ⟨l, q⟩ := p0
    have hl : labOf r = l := by unfold labOf; rw [hc]
    rw [hl]
    have hr := cutC_some hc
    subst hr
    exact ⟨58 :: q, h.app.1, .inl ⟨q, rfl, tk_same _ _⟩⟩
theorem At.ext {s : ByteArray} {r : List UInt8} {p : Nat} (h : At s r p) : s.extract p s.size = bs r := by
  have h0 := h.len
  have h' : At s (r ++ []) p := by rw [List.append_nil]; exact h
  have := h'.app.2
  rw [h0] at this
  exact this
/-- what readLabel leaves -/
def LabP (H : Nat) (s : ByteArray) (B g : Nat) (κ : Int) (w0 : World) (ls : List ByteArray) (ts : List Ty) (n : Nat) (r : List UInt8) (e : Ending) (w' : World) : Prop :=
  ∃ (ok : Bool) (r' : List UInt8) (L A : Option Addr) (lc d : Nat) (xs : List Value) (fs : Nat → List Nat), e = .returned (.bool ok) ∧ IMid H s B g κ w0 (ls ++ [bs (labOf r)]) ts n r' L A lc d xs fs w' ∧ ((ok = true ∧ cutC r = some (labOf r, r')) ∨ (ok = false ∧ cutC r = none))

set_option maxHeartbeats 1600000 in
set_option maxRecDepth 100000 in
theorem readLabel_any (H : Nat) (s : ByteArray) (B g : Nat) (κ : Int) (w0 : World) (ls : List ByteArray) (ts : List Ty) (n : Nat) (r : List UInt8) (L A : Option Addr) (lc d : Nat) (xs : List Value) (fs : Nat → List Nat) (w : World) (h : IMid H s B g κ w0 ls ts n r L A lc d xs fs w) (hs : s.size ≤ 1048576) (hls : ls.length ≤ 1000) :
    Calls Try.prog 57 #[.pointer (some ⟨g, 0, none⟩), .pointer (some ⟨H, 0, none⟩), .pointer (some ⟨H + 2, 0, none⟩), .pointer (some ⟨H + 5, 0, none⟩)] w (LabP H s B g κ w0 ls ts n r) := by
  obtain ⟨i0, hi, hz0, hz1, hz2⟩ := info_parts infoStr
  have H0 := Lib.hid h
  obtain ⟨hc, ⟨p, hp, ha⟩, hn⟩ := h.2.1
  have hlen := ha.len
  have hext := ha.ext
  have hll := labOf_len r
  obtain ⟨r1, ha1, hrr⟩ := ha.lab
  have hps : p ≤ s.size := by omega
  have hpi : (p : Int) ≤ (s.size : Int) := by omega
  have x0 := hc.cs.cell
  have x1 := hp.cell
  have HC := Lib.hid (cut_any r w (by omega))
  obtain ⟨S, hS⟩ : ∃ S, bs r = S := ⟨_, rfl⟩
  rw [hS] at HC hext
  unfold CutP at HC
  obtain ⟨x, hx⟩ : ∃ x, bs (labOf r) = x := ⟨_, rfl⟩
  have hxz : x.size = (labOf r).length := by rw [← hx, bs_size]
  rw [hx] at HC
  have HX := Lib.hid hx
  have HA1 := Lib.hid ha1
  have HRR := Lib.hid hrr
  have hpz : p + x.size ≤ s.size := by omega
  have HXZ := Lib.hid hxz
  have HP := Lib.hid hp
  clear h hc hp ha hn ha1 hrr hlen hS hx hll
  go_enter Try.func57, Try.ntmps57
  go_wp2_with fail
  refine HC.out.mono ?_
  rintro e w1 ⟨y, ok, nd, rfl, rfl⟩
  have H1 := Lib.hid (H0.out.under (show Below w.heap.size w (w.drewN nd) from below_drewN (Below.refl _ _) nd))
  have y1 := H1.out.1.box.c1
  clear x0 x1
  obtain ⟨W2, hW2⟩ : ∃ W2, w.drewN nd = W2 := ⟨_, rfl⟩
  rw [hW2] at H1 y1 ⊢
  have HP2 : Hid (Boxed W2 (H + 2) 3 (.int .i64 p)) := Lib.hid (by rw [← hW2]; exact HP.out)
  clear hW2
  have hba := (Below.refl W2.heap.size W2).alloc (Nat.le_refl _) (.cells #[.string x] 9)
  have H3 := Lib.hid (H1.out.under hba)
  have HSL := Lib.hid (sl_one W2 (.string x) 9)
  have HOC : Hid (∀ u ∈ [Value.string x], u.oneCell' = true) := Lib.hid (one_str _)
  have HP3 : Hid (Boxed (W2.alloc (.cells #[.string x] 9)) (H + 2) 3 (.int .i64 p)) := Lib.hid (Boxed.alloc HP2.out _)
  clear hba
  go_upto_region 4 with (at_builtin; refine wpList_append_sl _ rfl (.tmp 21) (.tmp 23) 24 rfl B 9 i0 _ 16 Try.underlying24 hi hz0 hz1 hz2 rfl (.slice L ls.length lc) ls.length (ls.map Value.string) rfl H3.out.1.r1 (some ⟨W2.heap.size, 0, none⟩) 1 1 [.string x] rfl rfl HSL.out HOC.out (by unfold maxLen; omega) (by omega) H3.out.low ?_; intro v5 w5 hown5 hg5 hor5; obtain ⟨L5, lc5, rfl⟩ := own_shape hown5; have bx5 := H3.out.1.box.grown hg5 H3.out.1.apL; have g5 := bx5.c1; have f5 := bx5.free 1; have HM5 := Lib.hid (H3.out.label (by omega) hown5 hg5 hor5); have bp5 := Boxed.grown HP3.out hg5 (fun e => by have h1 := H3.out.1.rowL _ e.symm; have h2 := H3.out.2.2.2; omega); have p5 := bp5.cell; have pf5 := Boxed.free bp5; clear hown5 hg5 hor5 bx5 bp5)
  obtain ⟨L6, A6, lc6, d6, xs6, fs6, hm6⟩ := HM5.out
  have hm7 := hm6.setPos HA1.out (u := .int .i64 ((p : Int) + ((labOf r).length : Int))) (by go_num)
  clear p5 pf5 g5 f5
  generalize hU : ((w5.setCell ⟨g, 1, none⟩ (.slice L5 (ls.length + 1) lc5)).setCell ⟨H + 2, 0, none⟩ (.int .i64 ((p : Int) + ((labOf r).length : Int)))) = U at hm7 ⊢
  have HRD := Lib.hid (read_any H s n r1 58 58 rfl U hm7.2.1 hs)
  have z5 : U.cell? ⟨H + 5, 0, none⟩ = some (.func (.func 55) #[] #[.pointer (some ⟨H + 2, 0, none⟩), .pointer (some ⟨H, 0, none⟩)]) := hm7.2.1.1.cr.cell
  have HM7 := Lib.hid hm7
  unfold ReadC at HRD
  clear hm6 hm7 hU HM5
  rcases HRR.out with ⟨q, hq1, hq2⟩ | ⟨hq1, hq2⟩
  · rw [hq2] at HRD
    simp only [Option.isSome_some, Option.getD_some] at HRD
    have HF : Hid (∀ w8, St H s n q w8 → Fr (H + 2) (H + 3) U.heap.size U w8 → LabP H s B g κ w0 ls ts n r (.returned (.bool true)) w8) := Lib.hid (fun w8 hs8 hf8 => ⟨true, q, L6, A6, lc6, d6, xs6, fs6, rfl, by rw [HX.out]; exact HM7.out.call hs8 hf8, .inl ⟨rfl, hq1⟩⟩)
    clear hq1 hq2
    go_wp2_with fail
    refine HRD.out.mono ?_
    rintro e w8 ⟨rfl, hs8, hf8⟩
    have HG := Lib.hid (HF.out w8 hs8 hf8)
    clear hs8 hf8
    go_wp2_with fail
    go_ret
    exact HG.out
  · rw [hq2] at HRD
    simp only [Option.isSome_none, Option.getD_none] at HRD
    have HF : Hid (∀ w8, St H s n r1 w8 → Fr (H + 2) (H + 3) U.heap.size U w8 → LabP H s B g κ w0 ls ts n r (.returned (.bool false)) w8) := Lib.hid (fun w8 hs8 hf8 => ⟨false, r1, L6, A6, lc6, d6, xs6, fs6, rfl, by rw [HX.out]; exact HM7.out.call hs8 hf8, .inr ⟨rfl, hq1⟩⟩)
    clear hq1 hq2
    go_wp2_with fail
    refine HRD.out.mono ?_
    rintro e w8 ⟨rfl, hs8, hf8⟩
    have HG := Lib.hid (HF.out w8 hs8 hf8)
    clear hs8 hf8
    go_wp2_with fail
    go_ret
    exact HG.out
end Go.Proofs.Ytffaggiblglcbaa
