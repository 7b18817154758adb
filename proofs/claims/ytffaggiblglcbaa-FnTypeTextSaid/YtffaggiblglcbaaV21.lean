/-
  Merged by program: RdL, TinB.
-/
import Derived.Test.YtffaggiblglcbaaV18
import Derived.Test.YtffaggiblglcbaaV20
import Derived.Deep.RegionLaw
import Derived.Deep.CutRange

/-
  The program's reader of types: readLabel, readArg.
-/
namespace Go.Proofs.Ytffaggiblglcbaa
open Go.RowKit

/-- where the program stands: the type in the making is the block g, its memory lies from B on, behind the shared variables -/
def IMid (H : Nat) (s : ByteArray) (B g : Nat) (κ : Int) (w0 : World) (ls : List ByteArray) (ts : List Ty) (n : Nat) (r : List UInt8) (L A : Option Addr) (lc d : Nat) (xs : List Value) (fs : Nat → List Nat) (w : World) : Prop :=
  Tin B g κ ls ts L A lc d xs fs w ∧ St H s n r w ∧ Fr (H + 2) (H + 3) B w0 w ∧ H + 8 < B
section
variable {H B g n : Nat} {s : ByteArray} {κ : Int} {w0 w w2 w3 w4 : World} {ls : List ByteArray} {ts : List Ty} {r : List UInt8} {L A : Option Addr} {lc d : Nat} {xs : List Value} {fs : Nat → List Nat}
theorem IMid.call (h : IMid H s B g κ w0 ls ts n r L A lc d xs fs w) {n' : Nat} {r' : List UInt8} (hs : St H s n' r' w2) (hf : Fr (H + 2) (H + 3) w.heap.size w w2) : IMid H s B g κ w0 ls ts n' r' L A lc d xs fs w2 := by
  obtain ⟨h1, h2, h3, h4⟩ := h
  exact ⟨h1.fr hf (by omega) (by omega), hs, h3.step (by have := h1.gb; omega) hf, h4⟩
theorem IMid.under (h : IMid H s B g κ w0 ls ts n r L A lc d xs fs w) (hb : Below w.heap.size w w2) : IMid H s B g κ w0 ls ts n r L A lc d xs fs w2 := h.call (h.2.1.under hb) (.of_below hb)
theorem IMid.low (h : IMid H s B g κ w0 ls ts n r L A lc d xs fs w) : B ≤ w.heap.size := by have := h.1.gb; omega
theorem IMid.label (h : IMid H s B g κ w0 ls ts n r L A lc d xs fs w3) {x : ByteArray} (hx : x.size ≤ 1048576) {L' : Option Addr} {lc' : Nat} (hown : w4.ownsRow B 9 1 (.slice L' (ls.length + 1) lc') (ls.length + 1) (ls.map Value.string ++ [.string x]))
    (hg : w3.grownBy w4 (Value.slice L ls.length lc).ownBlock) (hor : (Value.slice L' (ls.length + 1) lc').ownBlock = (Value.slice L ls.length lc).ownBlock ∨ (Value.slice L' (ls.length + 1) lc').ownBlock = some w3.heap.size) :
    ∃ L A lc d xs fs, IMid H s B g κ w0 (ls ++ [x]) ts n r L A lc d xs fs (w4.setCell ⟨g, 1, none⟩ (.slice L' (ls.length + 1) lc')) := by
  obtain ⟨h1, h2, h3, h4⟩ := h
  have hU : w4.grownBy (w4.setCell ⟨g, 1, none⟩ (.slice L' (ls.length + 1) lc')) (some g) := grown_set (World.grownBy.refl _ _) _
  have hgb := h1.gb
  exact ⟨_, _, _, _, _, _, h1.label hx hown hg hor, (h2.grown hg (fun k hk => by have := h1.rowL k hk; omega)).grown hU (fun k hk => by injection hk with hk; omega), (h3.grown hg (by omega) h1.rowL).setCell (.inr (.inr hgb.1)) _, h4⟩
theorem IMid.part (h : IMid H s B g κ w0 ls ts n r L A lc d xs fs w3) {t : Ty} {fp : List Nat} {r0 r1 r2 : Value} (hot : OTy w3 t [r0, r1, r2] fp) (hfp : ∀ x ∈ fp, B ≤ x ∧ x < w3.heap.size) (hap : ∀ x ∈ fp, x ≠ g ∧ x ∉ blk L ++ blk A ++ (List.range ts.length).flatMap fs)
    {A' : Option Addr} {d' : Nat} (hown : w4.ownsRow B 27 3 (.slice A' (ts.length + 1) d') (ts.length + 1) (xs ++ [r0, r1, r2])) (hg : w3.grownBy w4 (Value.slice A ts.length d).ownBlock)
    (hor : (Value.slice A' (ts.length + 1) d').ownBlock = (Value.slice A ts.length d).ownBlock ∨ (Value.slice A' (ts.length + 1) d').ownBlock = some w3.heap.size) :
    ∃ L A lc d xs fs, IMid H s B g κ w0 ls (ts ++ [t]) n r L A lc d xs fs (w4.setCell ⟨g, 2, none⟩ (.slice A' (ts.length + 1) d')) := by
  obtain ⟨h1, h2, h3, h4⟩ := h
  have hU : w4.grownBy (w4.setCell ⟨g, 2, none⟩ (.slice A' (ts.length + 1) d')) (some g) := grown_set (World.grownBy.refl _ _) _
  have hgb := h1.gb
  exact ⟨_, _, _, _, _, _, h1.part hot hfp hap hown hg hor, (h2.grown hg (fun k hk => by have := h1.rowA k hk; omega)).grown hU (fun k hk => by injection hk with hk; omega), (h3.grown hg (by omega) h1.rowA).setCell (.inr (.inr hgb.1)) _, h4⟩
theorem IMid.kind (h : IMid H s B g κ w0 ls ts n r L A lc d xs fs w) {κ' : Int} (hk : 0 ≤ κ' ∧ κ' ≤ 9) : IMid H s B g κ' w0 ls ts n r L A lc d xs fs (w.setCell ⟨g, 0, none⟩ (.int .i64 κ')) := by
  obtain ⟨h1, h2, h3, h4⟩ := h
  have hU : w.grownBy (w.setCell ⟨g, 0, none⟩ (.int .i64 κ')) (some g) := grown_set (World.grownBy.refl _ _) _
  have hgb := h1.gb
  exact ⟨h1.kind hk, h2.grown hU (fun k hk => by injection hk with hk; omega), h3.setCell (.inr (.inr hgb.1)) _, h4⟩
theorem IMid.setPos (h : IMid H s B g κ w0 ls ts n r L A lc d xs fs w) {r' : List UInt8} {p : Nat} (ha : At s r' p) {u : Value} (hu : u = .int .i64 p) : IMid H s B g κ w0 ls ts n r' L A lc d xs fs (w.setCell ⟨H + 2, 0, none⟩ u) := by
  obtain ⟨h1, h2, h3, h4⟩ := h
  have hU : w.grownBy (w.setCell ⟨H + 2, 0, none⟩ u) (some (H + 2)) := grown_set (World.grownBy.refl _ _) _
  exact ⟨h1.keep hU (fun k hk => by injection hk with hk; omega), h2.setPos ha hu, h3.setP 0 _, h4⟩
end
theorem At.lab {s : ByteArray} {r : List UInt8} {p : Nat} (h : At s r p) : ∃ r1, At s r1 (p + (labOf r).length) ∧ ((∃ q, cutC r = some (labOf r, q) ∧ tk 58 r1 = some q) ∨ (cutC r = none ∧ tk 58 r1 = none)) := by
  cases hc : cutC r with
  | none =>
    have hl : labOf r = r := by unfold labOf; rw [hc]
    rw [hl]
    refine ⟨[], ?_, .inr ⟨rfl, rfl⟩⟩
    have h' : At s (r ++ []) p := by rw [List.append_nil]; exact h
    exact h'.app.1
  | some p0 =>
    obtain ⟨l, q⟩ := p0
    have hl : labOf r = l := by unfold labOf; rw [hc]
    rw [hl]
    have hr := cutC_some hc
    subst hr
    exact ⟨58 :: q, h.app.1, .inl ⟨q, rfl, tk_same _ _⟩⟩
theorem At.ext {s : ByteArray} {r : List UInt8} {p : Nat} (h : At s r p) : s.extract p s.size = bs r := by
  have h0 := h.len
  have h' : At s (r ++ []) p := by rw [List.append_nil]; exact h
  have := h'.app.2
  rw [h0] at this
  exact this
/-- what readLabel leaves -/
def LabP (H : Nat) (s : ByteArray) (B g : Nat) (κ : Int) (w0 : World) (ls : List ByteArray) (ts : List Ty) (n : Nat) (r : List UInt8) (e : Ending) (w' : World) : Prop :=
  ∃ (ok : Bool) (r' : List UInt8) (L A : Option Addr) (lc d : Nat) (xs : List Value) (fs : Nat → List Nat), e = .returned (.bool ok) ∧ IMid H s B g κ w0 (ls ++ [bs (labOf r)]) ts n r' L A lc d xs fs w' ∧ ((ok = true ∧ cutC r = some (labOf r, r')) ∨ (ok = false ∧ cutC r = none))

set_option maxHeartbeats 1600000 in
set_option maxRecDepth 100000 in
theorem readLabel_any (H : Nat) (s : ByteArray) (B g : Nat) (κ : Int) (w0 : World) (ls : List ByteArray) (ts : List Ty) (n : Nat) (r : List UInt8) (L A : Option Addr) (lc d : Nat) (xs : List Value) (fs : Nat → List Nat) (w : World) (h : IMid H s B g κ w0 ls ts n r L A lc d xs fs w) (hs : s.size ≤ 1048576) (hls : ls.length ≤ 1000) :
    Calls Try.prog 57 #[.pointer (some ⟨g, 0, none⟩), .pointer (some ⟨H, 0, none⟩), .pointer (some ⟨H + 2, 0, none⟩), .pointer (some ⟨H + 5, 0, none⟩)] w (LabP H s B g κ w0 ls ts n r) := by
  obtain ⟨i0, hi, hz0, hz1, hz2⟩ := info_parts infoStr
  have H0 := Lib.hid h
  obtain ⟨hc, ⟨p, hp, ha⟩, hn⟩ := h.2.1
  have hlen := ha.len
  have hext := ha.ext
  have hll := labOf_len r
  obtain ⟨r1, ha1, hrr⟩ := ha.lab
  have hps : p ≤ s.size := by omega
  have hpi : (p : Int) ≤ (s.size : Int) := by omega
  have x0 := hc.cs.cell
  have x1 := hp.cell
  have HC := Lib.hid (cut_any r w (by omega))
  obtain ⟨S, hS⟩ : ∃ S, bs r = S := ⟨_, rfl⟩
  rw [hS] at HC hext
  unfold CutP at HC
  obtain ⟨x, hx⟩ : ∃ x, bs (labOf r) = x := ⟨_, rfl⟩
  have hxz : x.size = (labOf r).length := by rw [← hx, bs_size]
  rw [hx] at HC
  have HX := Lib.hid hx
  have HA1 := Lib.hid ha1
  have HRR := Lib.hid hrr
  have hpz : p + x.size ≤ s.size := by omega
  have HXZ := Lib.hid hxz
  have HP := Lib.hid hp
  clear h hc hp ha hn ha1 hrr hlen hS hx hll
  go_enter Try.func57, Try.ntmps57
  go_wp2_with fail
  refine HC.out.mono ?_
  rintro e w1 ⟨y, ok, nd, rfl, rfl⟩
  have H1 := Lib.hid (H0.out.under (show Below w.heap.size w (w.drewN nd) from below_drewN (Below.refl _ _) nd))
  have y1 := H1.out.1.box.c1
  clear x0 x1
  obtain ⟨W2, hW2⟩ : ∃ W2, w.drewN nd = W2 := ⟨_, rfl⟩
  rw [hW2] at H1 y1 ⊢
  have HP2 : Hid (Boxed W2 (H + 2) 3 (.int .i64 p)) := Lib.hid (by rw [← hW2]; exact HP.out)
  clear hW2
  have hba := (Below.refl W2.heap.size W2).alloc (Nat.le_refl _) (.cells #[.string x] 9)
  have H3 := Lib.hid (H1.out.under hba)
  have HSL := Lib.hid (sl_one W2 (.string x) 9)
  have HOC : Hid (∀ u ∈ [Value.string x], u.oneCell' = true) := Lib.hid (one_str _)
  have HP3 : Hid (Boxed (W2.alloc (.cells #[.string x] 9)) (H + 2) 3 (.int .i64 p)) := Lib.hid (Boxed.alloc HP2.out _)
  clear hba
  go_upto_region 4 with (at_builtin; refine wpList_append_sl _ rfl (.tmp 21) (.tmp 23) 24 rfl B 9 i0 _ 16 Try.underlying24 hi hz0 hz1 hz2 rfl (.slice L ls.length lc) ls.length (ls.map Value.string) rfl H3.out.1.r1 (some ⟨W2.heap.size, 0, none⟩) 1 1 [.string x] rfl rfl HSL.out HOC.out (by unfold maxLen; omega) (by omega) H3.out.low ?_; intro v5 w5 hown5 hg5 hor5; obtain ⟨L5, lc5, rfl⟩ := own_shape hown5; have bx5 := H3.out.1.box.grown hg5 H3.out.1.apL; have g5 := bx5.c1; have f5 := bx5.free 1; have HM5 := Lib.hid (H3.out.label (by omega) hown5 hg5 hor5); have bp5 := Boxed.grown HP3.out hg5 (fun e => by have h1 := H3.out.1.rowL _ e.symm; have h2 := H3.out.2.2.2; omega); have p5 := bp5.cell; have pf5 := Boxed.free bp5; clear hown5 hg5 hor5 bx5 bp5)
  obtain ⟨L6, A6, lc6, d6, xs6, fs6, hm6⟩ := HM5.out
  have hm7 := hm6.setPos HA1.out (u := .int .i64 ((p : Int) + ((labOf r).length : Int))) (by go_num)
  clear p5 pf5 g5 f5
  generalize hU : ((w5.setCell ⟨g, 1, none⟩ (.slice L5 (ls.length + 1) lc5)).setCell ⟨H + 2, 0, none⟩ (.int .i64 ((p : Int) + ((labOf r).length : Int)))) = U at hm7 ⊢
  have HRD := Lib.hid (read_any H s n r1 58 58 rfl U hm7.2.1 hs)
  have z5 : U.cell? ⟨H + 5, 0, none⟩ = some (.func (.func 55) #[] #[.pointer (some ⟨H + 2, 0, none⟩), .pointer (some ⟨H, 0, none⟩)]) := hm7.2.1.1.cr.cell
  have HM7 := Lib.hid hm7
  unfold ReadC at HRD
  clear hm6 hm7 hU HM5
  rcases HRR.out with ⟨q, hq1, hq2⟩ | ⟨hq1, hq2⟩
  · rw [hq2] at HRD
    simp only [Option.isSome_some, Option.getD_some] at HRD
    have HF : Hid (∀ w8, St H s n q w8 → Fr (H + 2) (H + 3) U.heap.size U w8 → LabP H s B g κ w0 ls ts n r (.returned (.bool true)) w8) := Lib.hid (fun w8 hs8 hf8 => ⟨true, q, L6, A6, lc6, d6, xs6, fs6, rfl, by rw [HX.out]; exact HM7.out.call hs8 hf8, .inl ⟨rfl, hq1⟩⟩)
    clear hq1 hq2
    go_wp2_with fail
    refine HRD.out.mono ?_
    rintro e w8 ⟨rfl, hs8, hf8⟩
    have HG := Lib.hid (HF.out w8 hs8 hf8)
    clear hs8 hf8
    go_wp2_with fail
    go_ret
    exact HG.out
  · rw [hq2] at HRD
    simp only [Option.isSome_none, Option.getD_none] at HRD
    have HF : Hid (∀ w8, St H s n r1 w8 → Fr (H + 2) (H + 3) U.heap.size U w8 → LabP H s B g κ w0 ls ts n r (.returned (.bool false)) w8) := Lib.hid (fun w8 hs8 hf8 => ⟨false, r1, L6, A6, lc6, d6, xs6, fs6, rfl, by rw [HX.out]; exact HM7.out.call hs8 hf8, .inr ⟨rfl, hq1⟩⟩)
    clear hq1 hq2
    go_wp2_with fail
    refine HRD.out.mono ?_
    rintro e w8 ⟨rfl, hs8, hf8⟩
    have HG := Lib.hid (HF.out w8 hs8 hf8)
    clear hs8 hf8
    go_wp2_with fail
    go_ret
    exact HG.out
end Go.Proofs.Ytffaggiblglcbaa

/-
  A type in the making: one part more, told by what its blocks hold afterwards.
-/
namespace Go.Proofs.Ytffaggiblglcbaa
open Go.RowKit

section
variable {B g : Nat} {κ : Int} {ls : List ByteArray} {ts : List Ty} {L A : Option Addr} {lc d : Nat} {xs : List Value} {fs : Nat → List Nat} {w U : World}
theorem Tin.built (h : Tin B g κ ls ts L A lc d xs fs w) {a : Nat} (ha2 : a = g ∨ a ∈ blk A) (hU : Fr g a w.heap.size w U) {t : Ty} {fp : List Nat} {r0 r1 r2 : Value} (hot : OTy w t [r0, r1, r2] fp) (hfp : ∀ x ∈ fp, B ≤ x ∧ x < w.heap.size)
    (hap : ∀ x ∈ fp, x ≠ g ∧ x ∉ blk L ++ blk A ++ (List.range ts.length).flatMap fs) {A' : Option Addr} {d' : Nat} (hbx : Box3 U g 27 (.int .i64 κ) (.slice L ls.length lc) (.slice A' (ts.length + 1) d'))
    (hrow : U.ownsRow B 27 3 (.slice A' (ts.length + 1) d') (ts.length + 1) (xs ++ [r0, r1, r2])) (hor : ∀ b ∈ blk A', b ∈ blk A ∨ w.heap.size ≤ b) :
    Tin B g κ ls (ts ++ [t]) L A' lc d' (xs ++ [r0, r1, r2]) (fun j => if j = ts.length then fp else fs j) U := by
  obtain ⟨nL, nA, nF, dLA, dLF, dAF⟩ := nodup3.1 h.nd
  have hxl : xs.length = ts.length * 3 := h.r2.1
  have bdL : ∀ g ∈ blk L, B ≤ g ∧ g < w.heap.size := fun g hm => h.bd g (by simp [hm])
  have bdF : ∀ g ∈ (List.range ts.length).flatMap fs, B ≤ g ∧ g < w.heap.size := fun g hm => h.bd g (List.mem_append.2 (.inr hm))
  have apL : ∀ x ∈ fp, x ∉ blk L := fun x hx hm => (hap x hx).2 (by simp [hm])
  have apA : ∀ x ∈ fp, x ∉ blk A := fun x hx hm => (hap x hx).2 (by simp [hm])
  have apF : ∀ x ∈ fp, x ∉ (List.range ts.length).flatMap fs := fun x hx hm => (hap x hx).2 (List.mem_append.2 (.inr hm))
  have gL : g ∉ blk L := fun hm => h.gn (by simp [hm])
  have gA : g ∉ blk A := fun hm => h.gn (by simp [hm])
  have gF : g ∉ (List.range ts.length).flatMap fs := fun hm => h.gn (List.mem_append.2 (.inr hm))
  have hgA' : g ∉ blk A' := fun hm => by
    rcases hor g hm with h1 | h1
    · exact gA h1
    · have := h.gb; omega
  have hs := hU.size
  have nea : ∀ x, x ∉ blk A → x ≠ g → x ≠ a := fun x h1 h2 e => by
    rcases ha2 with h3 | h3
    · omega
    · exact h1 (e ▸ h3)
  have hlen : (ts ++ [t]).length = ts.length + 1 := by simp
  exact {
    box := by rw [hlen]; exact hbx
    r1 := own_fr h.r1 hU (fun b hb => ⟨(bdL b hb).2, fun e => gL (e ▸ hb), nea b (fun hm => dLA b hb hm) (fun e => gL (e ▸ hb))⟩)
    r2 := by rw [hlen]; exact hrow
    kid := fun j s hj => by
      show OTy _ _ _ (if j = ts.length then fp else fs j)
      by_cases e : j = ts.length
      · subst e
        rw [List.getElem?_append_right (by omega), Nat.sub_self] at hj
        simp at hj
        subst hj
        rw [if_pos rfl, part3_end hxl]
        exact hot.fr hU (fun b hm => ⟨(hfp b hm).2, (hap b hm).1, nea b (apA b hm) (hap b hm).1⟩)
      · have hjl := (List.getElem?_eq_some_iff.1 hj).1
        rw [hlen] at hjl
        have hj' : j < ts.length := by omega
        rw [List.getElem?_append_left (by omega)] at hj
        rw [if_neg e, part3_app hxl hj']
        have hjm : ∀ b ∈ fs j, b ∈ (List.range ts.length).flatMap fs := fun b hb => List.mem_flatMap.2 ⟨j, List.mem_range.2 hj', hb⟩
        exact (h.kid j s hj).fr hU (fun b hm => ⟨(bdF b (hjm b hm)).2, fun e => gF (e ▸ hjm b hm), nea b (fun hA => dAF b hA (hjm b hm)) (fun e => gF (e ▸ hjm b hm))⟩)
    nd := by
      rw [hlen, flat_more]
      refine nodup3.2 ⟨nL, blk_nodup _, List.nodup_append.2 ⟨nF, hot.nodup, fun x hx y hy e => apF y hy (e ▸ hx)⟩, fun b hm hm2 => ?_, fun b hm hm2 => ?_, fun b hm hm2 => ?_⟩
      · rcases hor b hm2 with h1 | h1
        · exact dLA b hm h1
        · have := bdL b hm; omega
      · rcases List.mem_append.1 hm2 with h1 | h1
        · exact dLF b hm h1
        · exact apL b h1 hm
      · rcases hor b hm with h1 | h1
        · rcases List.mem_append.1 hm2 with h2 | h2
          · exact dAF b h1 h2
          · exact apA b h2 h1
        · rcases List.mem_append.1 hm2 with h2 | h2
          · have := bdF b h2; omega
          · have := hfp b h2; omega
    gn := fun hm => by
      rw [hlen, flat_more] at hm
      rcases List.mem_append.1 hm with hm | hm
      · rcases List.mem_append.1 hm with hm | hm
        · exact gL hm
        · exact hgA' hm
      · rcases List.mem_append.1 hm with hm | hm
        · exact gF hm
        · exact (hap g hm).1 rfl
    gb := ⟨h.gb.1, by have := h.gb; omega⟩
    bd := fun b hm => by
      rw [hlen, flat_more] at hm
      rcases List.mem_append.1 hm with hm | hm
      · rcases List.mem_append.1 hm with hm | hm
        · have := bdL b hm; omega
        · have := hrow.lt b ((blk_own A' (ts.length + 1) d' b).2 hm); omega
      · rcases List.mem_append.1 hm with hm | hm
        · have := bdF b hm; omega
        · have := hfp b hm; omega
    lz := h.lz
    kz := h.kz }
theorem St.same {H n : Nat} {s : ByteArray} {r : List UInt8} (h : St H s n r w) (hk : ∀ k, k ≤ H + 8 → U.heap[k]? = w.heap[k]?) : St H s n r U := by
  obtain ⟨h1, ⟨p, h2, h3⟩, h4⟩ := h
  exact ⟨⟨(hk _ (by omega)).trans h1.cs, (hk _ (by omega)).trans h1.ct, (hk _ (by omega)).trans h1.cr, (hk _ (by omega)).trans h1.ca, (hk _ (by omega)).trans h1.cl, (hk _ (by omega)).trans h1.cf⟩, ⟨p, (hk _ (by omega)).trans h2, h3⟩, (hk _ (by omega)).trans h4⟩
theorem Fr.swap {a b C p q : Nat} (h : Fr a b C w U) (hC : B ≤ C) (ha : B ≤ a) (hb : B ≤ b) : Fr p q B w U := .of_below ((h.mono hC).below ha hb)
end

/-- an element appended as zero and then stored, and the variable told of it, in either order -/
theorem arg_built {H n : Nat} {s : ByteArray} {B g : Nat} {κ : Int} {w0 : World} {ls : List ByteArray} {ts : List Ty} {r : List UInt8} {L A : Option Addr} {lc d : Nat} {xs : List Value} {fs : Nat → List Nat} {w w8 : World} (h : IMid H s B g κ w0 ls ts n r L A lc d xs fs w)
    {t : Ty} {fp : List Nat} {r0 r1 r2 z0 z1 z2 : Value} (hot : OTy w t [r0, r1, r2] fp) (hfp : ∀ x ∈ fp, B ≤ x ∧ x < w.heap.size) (hap : ∀ x ∈ fp, x ≠ g ∧ x ∉ blk L ++ blk A ++ (List.range ts.length).flatMap fs)
    {b8 d8 : Nat} (hown : w8.ownsRow B 27 3 (.slice (some ⟨b8, 0, none⟩) (ts.length + 1) d8) (ts.length + 1) (xs ++ [z0, z1, z2])) (hg : w.grownBy w8 (Value.slice A ts.length d).ownBlock)
    (hor : (Value.slice (some ⟨b8, 0, none⟩) (ts.length + 1) d8).ownBlock = (Value.slice A ts.length d).ownBlock ∨ (Value.slice (some ⟨b8, 0, none⟩) (ts.length + 1) d8).ownBlock = some w.heap.size) :
    (∃ L A lc d xs fs, IMid H s B g κ w0 ls (ts ++ [t]) n r L A lc d xs fs ((store3 w8 b8 ts.length r0 r1 r2).setCell ⟨g, 2, none⟩ (.slice (some ⟨b8, 0, none⟩) (ts.length + 1) d8))) ∧
    (∃ L A lc d xs fs, IMid H s B g κ w0 ls (ts ++ [t]) n r L A lc d xs fs (store3 (w8.setCell ⟨g, 2, none⟩ (.slice (some ⟨b8, 0, none⟩) (ts.length + 1) d8)) b8 ts.length r0 r1 r2)) := by
  obtain ⟨h1, h2, h3, h4⟩ := h
  have hgb := h1.gb
  have hxl : xs.length = ts.length * 3 := h1.r2.1
  obtain ⟨a, ha, ha2⟩ : ∃ a, (∀ b ∈ blk A, b = a) ∧ (a = g ∨ a ∈ blk A) := by
    cases A with
    | none => exact ⟨g, by simp [blk], .inl rfl⟩
    | some ad => exact ⟨ad.block, by simp [blk], .inr (by simp [blk])⟩
  have haB : B ≤ a := by
    rcases ha2 with e | e
    · omega
    · exact (h1.bd a (by simp [e])).1
  have hb8 : b8 ∈ blk A ∨ b8 = w.heap.size := by
    rcases hor with e | e
    · exact .inl ((blk_own A ts.length d b8).1 (by rw [← e]; rfl))
    · injection e with e
      exact .inr e
  have hgb8 : g ≠ b8 := by
    intro e
    rcases hb8 with e2 | e2
    · exact h1.gn (by simp [e, e2])
    · omega
  have hs8 := hg.size
  have hbx8 : Box3 w8 g 27 (.int .i64 κ) (.slice L ls.length lc) (.slice A ts.length d) := h1.box.grown hg h1.apA
  have hput : put3 (xs ++ [z0, z1, z2]) ts.length r0 r1 r2 = xs ++ [r0, r1, r2] := by
    unfold put3
    rw [← hxl]
    simp
  have hf8 : Fr g a w.heap.size w w8 := ⟨hg.os, hg.tape, hg.output, hg.size, fun k h1 h2 h3 => hg.block k h1 (fun e => h3 (ha k ((blk_own A ts.length d k).1 e.symm)))⟩
  have hlow8 : b8 = a ∨ w.heap.size ≤ b8 := by
    rcases hb8 with e | e
    · exact .inl (ha b8 e)
    · exact .inr (by omega)
  have fin : ∀ U : World, Fr g a w.heap.size w U → Box3 U g 27 (.int .i64 κ) (.slice L ls.length lc) (.slice (some ⟨b8, 0, none⟩) (ts.length + 1) d8) → U.ownsRow B 27 3 (.slice (some ⟨b8, 0, none⟩) (ts.length + 1) d8) (ts.length + 1) (xs ++ [r0, r1, r2]) →
      ∃ L A lc d xs fs, IMid H s B g κ w0 ls (ts ++ [t]) n r L A lc d xs fs U := fun U hU hbx hrow =>
    ⟨_, _, _, _, _, _, h1.built ha2 hU hot hfp hap hbx hrow (fun b hb => by
      simp [blk] at hb
      subst hb
      rcases hb8 with e | e
      · exact .inl e
      · exact .inr (by omega)), h2.same (fun k hk => hU.block k (by omega) (by omega) (by omega)), h3.trans (hU.swap (by omega) hgb.1 haB), h4⟩
  constructor
  · have hst := own_store3 hown ts.length r0 r1 r2
    rw [hput] at hst
    have hf9 : Fr g a w.heap.size w (store3 w8 b8 ts.length r0 r1 r2) := hf8.trans ⟨hst.2.os, hst.2.tape, hst.2.output, hst.2.size, fun k h1 h2 h3 => hst.2.block k (by omega) (fun e => by injection e with e; omega)⟩
    have hbx9 : Box3 (store3 w8 b8 ts.length r0 r1 r2) g 27 (.int .i64 κ) (.slice L ls.length lc) (.slice A ts.length d) := hbx8.grown hst.2 (fun e => by injection e with e; exact hgb8 e)
    have hgg : (store3 w8 b8 ts.length r0 r1 r2).grownBy ((store3 w8 b8 ts.length r0 r1 r2).setCell ⟨g, 2, none⟩ (.slice (some ⟨b8, 0, none⟩) (ts.length + 1) d8)) (some g) := grown_set (World.grownBy.refl _ _) _
    exact fin _ (hf9.setP 2 _) (hbx9.set2 _) (own_keep hst.1 hgg (fun b hb e => by simp [blk] at hb; injection e with e; omega))
  · have hgg : w8.grownBy (w8.setCell ⟨g, 2, none⟩ (.slice (some ⟨b8, 0, none⟩) (ts.length + 1) d8)) (some g) := grown_set (World.grownBy.refl _ _) _
    have hown9 := own_keep hown hgg (fun b hb e => by simp [blk] at hb; injection e with e; omega)
    have hst := own_store3 hown9 ts.length r0 r1 r2
    rw [hput] at hst
    have hsg := hgg.size
    have hf9 := hf8.setP 2 (.slice (some ⟨b8, 0, none⟩) (ts.length + 1) d8)
    exact fin _ (hf9.trans ⟨hst.2.os, hst.2.tape, hst.2.output, hst.2.size, fun k h1 h2 h3 => hst.2.block k (by omega) (fun e => by injection e with e; omega)⟩) ((hbx8.set2 _).grown hst.2 (fun e => by injection e with e; exact hgb8 e)) hst.1
end Go.Proofs.Ytffaggiblglcbaa
