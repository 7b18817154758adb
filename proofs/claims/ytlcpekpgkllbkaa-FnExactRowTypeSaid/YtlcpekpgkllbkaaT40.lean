/-
  Merged by program: CopVT.
-/
import Derived.Test.YtlcpekpgkllbkaaT39
import Derived.Test.YtlcpekpgkllbkaaT2

/-
  The program's copyType.
-/
namespace Go.Proofs.Ytlcpekpgkllbkaa
open Go.RowKit Go.Shelf

attribute [local go_sem] Oper.semAt_some

theorem own_someT {w : World} {base size n : Nat} {e : TypeId} {A : Option Addr} {c : Nat} {xs : List Value} (h : w.ownsRow base e size (.slice A n c) n xs) (hn : 0 < n) : ∃ g, A = some ⟨g, 0, none⟩ := by
  rcases h.2 with ⟨_, h2⟩ | ⟨g, cap, cur, h1, _⟩
  · omega
  · injection h1 with h1 _ _
    exact ⟨g, h1⟩
theorem kept_noneT {w w' : World} {base size n : Nat} {e : TypeId} {A : Option Addr} {c : Nat} {xs : List Value} (h : w.ownsRow base e size (.slice A n c) n xs) (hg : w.grownBy w' none) : w'.ownsRow base e size (.slice A n c) n xs :=
  own_keep h hg fun b _ => by simp
theorem below_allocT (w : World) (o : Obj) : Below w.heap.size w (w.alloc o) := (Below.refl _ _).alloc (Nat.le_refl _) o
theorem held_noneT {w w' : World} {K : Nat → Prop} (hg : w.grownBy w' none) : Held K w w' := Held.grown hg fun g h => by cases h

/-- the two stores of a round -/
theorem cop_finT {w W wr w1 w2 : World} {ts : List Ty} {g d k nl nk : Nat} {xs ys news : List Value} {cells : Array Value} {v1 v2 : Value} {labs : List Value}
    (HM : ∀ (v1 v2 : Value) (w' : World), w'.ownsRow 0 36 3 (.slice (some ⟨g, 0, none⟩) ts.length d) ts.length (put3bT ys k v1 v2) → w'.ownsRow 0 9 1 v1 nl labs → w'.ownsRow 0 36 3 v2 nk news → (nk = 0 → v2 = .slice none 0 0) → Held (fun i => i ≠ g) wr w' →
      (∀ b, v1.ownBlock = some b → wr.heap.size ≤ b) → (∀ b, v2.ownBlock = some b → wr.heap.size ≤ b) → (∀ b, v1.ownBlock = some b → v2.ownBlock = some b → False) → CopRelT w W ts g d xs (k + 1) w')
    (ho1 : w1.ownsRow 0 9 1 v1 nl labs) (hg1 : (wr.alloc (.cells cells 36)).grownBy w1 none) (hb1 : ∀ b, v1.ownBlock = some b → b = (wr.alloc (.cells cells 36)).heap.size)
    (ho2 : w2.ownsRow 0 36 3 v2 nk news) (hg2 : (w1.setCell ⟨g, k * 3 + 1, none⟩ v1).grownBy w2 none) (hn2 : nk = 0 → v2 = .slice none 0 0) (hb2 : ∀ b, v2.ownBlock = some b → b = (w1.setCell ⟨g, k * 3 + 1, none⟩ v1).heap.size)
    (hr2 : w2.ownsRow 0 36 3 (.slice (some ⟨g, 0, none⟩) ts.length d) ts.length (ys.set (k * 3 + 1) v1)) (hgw : g < wr.heap.size) : CopRelT w W ts g d xs (k + 1) (w2.setCell ⟨g, k * 3 + 2, none⟩ v2) := by
  obtain ⟨L1, c1, rfl⟩ := own_is ho1
  obtain ⟨A2, c2, rfl⟩ := own_is ho2
  have h0 : Held (fun i => i ≠ g) wr (wr.alloc (.cells cells 36)) := Held.of_below (below_allocT wr _) fun i hi _ => hi
  have h1 : Held (fun i => i ≠ g) (wr.alloc (.cells cells 36)) w1 := held_noneT hg1
  have h2 : Held (fun i => i ≠ g) w1 (w1.setCell ⟨g, k * 3 + 1, none⟩ (.slice L1 nl c1)) := Held.set w1 (fun h => h rfl) _
  have h3 : Held (fun i => i ≠ g) (w1.setCell ⟨g, k * 3 + 1, none⟩ (.slice L1 nl c1)) w2 := held_noneT hg2
  have h4 : Held (fun i => i ≠ g) w2 (w2.setCell ⟨g, k * 3 + 2, none⟩ (.slice A2 nk c2)) := Held.set w2 (fun h => h rfl) _
  have s0 := h0.size
  have s1 := h1.size
  have s2 := h2.size
  have e1 : ∀ b, (Value.slice L1 nl c1).ownBlock = some b → wr.heap.size ≤ b ∧ b < w1.heap.size := fun b hb => ⟨by have := hb1 b hb; omega, (ho1.lt b hb).2⟩
  have e2 : ∀ b, (Value.slice A2 nk c2).ownBlock = some b → w1.heap.size ≤ b := fun b hb => by have := hb2 b hb; omega
  refine HM _ _ _ (hr2.stored (k * 3 + 2) _).1 (own_heldt ho1 (h2.trans (h3.trans h4)) fun b hb => ?_) (own_heldt ho2 h4 fun b hb => ?_) hn2 (h0.trans (h1.trans (h2.trans (h3.trans h4)))) (fun b hb => (e1 b hb).1) (fun b hb => by have := e2 b hb; omega) (fun b hb hb' => ?_)
  · show b ≠ g
    have := e1 b ((blk_own _ _ _ _).2 hb); omega
  · show b ≠ g
    have := e2 b ((blk_own _ _ _ _).2 hb); omega
  · have := e1 b hb; have := e2 b hb'; omega

set_option maxRecDepth 100000 in
set_option maxHeartbeats 4000000 in
theorem implCopyT_any (t : Ty) (w : World) (cs : List Value) (h : RTy w t cs) (hw : wt t ≤ 1048576) : Calls Try.prog 49 #[.agg cs.toArray] w (MadeT t w) := by
  obtain ⟨i0, hi0, hz0, hz1, hz2⟩ := info_parts infoTy
  obtain ⟨i1, hi1, hy0, hy1, hy2⟩ := info_parts infoStr
  have hs := size_wt t
  have hoc : ∀ u ∈ cs, u.oneCell' = true := by
    obtain ⟨L, c, A, d, rfl, _⟩ := RTy.openT h
    intro u hu
    simp only [List.mem_cons, List.not_mem_nil, or_false] at hu
    rcases hu with rfl | rfl | rfl <;> rfl
  obtain ⟨c0, c1, c2, rfl⟩ := RTy.three h
  obtain ⟨H, hH⟩ : ∃ H, w.heap.size = H := ⟨_, rfl⟩
  obtain ⟨W0, hW0⟩ : ∃ W0, (((w.alloc (.cells #[c0, c1, c2] 36)).alloc (.cells #[.int .i64 0, .slice none 0 0, .slice none 0 0] 36)).alloc (.cells #[c0, c1, c2] 36)) = W0 := ⟨_, rfl⟩
  obtain ⟨W2, hW2⟩ : ∃ W2, (W0.alloc (.cells #[.slice (some ⟨H + 2, 0, none⟩) 1 1] 34)).alloc (.cells #[.func (.func 84) #[] #[]] 114) = W2 := ⟨_, rfl⟩
  have hz0' : W0.heap.size = H + 3 := by rw [← hW0, ← hH]; simp
  have hz2' : W2.heap.size = H + 5 := by rw [← hW2]; simp; omega
  have hb0 : Below w.heap.size w W0 := by rw [← hW0]; exact (((Below.refl _ _).alloc (Nat.le_refl _) _).alloc (by simp) _).alloc (by simp; omega) _
  have hb2 : Below w.heap.size w W2 := by rw [← hW2]; exact (hb0.alloc hb0.size _).alloc (by have := hb0.size; simp; omega) _
  have hbx : Boxed W2 (H + 3) 34 (.slice (some ⟨H + 2, 0, none⟩) 1 1) := by rw [← hW2, ← hz0']; exact (Boxed.new W0 _ _).alloc _
  have hbf : Boxed W2 (H + 4) 114 (.func (.func 84) #[] #[]) := by
    rw [← hW2, show H + 4 = W0.heap.size + 1 by omega]
    have := Boxed.new (W0.alloc (.cells #[.slice (some ⟨H + 2, 0, none⟩) 1 1] 34)) 114 (.func (.func 84) #[] #[])
    rw [World.size_alloc] at this
    exact this
  have hrow : W2.ownsRow 0 36 3 (.slice (some ⟨H + 2, 0, none⟩) 1 1) 1 [c0, c1, c2] := by
    rw [← hW2]
    have h1 := World.ownsRow_lit (base := 0) (e := 36) (size := 3) ((w.alloc (.cells #[c0, c1, c2] 36)).alloc (.cells #[.int .i64 0, .slice none 0 0, .slice none 0 0] 36)) #[c0, c1, c2] 1 (Nat.zero_le _) (by unfold maxLen; omega) rfl
    have h2 := (h1.alloc (.cells #[.slice (some ⟨H + 2, 0, none⟩) 1 1] 34)).alloc (.cells #[.func (.func 84) #[] #[]] 114)
    rw [hW0] at h2
    have e : ((w.alloc (.cells #[c0, c1, c2] 36)).alloc (.cells #[.int .i64 0, .slice none 0 0, .slice none 0 0] 36)).heap.size = H + 2 := by rw [← hH]; simp
    rw [e] at h2
    exact h2
  have hres : Box3 W2 (H + 1) 36 (.int .i64 0) (.slice none 0 0) (.slice none 0 0) := by
    rw [← hW2, ← hW0, ← hH]
    have := ((Box3.new (w.alloc (.cells #[c0, c1, c2] 36)) 36 (.int .i64 0) (.slice none 0 0) (.slice none 0 0)).alloc (.cells #[c0, c1, c2] 36)).alloc (.cells #[.slice (some ⟨w.heap.size + 2, 0, none⟩) 1 1] 34)
    simpa using this.alloc (.cells #[.func (.func 84) #[] #[]] 114)
  have hI0 : CopyIT w [t] (.slice (some ⟨H + 2, 0, none⟩) 1 1) [([t], .slice (some ⟨H + 2, 0, none⟩) 1 1)] (fun b => b = H + 2) W2 := by
    refine ⟨hb2, fun b hb => by subst hb; omega, fun p hp => ?_, fun p hp => ?_, by simp [rowsST, rowBkT, blk], fun b hb => by simpa [rowsST, rowBkT, blk] using hb, ?_⟩
    · rw [List.mem_singleton] at hp
      subst hp
      refine ⟨_, _, [c0, c1, c2], rfl, by simp, hrow, fun j u hj => ?_⟩
      match j, hj with
      | 0, hj => simp at hj; subst hj; exact ⟨h, hw⟩
      | j + 1, hj => simp at hj
    · rw [List.mem_singleton] at hp
      subst hp
      exact .inl (by simp)
    · intro W' Φ _ hA hnd hin
      match Φ, hA with
      | [fp], hA => exact ⟨fp, hA.1, fun b hb => .inr (by simpa using hb)⟩
  have hL := listsT_any W0 (some ⟨H + 2, 0, none⟩) 1 1
  rw [hz0'] at hL
  have HL := Lib.hid hL
  have HW0 := Lib.hid hW0
  have HW2 := Lib.hid hW2
  have HB2 := Lib.hid hb2
  have HI0 := Lib.hid hI0
  have HH := Lib.hid hH
  have HZ2 := Lib.hid hz2'
  have HT := Lib.hid h
  have HS := Lib.hid hs
  have HWT := Lib.hid hw
  have HBX := Lib.hid hbx
  have HBF := Lib.hid hbf
  have HRES := Lib.hid hres
  clear hL hW0 hW2 hb0 hb2 hI0 hH hz0' hz2' h hs hw hbx hbf hrow hres hoc
  refine (callsIn_wide (n := 9)).1 ?_
  refine callsIn_of_wp_marks Try.func49 rfl trivial ?_ rfl
  simp only [Try.ntmps49, List.size_toArray, List.length_cons, List.length_nil, Nat.reduceAdd, Nat.reduceSub, Array.replicate_succ, Array.replicate_zero, List.push_toArray, List.append_toArray, List.nil_append, List.cons_append]
  have hHz := HH.out
  gi_wp2_with (refine ⟨trivial, ?_⟩; gi_at_call 83; rw [HW0.out]; refine (callsIn_wide.2 HL.out).mono ?_; rintro e W3 ⟨rfl, rfl⟩; rw [HW2.out])
  have hDz := HZ2.out
  refine wpIn_givesT (n := 9) (w := W2) rfl (by decide) (gf := 110) (lb := #[.pointer (some ⟨H + 3, 0, none⟩), .pointer (some ⟨H + 4, 0, none⟩)]) rfl trivial (enters_of Try.func110 (by kernel_rfl) rfl)
    (S0 := [([t], .slice (some ⟨H + 2, 0, none⟩) 1 1)]) (lo := H + 5) (Keep := fun q => q = H + 4) (by omega) (fun b hb => by omega) (fun W hW hz => ?gives)
    (fun S F W => CopyIT w [t] (.slice (some ⟨H + 2, 0, none⟩) 1 1) S F W ∧ (∀ b, F b → b = H + 2 ∨ H + 7 ≤ b) ∧ Box3 W (H + 1) 36 (.int .i64 0) (.slice none 0 0) (.slice none 0 0)) (fun _ => False) (fun S F A C hi hh => ⟨hi.1.keep (by omega) hh, hi.2.1, (hh.block (H + 1) hi.2.2.lt (.inl (by omega))).trans hi.2.2⟩) (fun S F A hi b hb => ⟨fun hk => by have := hi.2.1 b hb; omega, (hi.1.fr b hb).2⟩) (fun _ _ hf _ => hf) (fun b => b = H + 2) ⟨HI0.out, fun b hb => .inl hb, HRES.out⟩
    (fun v => { tmps := #[.agg #[c0, c1, c2], .pointer (some ⟨H, 0, none⟩), .pointer (some ⟨H + 1, 0, none⟩), .slice (some ⟨H + 2, 0, none⟩) 1 1, v, undef, undef, .agg #[c0, c1, c2], .slice (some ⟨H + 2, 0, none⟩) 1 1, .slice (some ⟨H + 2, 0, none⟩) 1 1, .func (.func 110) #[] #[.pointer (some ⟨H + 3, 0, none⟩), .pointer (some ⟨H + 4, 0, none⟩)], v, undef, undef, undef, undef, undef, undef, undef, undef, undef, undef, undef, undef, undef, undef, undef, undef, undef, undef, undef, undef, undef, undef, undef, undef, undef], defers := [] }) ?assign ?body ?done ?stop
  case gives =>
    refine lists1T_gives [t] _ 1 (H + 5) (9 - 1) (H + 3) (by decide) W (by have := hW.size; omega) (fun q => q = H + 4) rfl ((hW.block _ (by omega)).trans HBX.out) ((hW.block _ (by omega)).trans HBF.out) ?_
    have hss := HS.out
    have hww := HWT.out
    rw [wS_consT]
    show 2 * sizesT [t] + 1 + wST [] ≤ _
    rw [show sizesT [t] = t.size by simp [sizesT]]
    simp [wST]
    omega
  case assign =>
    intro l v W K hK
    gi_wp2
    exact hK
  case body =>
    rintro l ts s S F W ⟨hI, hF2, hres⟩ hDW _ _
    rw [hDz] at hDW
    obtain ⟨A, d, xs, hse, hts, hrow, hkid⟩ := hI.lst _ (List.mem_cons_self ..)
    have hne := hI.ne _ (List.mem_cons_self ..)
    simp only at hse hts hrow hkid hne
    rcases hne with hne | hne
    rotate_left
    · injection hne with e1 e2
      subst e1 e2
      have HE : Hid (givesPostT (H + 5) (fun S F W => CopyIT w [t] (.slice (some ⟨H + 2, 0, none⟩) 1 1) S F W ∧ (∀ b, F b → b = H + 2 ∨ H + 7 ≤ b) ∧ Box3 W (H + 1) 36 (.int .i64 0) (.slice none 0 0) (.slice none 0 0)) (fun _ => False) [] (.slice none 0 0) S F W .normal { tmps := #[], defers := [] } W) := Lib.hid ⟨Held.refl _ _, fun _ => .slice none 0 0, F, fun b hb => .inl hb, ⟨none, 0, rfl, by simp, fun j t hj => by simp at hj⟩, copy_noneT hI, hF2, hres⟩
      clear hI hF2 hse hts hrow hkid hres
      gi_wp2
      gi_loopw [14] (fun i wr => i = .int .i64 0 ∧ wr = W) (fun _ _ => 0)
      case atStart => exact ⟨rfl, rfl⟩
      case round =>
        obtain ⟨rfl, rfl⟩ := hrel
        gi_wp2
        exact HE.out
    subst hse
    obtain ⟨g, rfl⟩ := own_someT hrow hne
    have hgF : F g := hI.own g (by rw [rowsS_consT]; exact List.mem_append.2 (.inl (by simp [rowBkT, blk])))
    have hgW : g < W.heap.size := (hI.fr g hgF).2
    have hgw : w.heap.size ≤ g := (hI.fr g hgF).1
    have hg2 := hF2 g hgF
    have HREL0 : Hid (CopRelT w W ts g d xs 0 W) := ⟨xs, fun _ => none, fun _ => 0, fun _ => .slice none 0 0, hrow, fun j t hj => absurd hj (by omega), fun _ _ => rfl, by simp, by simp, Held.refl _ _⟩
    have HEND : Hid (∀ W2, CopRelT w W ts g d xs ts.length W2 → givesPostT (H + 5) (fun S F W => CopyIT w [t] (.slice (some ⟨H + 2, 0, none⟩) 1 1) S F W ∧ (∀ b, F b → b = H + 2 ∨ H + 7 ≤ b) ∧ Box3 W (H + 1) 36 (.int .i64 0) (.slice none 0 0) (.slice none 0 0)) (fun _ => False) ts (.slice (some ⟨g, 0, none⟩) ts.length d) S F W .normal { tmps := #[], defers := [] } W2) := by
      rintro W2 ⟨ys, Ls, cs, As, h1, h2, h3, h4, h5, h6⟩
      obtain ⟨k1, F', k2, k3, k4⟩ := copy_nextT (lo := H + 5) hI hts h1 (fun j t hj => h2 j t (List.getElem?_eq_some_iff.1 hj).1 hj) h4 h5 h6
      exact ⟨k1, As, F', k2, k3, k4, fun b hb => (k2 b hb).elim (hF2 b) (fun h => by omega), (h6.block (H + 1) hres.lt (by show H + 1 ≠ g; omega)).trans hres⟩
    have HKID := Lib.hid hkid
    have HBW := Lib.hid hI.bel
    clear hI hF2 hrow hkid hres
    gi_wp2
    gi_loopw [14] (fun i wr => ∃ k : Nat, k ≤ ts.length ∧ i = .int .i64 (k : Int) ∧ CopRelT w W ts g d xs k wr) (fun i _ => ts.length - (intOf i).toNat)
    case atStart => exact ⟨0, Nat.zero_le _, rfl, HREL0.out⟩
    case round =>
      obtain ⟨k, hk, rfl, hrel⟩ := hrel
      by_cases hlt : k < ts.length
      · obtain ⟨ys, Ls, ccs, As, h1, h2, h3, h4, h5, h6⟩ := hrel
        obtain ⟨hr, hwk⟩ := HKID.out k _ (List.getElem?_eq_getElem hlt)
        obtain ⟨L, lc, A, kd, hpe, hlab, hok, _, hkr⟩ := RTy.openT hr
        obtain ⟨news, hnl, hnsl, hn1, hnr⟩ := rkids_cells hkr
        have hyl : ys.length = ts.length * 3 := h1.1
        have hget : ∀ i, i < 3 → ys[k * 3 + i]? = (part3 xs k)[i]? := fun i hi => by rw [← part3_get _ _ _ hi, h3 k (Nat.le_refl _)]
        rw [hpe] at hget
        have e0 : wr.cell? ⟨g, k * 3, none⟩ = some (.int .i64 ts[k].top.kind) := by rw [h1.cellAt _ (by omega)]; exact hget 0 (by omega)
        have e1 : wr.cell? ⟨g, k * 3 + 1, none⟩ = some (.slice L ts[k].top.labels.length lc) := by rw [h1.cellAt _ (by omega)]; exact hget 1 (by omega)
        have e2 : wr.cell? ⟨g, k * 3 + 2, none⟩ = some (.slice A ts[k].kids.length kd) := by rw [h1.cellAt _ (by omega)]; exact hget 2 (by omega)
        have hbw : Below w.heap.size w wr := HBW.out.trans (h6.below HBW.out.size fun i hi => by show i ≠ g; omega)
        have hlw := wv_labelsT ts[k]
        have hkw := wv_kidsT ts[k]
        have hkv : ∀ j u, ts[k].kids[j]? = some u → RTy w u (part3 news j) ∧ wt u ≤ 1048576 := fun j u hj => ⟨hnr j u hj, Nat.le_trans (wv_kidT (List.mem_of_getElem? hj)) hwk⟩
        have hgwr : g < wr.heap.size := Nat.lt_of_lt_of_le hgW h6.size
        obtain ⟨Hn, hHn⟩ : ∃ Hn, wr.heap.size = Hn := ⟨_, rfl⟩
        have hnb := Box3.new wr 36 (.int .i64 ts[k].top.kind) (.slice L ts[k].top.labels.length lc) (.slice A ts[k].kids.length kd)
        rw [hHn] at hnb
        have hown0 := h1.alloc (.cells #[.int .i64 ts[k].top.kind, .slice L ts[k].top.labels.length lc, .slice A ts[k].kids.length kd] 36)
        have hbw0 : Below w.heap.size w (wr.alloc (.cells #[.int .i64 ts[k].top.kind, .slice L ts[k].top.labels.length lc, .slice A ts[k].kids.length kd] 36)) := hbw.alloc hbw.size _
        have HMORE := Lib.hid (fun (v1 v2 : Value) (w' : World) q1 q2 q3 q4 q7 q8 q9 q10 => cop_moreT (W := W) (w' := w') (v1 := v1) (v2 := v2) hgW hlt h1 h2 h3 h4 h5 h6 hpe hok q1 q2 q3 q4 hkv (by omega) q7 q8 q9 q10)
        have HLAB := Lib.hid (fun W' (hB : Below w.heap.size w W') => hlab.below hB)
        have HNSL := Lib.hid (fun W' (hB : Below w.heap.size w W') => hnsl.below hB)
        have HNL := Lib.hid hnl
        have HN1 := Lib.hid hn1
        have HNB := Lib.hid hnb
        have HOW := Lib.hid hown0
        have HBW0 := Lib.hid hbw0
        have HYL := Lib.hid hyl
        have HY2 := Lib.hid (hget 1 (by omega))
        have HY3 := Lib.hid (hget 2 (by omega))
        have HGW := Lib.hid hgwr
        have HHN := Lib.hid hHn
        have hlab1 : (ts[k].top.labels.map Value.string).length = ts[k].top.labels.length * 1 := by simp
        have HLL := Lib.hid hlab1
        clear hr hpe hlab hok hkr hnsl hn1 hnr hget hkv hnb hown0 hbw0 hbw h1 h2 h3 h4 h5 h6 hnl hyl hlab1
        obtain ⟨kk, hkk⟩ : ∃ kk, ts[k].top.kind = kk := ⟨_, rfl⟩
        obtain ⟨nl, hnl⟩ : ∃ nl, ts[k].top.labels.length = nl := ⟨_, rfl⟩
        obtain ⟨nk, hnk⟩ : ∃ nk, ts[k].kids.length = nk := ⟨_, rfl⟩
        simp only [hkk, hnl, hnk] at HMORE HNB HOW HBW0 HNL HLL HY2 HY3 e0 e1 e2 hlw hkw
        clear hkk hnl hnk
        gi_wp2_with (first
          | (gi_at_builtin; refine wpListIn_append_fresh rfl _ _ 34 rfl 36 i0 (.agg #[.int .i64 0, .slice none 0 0, .slice none 0 0]) 3 56 Try.underlying34 hi0 hz0 hz1 hz2 rfl (by decide) rfl A nk kd news rfl HNL.out (HNSL.out _ HB5.out) HN1.out (by unfold maxLen; omega) (by omega) ?_; intro v2 w2 ho2 hg2 hn2 hb2; obtain ⟨A2, lc2, rfl⟩ := own_is ho2; have hr2 := kept_noneT HR5.out hg2; have y3 : w2.cell? ⟨g, k * 3 + 2, none⟩ = some (.slice A nk kd) := (hr2.cellAt _ (by omega)).trans ((List.getElem?_set_ne (by omega)).trans HY3.out); have f3 := hr2.frozenAt (k * 3 + 2); have HFIN : Hid (CopRelT w W ts g d xs (k + 1) (w2.setCell ⟨g, k * 3 + 2, none⟩ (.slice A2 nk lc2))) := cop_finT HMORE.out HO1.out HG1.out HBK1.out ho2 hg2 hn2 hb2 hr2 HGW.out; clear ho2 hg2 hn2 hb2 hr2)
          | (gi_at_builtin; refine wpListIn_append_fresh rfl _ _ 33 rfl 9 i1 (.string ⟨#[]⟩) 1 16 Try.underlying33 hi1 hy0 hy1 hy2 rfl (by decide) rfl L nl lc (ts[k].top.labels.map Value.string) rfl HLL.out (HLAB.out _ HBW0.out) (strs_oneCell _) (by unfold maxLen; omega) (by omega) ?_; intro v1 w1 ho1 hg1 hn1 hb1; obtain ⟨L1, lc1, rfl⟩ := own_is ho1; have hr1 := kept_noneT HOW.out hg1; have y2 : w1.cell? ⟨g, k * 3 + 1, none⟩ = some (.slice L nl lc) := (hr1.cellAt _ (by omega)).trans HY2.out; have f2 := hr1.frozenAt (k * 3 + 1); have hr5 := (hr1.stored (k * 3 + 1) (.slice L1 nl lc1)).1; have hh5 : Held (fun i => i ≠ g) (wr.alloc (.cells #[.int .i64 kk, .slice L nl lc, .slice A nk kd] 36)) (w1.setCell ⟨g, k * 3 + 1, none⟩ (.slice L1 nl lc1)) := (held_noneT hg1).trans (Held.set w1 (fun h => h rfl) (.slice L1 nl lc1)); have x3 : (w1.setCell ⟨g, k * 3 + 1, none⟩ (.slice L1 nl lc1)).cell? ⟨Hn, 2, none⟩ = some (.slice A nk kd) := ((show Box3 w1 Hn _ _ _ _ from (hg1.block Hn HNB.out.lt (by simp)).trans HNB.out).far (by show Hn ≠ g; omega) (.slice L1 nl lc1)).c2; have HR5 := Lib.hid hr5; have HH5 := Lib.hid hh5; have HB5 := Lib.hid (HBW0.out.trans (hh5.below HBW0.out.size fun i hi => by show i ≠ g; omega)); have HO1 := Lib.hid ho1; have HG1 := Lib.hid hg1; have HBK1 := Lib.hid hb1; clear ho1 hg1 hn1 hb1 hr1 hr5 hh5))
        gi_wp2
        go_roundw
        case rel => exact ⟨k + 1, hlt, by go_num, HFIN.out⟩
        case measure => simp [intOf]; omega
      · have he : k = ts.length := by omega
        subst he
        have HE := Lib.hid (HEND.out wr hrel)
        clear hrel
        gi_wp2
        exact HE.out
  case done =>
    rintro F W ⟨hI, hF2, hres⟩ hK
    obtain ⟨fp, hov, hfp⟩ := hI.done
    have hHW := hres.lt
    have hfr : ∀ b ∈ fp, H ≤ b ∧ b < W.heap.size ∧ b ≠ H + 1 ∧ b ≠ W2.heap.size := fun b hb => by
      have h1 := hI.fr b (hfp b hb)
      have h2 := hF2 b (hfp b hb)
      omega
    obtain ⟨A, d, xs, fs, hse, _, hrow, hkid, hperm, _⟩ := hov
    injection hse with q1 q2 q3
    subst q1 q3
    clear q2
    have hov := hkid 0 t rfl
    obtain ⟨L, lc, A, kd, hcs⟩ := hov.three
    have hfs : ∀ b ∈ fs 0, b ∈ fp := fun b hb => hperm.subset (by simp [hb])
    have hget : ∀ i, i < 3 → W.cell? ⟨H + 2, i, none⟩ = (part3 xs 0)[i]? := fun i hi => by rw [part3_get _ _ _ hi, Nat.zero_mul, Nat.zero_add]; exact hrow.cellAt _ (by simp; omega)
    rw [hcs] at hget hov
    have e0 : W.cell? ⟨H + 2, 0, none⟩ = some (.int .i64 t.top.kind) := hget 0 (by omega)
    have e1 : W.cell? ⟨H + 2, 1, none⟩ = some (.slice L t.top.labels.length lc) := hget 1 (by omega)
    have e2 : W.cell? ⟨H + 2, 2, none⟩ = some (.slice A t.kids.length kd) := hget 2 (by omega)
    have r0 := hres.c0
    have r1 := hres.c1
    have r2 := hres.c2
    have s0 := hres.free 0
    have s1 := hres.free 1
    have s2 := hres.free 2
    obtain ⟨U, hU⟩ : ∃ U, ((W.setCell ⟨H + 1, 0, none⟩ (.int .i64 t.top.kind)).setCell ⟨H + 1, 1, none⟩ (.slice L t.top.labels.length lc)).setCell ⟨H + 1, 2, none⟩ (.slice A t.kids.length kd) = U := ⟨_, rfl⟩
    have hUH : Held (fun i => i ≠ H + 1) W U := by
      rw [← hU]
      exact (Held.set W (fun h => h rfl) _).trans ((Held.set _ (fun h => h rfl) _).trans (Held.set _ (fun h => h rfl) _))
    have hUB : Box3 U (H + 1) 36 (.int .i64 t.top.kind) (.slice L t.top.labels.length lc) (.slice A t.kids.length kd) := by
      rw [← hU]
      exact ((hres.set0 _).set1 _).set2 _
    have hKU : U.heap[W2.heap.size]? = some (.deferred (some [])) := (hUH.block _ (by rw [hDz]; have := (Array.getElem?_eq_some_iff.1 hK).1; omega) (by show W2.heap.size ≠ H + 1; omega)).trans hK
    obtain ⟨V, hV⟩ : ∃ V, U.putObj W2.heap.size (.deferred none) = V := ⟨_, rfl⟩
    have hVH : Held (fun i => i ≠ H + 1 ∧ i ≠ W2.heap.size) W V := by
      rw [← hV]
      exact (hUH.mono fun i _ h => h.1).trans (Held.put U fun h => h.2 rfl)
    have hVB : Box3 V (H + 1) 36 (.int .i64 t.top.kind) (.slice L t.top.labels.length lc) (.slice A t.kids.length kd) := by
      rw [← hV]
      exact (World.putObj_heap_other (by omega)).trans hUB
    have HMADE : Hid (MadeT t w (.returned (.agg #[.int .i64 t.top.kind, .slice L t.top.labels.length lc, .slice A t.kids.length kd])) V) := by
      refine ⟨L, A, lc, kd, fs 0, rfl, hov.held hVH fun b hb => ?_, fun b hb => ?_, hI.bel.trans (hVH.below hI.bel.size fun i hi => ?_)⟩
      · have := hfr b (hfs b hb); exact ⟨this.2.2.1, this.2.2.2⟩
      · have := hfr b (hfs b hb); have := hVH.size; omega
      · show i ≠ H + 1 ∧ i ≠ W2.heap.size
        omega
    have HU := Lib.hid hU
    have HKU := Lib.hid hKU
    have HV := Lib.hid hV
    have HVB := Lib.hid hVB
    clear hI hF2 hres hrow hkid hperm hov hfs hget hUH hUB hVH hVB hU hV hKU hfr hfp hcs
    gi_wp2
    rw [HU.out]
    refine ⟨by simp, .inl ⟨_, _, rfl, run_takeDeferred HKU.out, ?_⟩⟩
    rw [HV.out]
    have v0 := HVB.out.c0
    have v1 := HVB.out.c1
    have v2 := HVB.out.c2
    refine ⟨_, ?_, HMADE.out⟩
    simp [results, Try.results49, go_sem, v0, v1, v2]
  case stop =>
    intro W hf
    exact hf.elim
end Go.Proofs.Ytlcpekpgkllbkaa
