/-
  Merged by program: CanI.
-/
import Derived.Test.YtpcegakpdjmaaaaCC23
import Derived.Test.YtpcegakpdjmaaaaCC24
import Derived.Test.YtpcegakpdjmaaaaCC29

/-
  The program's CanonValue.
-/
namespace Go.Proofs.Ytpcegakpdjmaaaa
open Go.RowKit Go.Shelf

theorem OVs.nodup {w : World} {ts : List Va} {s : Value} {fp : List Nat} (h : OVs w ts s fp) : fp.Nodup := by
  obtain ⟨_, _, _, _, _, _, _, _, _, h⟩ := h
  exact h

attribute [local go_sem] Oper.semAt_some

theorem infoVass : (Try.prog.info? 28).map (fun i => (i.zero, i.size, i.bytes)) = some (some (.slice none 0 0), 1, 24) := by kernel_rfl

set_option maxRecDepth 100000 in
set_option maxHeartbeats 4000000 in
theorem implCanV_any (t : Va) (w : World) (cs : List Value) (h : RVa w t cs) (hw : wv t ≤ 1048576) : Calls Try.prog 22 #[.agg cs.toArray] w (MadeV (canV t) w) := by
  obtain ⟨i0, hi0, hz0, hz1, hz2⟩ := info_parts infoVas
  have hs := size_wv t
  obtain ⟨c0, c1, c2, c3, rfl⟩ := h.four
  obtain ⟨H, hH⟩ : ∃ H, w.heap.size = H := ⟨_, rfl⟩
  obtain ⟨W1, hW1⟩ : ∃ W1, ((w.alloc (.cells #[c0, c1, c2, c3] 30)).alloc (.cells #[.int .i64 0, .int .i64 0, .slice none 0 0, .slice none 0 0] 30)) = W1 := ⟨_, rfl⟩
  have hz1' : W1.heap.size = H + 2 := by rw [← hW1, ← hH]; simp
  have hb1 : Below w.heap.size w W1 := by rw [← hW1]; exact ((Below.refl _ _).alloc (Nat.le_refl _) _).alloc (by simp) _
  have hres : Box4 W1 (H + 1) 30 (.int .i64 0) (.int .i64 0) (.slice none 0 0) (.slice none 0 0) := by
    rw [← hW1, ← hH]
    have := Box4.new (w.alloc (.cells #[c0, c1, c2, c3] 30)) 30 (.int .i64 0) (.int .i64 0) (.slice none 0 0) (.slice none 0 0)
    simpa using this
  have hbx : Box4 W1 H 30 c0 c1 c2 c3 := by
    rw [← hW1, ← hH]
    exact (Box4.new w 30 c0 c1 c2 c3).alloc _
  have x0 := hbx.c0
  have x1 := hbx.c1
  have x2 := hbx.c2
  have x3 := hbx.c3
  have HC := Lib.hid (implCopyV_any t W1 _ (h.keep hb1) hw)
  have HW1 := Lib.hid hW1
  have HB1 := Lib.hid hb1
  have HH := Lib.hid hH
  have HZ1 := Lib.hid hz1'
  have HS := Lib.hid hs
  have HWT := Lib.hid hw
  have HRES := Lib.hid hres
  clear hW1 hb1 hH hz1' h hs hw hres hbx
  refine (callsIn_wide (n := 9)).1 ?_
  refine callsIn_of_wp_marks Try.func22 rfl trivial ?_ rfl
  simp only [Try.ntmps22, List.size_toArray, List.length_cons, List.length_nil, Nat.reduceAdd, Nat.reduceSub, Array.replicate_succ, Array.replicate_zero, List.push_toArray, List.append_toArray, List.nil_append, List.cons_append]
  have hHz := HH.out
  gi_wp2_with (refine ⟨trivial, ?_⟩; gi_at_call 49; rw [HW1.out]; refine (callsIn_wide.2 HC.out).mono ?_; rintro e w1 ⟨L, A, lc, kd, fp, rfl, hov, hfp, hb⟩)
  obtain ⟨G, hG⟩ : ∃ G, w1.heap.size = G := ⟨_, rfl⟩
  obtain ⟨k0, hk0⟩ : ∃ k, t.top.kind = k := ⟨_, rfl⟩
  obtain ⟨k1, hk1⟩ : ∃ k, t.top.num = k := ⟨_, rfl⟩
  obtain ⟨nl, hnl⟩ : ∃ k, t.top.labels.length = k := ⟨_, rfl⟩
  obtain ⟨nk, hnk⟩ : ∃ k, t.kids.length = k := ⟨_, rfl⟩
  rw [hk0, hk1, hnl, hnk] at hov ⊢
  obtain ⟨W0, hW0⟩ : ∃ W0, (w1.alloc (.cells #[.int .i64 k0, .int .i64 k1, .slice L nl lc, .slice A nk kd] 30)).alloc (.cells #[.slice none 0 0] 69) = W0 := ⟨_, rfl⟩
  obtain ⟨W2, hW2⟩ : ∃ W2, W0.alloc (.cells #[.slice (some ⟨G, 0, none⟩) 1 1] 28) = W2 := ⟨_, rfl⟩
  have hz0' : W0.heap.size = G + 2 := by rw [← hW0, ← hG]; simp
  have hz2' : W2.heap.size = G + 3 := by rw [← hW2]; simp; omega
  have hHG : H + 2 ≤ G := by have := hb.size; have := HZ1.out; omega
  have hb02 : Below w1.heap.size w1 W2 := by
    rw [← hW2, ← hW0]
    exact ((below_alloc w1 _).alloc (by simp) _).alloc (by simp; omega) _
  have hb12 : Below W1.heap.size W1 W2 := hb.trans (hb02.mono hb.size)
  have hb2 : Below w.heap.size w W2 := HB1.out.trans (hb12.mono HB1.out.size)
  have hbx : Boxed W2 (G + 2) 28 (.slice (some ⟨G, 0, none⟩) 1 1) := by rw [← hW2, ← hz0']; exact Boxed.new W0 _ _
  have hbg : Boxed W2 (G + 1) 69 (.slice none 0 0) := by
    rw [← hW2, ← hW0, ← hG]
    have := (Boxed.new (w1.alloc (.cells #[.int .i64 k0, .int .i64 k1, .slice L nl lc, .slice A nk kd] 30)) 69 (.slice none 0 0)).alloc (.cells #[.slice (some ⟨w1.heap.size, 0, none⟩) 1 1] 28)
    simpa using this
  have hres2 : Box4 W2 (H + 1) 30 (.int .i64 0) (.int .i64 0) (.slice none 0 0) (.slice none 0 0) := HRES.out.under hb12 HRES.out.lt
  have hrow : W2.ownsRow 0 30 4 (.slice (some ⟨G, 0, none⟩) 1 1) 1 [.int .i64 k0, .int .i64 k1, .slice L nl lc, .slice A nk kd] := by
    have h1 := World.ownsRow_lit (base := 0) (e := 30) (size := 4) w1 #[.int .i64 k0, .int .i64 k1, .slice L nl lc, .slice A nk kd] 1 (Nat.zero_le _) (by unfold maxLen; omega) rfl
    have h2 := (h1.alloc (.cells #[.slice none 0 0] 69)).alloc (.cells #[.slice (some ⟨G, 0, none⟩) 1 1] 28)
    rw [hW0, hW2, hG] at h2
    exact h2
  obtain ⟨fp0, hfp0⟩ : ∃ fp0, fp0 = G :: fp := ⟨_, rfl⟩
  have hin0 : ∀ b ∈ fp0, H + 2 ≤ b ∧ b ≤ G := fun b hb' => by
    rw [hfp0] at hb'
    rcases List.mem_cons.1 hb' with h | h
    · omega
    · have := hfp b h; have := HZ1.out; omega
  have hovs : OVs W2 [t] (.slice (some ⟨G, 0, none⟩) 1 1) fp0 := by
    refine ⟨_, _, [.int .i64 k0, .int .i64 k1, .slice L nl lc, .slice A nk kd], fun _ => fp, rfl, by simp, hrow, fun j u hj => ?_, by rw [hfp0]; simp [blk], ?_⟩
    · match j, hj with
      | 0, hj => simp at hj; subst hj; exact hov.under hb02
      | j + 1, hj => simp at hj
    · rw [hfp0]
      refine List.nodup_cons.2 ⟨fun hm => ?_, hov.nodup⟩
      have := hfp G hm; omega
  obtain ⟨Post, hPost⟩ : ∃ Post : World → Prop, Post = fun W => OVs W [canV t] (.slice (some ⟨G, 0, none⟩) 1 1) fp0 := ⟨_, rfl⟩
  have hPH : ∀ W C, Post W → Held (fun i => i ∈ fp0) W C → Post C := by
    rw [hPost]
    intro W C h1 h2
    exact h1.held h2 fun b hb => hb
  have hC0 : ColS W2 fp0 Post [([t], .slice (some ⟨G, 0, none⟩) 1 1)] [] := by
    refine ⟨fun p hp => ?_, [fp0], ⟨hovs, trivial⟩, by simpa using (OVs.nodup hovs), by simp, ?_⟩
    · rw [List.mem_singleton] at hp
      subst hp
      refine ⟨by simp, fun u hu => ?_⟩
      simp at hu
      subst hu
      have := HS.out; have := HWT.out; omega
    · intro W' _ hA
      rw [hPost]
      exact hA.1
  obtain ⟨I, hId⟩ : ∃ I : Stk → (Nat → Prop) → World → Prop, I = fun S F W => ∃ B V c, ColS W2 fp0 Post S B ∧ B.length + sizesS S ≤ t.size ∧ Boxed W (G + 1) 69 (.slice V B.length c) ∧ W.ownsRow (G + 3) 28 1 (.slice V B.length c) B.length B ∧ F = (fun b => b = G + 1 ∨ b ∈ blk V) ∧ Held (fun i => i < G + 3 ∧ i ≠ G + 1) W2 W := ⟨_, rfl⟩
  have hI0 : I [([t], .slice (some ⟨G, 0, none⟩) 1 1)] (fun b => b = G + 1 ∨ b ∈ blk none) W2 := by
    rw [hId]
    exact ⟨[], none, 0, hC0, by simp [sizesS, sizesV_one], hbg, ⟨rfl, .inl ⟨rfl, rfl⟩⟩, rfl, Held.refl _ _⟩
  have hL := valueLists_any W0 (some ⟨G, 0, none⟩) 1 1
  rw [hz0'] at hL
  have HL := Lib.hid hL
  have HW0 := Lib.hid hW0
  have HW2 := Lib.hid hW2
  have HB2 := Lib.hid hb2
  have HI0 := Lib.hid hI0
  have HZ2 := Lib.hid hz2'
  have HBX := Lib.hid hbx
  have HR2 := Lib.hid hres2
  have HIN := Lib.hid hin0
  have HPH := Lib.hid hPH
  have HPOST := Lib.hid hPost
  have HID := Lib.hid hId
  have HGE := Lib.hid hG
  have hHGE := hHG
  clear hL hW0 hW2 hb2 hI0 hz0' hz2' hbx hbg hres2 hrow hovs hPH hC0 hPost hId hov hfp hb hb02 hb12 hfp0 hin0 hk0 hk1 hnl hnk x0 x1 x2 x3 HC HW1 HRES
  rw [HGE.out]
  refine ⟨trivial, ?_⟩
  rw [HW0.out]
  refine (callsIn_wide.2 HL.out).mono ?_
  rintro e W3 ⟨rfl, rfl⟩
  rw [HW2.out]
  clear HL HW0 HW2 hG
  gi_wp2
  have hDz := HZ2.out
  refine wpIn_givesV (n := 9) (w := W2) rfl (by decide) (gf := 57) (lb := #[.pointer (some ⟨G + 2, 0, none⟩)]) rfl trivial (enters_of Try.func57 (by kernel_rfl) rfl)
    (S0 := [([t], .slice (some ⟨G, 0, none⟩) 1 1)]) (lo := G + 3) (by omega) (fun W hW hz => ?gives)
    I (fun _ => False) (fun S F A C hi hh => ?keep) (fun S F A hi b hb => ?low) (fun _ _ hf _ => hf) (fun b => b = G + 1 ∨ b ∈ blk none) HI0.out
    (fun v => { tmps := #[.agg #[c0, c1, c2, c3], .pointer (some ⟨H, 0, none⟩), .pointer (some ⟨H + 1, 0, none⟩), .slice (some ⟨G, 0, none⟩) 1 1, .pointer (some ⟨G + 1, 0, none⟩), v, undef, undef, undef, undef, .agg #[c0, c1, c2, c3], .agg #[.int .i64 k0, .int .i64 k1, .slice L nl lc, .slice A nk kd], .slice (some ⟨G, 0, none⟩) 1 1, .slice (some ⟨G, 0, none⟩) 1 1, .func (.func 57) #[] #[.pointer (some ⟨G + 2, 0, none⟩)], v, undef, undef, undef, undef, undef, undef, undef, undef, undef, undef, undef, undef, undef, undef, undef, undef, undef, undef, undef, undef, undef, undef, undef, undef], defers := [] }) ?assign ?body ?done ?stop
  case gives =>
    refine valueLists1_gives [t] _ 1 (G + 3) (9 - 1) (G + 2) (by decide) W (by have := hW.size; omega) ((hW.block _ (by omega)).trans HBX.out) ?_
    have hss := HS.out
    have hww := HWT.out
    rw [wS_cons]
    show 2 * sizesV [t] + 1 + wS [] ≤ _
    rw [sizesV_one]
    simp [wS]
    omega
  case keep =>
    rw [HID.out] at hi ⊢
    obtain ⟨B, V, c, h1, h2, h3, h4, rfl, h6⟩ := hi
    refine ⟨B, V, c, h1, h2, (hh.block (G + 1) h3.lt (.inl (by omega))).trans h3, own_heldv h4 hh fun b hb => .inr (.inr hb), rfl, h6.trans (hh.mono fun i _ hi => .inl hi.1)⟩
  case low =>
    rw [HID.out] at hi
    obtain ⟨B, V, c, h1, h2, h3, h4, rfl, h6⟩ := hi
    rcases hb with hb | hb
    · subst hb; exact h3.lt
    · exact (h4.lt b ((blk_own _ _ _ _).2 hb)).2
  case assign =>
    intro l v W K hK
    gi_wp2
    exact hK
  case body =>
    rintro l ts s S F W hI hDW _ _
    rw [HID.out] at hI
    obtain ⟨B, V0, vc0, hcol, hlen, hbx, hrow, rfl, hheld⟩ := hI
    obtain ⟨A, d, xs, As, rfl, hts, hxrow, hA0, hcell, hcol2⟩ := col_next hcol
    rw [hDz] at hDW
    have hpush := sizesS_push ts As S (.slice A ts.length d)
    have hBl : B.length + ts.length ≤ 1048577 := by have := HS.out; have := HWT.out; omega
    have hV0 : ∀ b ∈ blk V0, G + 3 ≤ b := fun b hb => (hrow.lt b ((blk_own _ _ _ _).2 hb)).1
    have hAb : ∀ b ∈ blk A, b < G + 3 ∧ b ≠ G + 1 := fun b hb => by have := HIN.out b (hA0 b hb); omega
    obtain ⟨R, hR⟩ : ∃ R : Nat → World → Prop, ∀ k wr, R k wr ↔ (∃ V vc, Boxed wr (G + 1) 69 (.slice V (B ++ bagsTo ts As k).length vc) ∧ wr.ownsRow (G + 3) 28 1 (.slice V (B ++ bagsTo ts As k).length vc) (B ++ bagsTo ts As k).length (B ++ bagsTo ts As k) ∧ (∀ b ∈ blk V, b ∈ blk V0 ∨ W.heap.size ≤ b) ∧ Held (fun i => i < W.heap.size ∧ i ≠ G + 1 ∧ i ∉ blk V0) W wr) := ⟨_, fun _ _ => Iff.rfl⟩
    have hagree : ∀ k wr, R k wr → Held (fun i => i < G + 3 ∧ i ≠ G + 1) W2 wr := by
      intro k wr hr
      rw [hR] at hr
      obtain ⟨_, _, _, _, _, h4⟩ := hr
      exact hheld.trans (h4.mono fun i hiW hi => ⟨hiW, hi.2, fun h => by have := hV0 i h; omega⟩)
    have HCEL : Hid (∀ k wr, R k wr → wr.ownsRow 0 30 4 (.slice A ts.length d) ts.length xs) := fun k wr hr => own_heldv hxrow (hagree k wr hr) hAb
    have HR0 : Hid (R 0 W) := by
      show R 0 W
      rw [hR]
      exact ⟨V0, vc0, by simpa [bagsTo] using hbx, by simpa [bagsTo] using hrow, fun b hb => .inl hb, Held.refl _ _⟩
    have HEND : Hid (∀ Wx, R ts.length Wx → givesPostV (G + 3) I (fun _ => False) ts (.slice A ts.length d) S (fun b => b = G + 1 ∨ b ∈ blk V0) W .normal { tmps := #[], defers := [] } Wx) := by
      intro Wx hr
      have hg1 := hagree _ _ hr
      have hx := HCEL.out _ _ hr
      rw [hR] at hr
      obtain ⟨V, vc, h1, h2, h3, h4⟩ := hr
      refine ⟨h4.mono fun i hiW hi => ⟨hiW, fun h => hi (.inl h), fun h => hi (.inr h)⟩, As, fun b => b = G + 1 ∨ b ∈ blk V, fun b hb => ?_, ⟨A, d, rfl, by omega, fun j u hj => ?_⟩, ?_⟩
      · rcases hb with h | h
        · exact .inl (.inl h)
        · exact (h3 b h).imp .inr id
      · obtain ⟨L', c', A', e', e1, e2⟩ := hcell j u hj
        have hjl := (List.getElem?_eq_some_iff.1 hj).1
        obtain ⟨g, rfl⟩ := own_some hx (by omega)
        have hxl : xs.length = ts.length * 4 := hx.1
        have cell : ∀ i v, i < 4 → (part4 xs j)[i]? = some v → Wx.cell? ((⟨g, 0, none⟩ : Addr).add (j * 4 + i)) = some v := fun i v hi hv => by
          rw [part4_get _ _ _ hi] at hv
          exact hx.cells (g := g) rfl _ v hv
        rw [e2] at cell
        exact ⟨_, _, _, _, _, _, A', e', rfl, .inl (hAb g (by simp [blk])).1, e1, cell 0 _ (by omega) rfl, cell 1 _ (by omega) rfl, cell 2 _ (by omega) rfl, by rw [e1]; exact cell 3 _ (by omega) rfl⟩
      · rw [HID.out]
        refine ⟨B ++ bagsTo ts As ts.length, V, vc, hcol2, ?_, h1, h2, rfl, hg1⟩
        have := bagsTo_len ts As ts.length
        rw [List.length_append]
        omega
    have HCL := Lib.hid hcell
    have HR := Lib.hid hR
    have HV0 := Lib.hid hV0
    clear hcol hlen hbx hrow hheld hxrow hA0 hcell hcol2 hagree hpush hR hV0 hAb
    gi_wp2
    gi_loopw [18] (fun i wr => ∃ k : Nat, k ≤ ts.length ∧ i = .int .i64 (k : Int) ∧ R k wr) (fun i _ => ts.length - (intOf i).toNat)
    case atStart => exact ⟨0, Nat.zero_le _, rfl, HR0.out⟩
    case round =>
      obtain ⟨k, hk, rfl, hr⟩ := hrel
      by_cases hlt : k < ts.length
      · have hx := HCEL.out _ _ hr
        obtain ⟨L', e', A', c', e1, e2⟩ := HCL.out k _ (List.getElem?_eq_getElem hlt)
        obtain ⟨g, rfl⟩ := own_some hx (by omega)
        have hget : ∀ i, i < 4 → wr.cell? ⟨g, k * 4 + i, none⟩ = (part4 xs k)[i]? := fun i hi => by rw [part4_get _ _ _ hi]; exact hx.cellAt _ (by omega)
        rw [e2] at hget
        rw [HR.out] at hr
        obtain ⟨V, vc, h1, h2, h3, h4⟩ := hr
        have hbl := bagsTo_len ts As k
        have hnB : (B ++ bagsTo ts As k).length ≤ 1048577 := by rw [List.length_append]; omega
        have hmore := bagsTo_more (As := As) hlt
        have HOLD : Hid (∀ o : Obj, ts[k].top.kind ≠ 4 → R (k + 1) (wr.alloc o)) := fun o hne => by
          rw [HR.out]
          rw [hmore, if_neg hne, List.append_nil]
          exact ⟨V, vc, (heap_alloc_old wr o h1.lt).trans h1, h2.alloc o, h3, h4.trans (Held.of_below (below_alloc wr o) fun i hi _ => hi)⟩
        have HNEW : Hid (∀ (o o' : Obj) (V' : Option Addr) (vc' : Nat) (w4 : World), ts[k].top.kind = 4 → w4.ownsRow (G + 3) 28 1 (.slice V' ((B ++ bagsTo ts As k).length + 1) vc') ((B ++ bagsTo ts As k).length + 1) ((B ++ bagsTo ts As k) ++ [As k]) → ((wr.alloc o).alloc o').grownBy w4 (Value.slice V (B ++ bagsTo ts As k).length vc).ownBlock →
            ((Value.slice V' ((B ++ bagsTo ts As k).length + 1) vc').ownBlock = (Value.slice V (B ++ bagsTo ts As k).length vc).ownBlock ∨ (Value.slice V' ((B ++ bagsTo ts As k).length + 1) vc').ownBlock = some (wr.heap.size + 1 + 1)) → R (k + 1) (w4.setCell ⟨G + 1, 0, none⟩ (.slice V' ((B ++ bagsTo ts As k).length + 1) vc'))) := by
          intro o o' V' vc' w4 he ho hg hor
          rw [HR.out]
          rw [hmore, if_pos he, ← List.append_assoc]
          have hal : Below wr.heap.size wr ((wr.alloc o).alloc o') := (below_alloc wr o).alloc (by simp) _
          have hVn : some (G + 1) ≠ (Value.slice V (B ++ bagsTo ts As k).length vc).ownBlock := fun e => by have := (h2.lt _ e.symm).1; omega
          have hbx4 : Boxed w4 (G + 1) 69 (.slice V (B ++ bagsTo ts As k).length vc) := (hg.block _ (Nat.lt_of_lt_of_le h1.lt hal.size) hVn).trans ((hal.block _ h1.lt).trans h1)
          have hlen1 : (B ++ bagsTo ts As k ++ [As k]).length = (B ++ bagsTo ts As k).length + 1 := by rw [List.length_append]; rfl
          have hbl' : ∀ b ∈ blk V', b ∈ blk V ∨ W.heap.size ≤ b := fun b hb => by
            rcases hor with h | h
            · exact .inl ((blk_own _ _ _ _).1 (h ▸ (blk_own V' ((B ++ bagsTo ts As k).length + 1) vc' b).2 hb))
            · have e := (blk_own V' ((B ++ bagsTo ts As k).length + 1) vc' b).2 hb
              rw [h] at e
              injection e with e
              have := h4.size
              exact .inr (by omega)
          rw [hlen1]
          refine ⟨V', vc', hbx4.set _, own_heldv ho (Held.set w4 (K := fun i => i ≠ G + 1) (fun h => h rfl) _) fun b hb => ?_, fun b hb => ?_, ?_⟩
          · show b ≠ G + 1
            have := (ho.lt b ((blk_own _ _ _ _).2 hb)).1
            omega
          · rcases hbl' b hb with h | h
            · exact h3 b h
            · exact .inr h
          · refine h4.trans ((Held.of_below hal fun i hi _ => hi).trans ((Held.grown hg fun q hq hn => ?_).trans (Held.set w4 (fun h => h.2.1 rfl) _)))
            have hq' := h2.lt q hq
            rcases h3 q ((blk_own _ _ _ _).1 hq) with h | h
            · exact hn.2.2 h
            · exact absurd hn.1 (by omega)
        have hwB : G + 3 ≤ wr.heap.size := by have := h4.size; omega
        have q0 : wr.cell? ⟨g, k * 4, none⟩ = some (.int .i64 ts[k].top.kind) := hget 0 (by omega)
        have q1 : wr.cell? ⟨g, k * 4 + 1, none⟩ = some (.int .i64 ts[k].top.num) := hget 1 (by omega)
        have q2 : wr.cell? ⟨g, k * 4 + 2, none⟩ = some (.slice L' ts[k].top.labels.length e') := hget 2 (by omega)
        have q3 : wr.cell? ⟨g, k * 4 + 3, none⟩ = some (.slice A' ts[k].kids.length c') := hget 3 (by omega)
        rw [e1] at HNEW
        clear hget hx e2 hmore hbl
        obtain ⟨kk, hkk⟩ : ∃ kk, ts[k].top.kind = kk := ⟨_, rfl⟩
        obtain ⟨kn, hkn⟩ : ∃ kn, ts[k].top.num = kn := ⟨_, rfl⟩
        obtain ⟨ml, hml⟩ : ∃ nl, ts[k].top.labels.length = nl := ⟨_, rfl⟩
        obtain ⟨mk, hmk⟩ : ∃ nk, ts[k].kids.length = nk := ⟨_, rfl⟩
        obtain ⟨XB, hXB⟩ : ∃ XB, B ++ bagsTo ts As k = XB := ⟨_, rfl⟩
        obtain ⟨nB, hnB'⟩ : ∃ nB, XB.length = nB := ⟨_, rfl⟩
        simp only [hkk, hkn, hml, hmk, hXB, hnB'] at q0 q1 q2 q3 HOLD HNEW h1 h2 hnB
        clear hkk hkn hml hmk hXB hnB' e1 h3 h4
        by_cases hk4 : kk = 4
        · subst hk4
          have HN := Lib.hid (fun V' vc' w4 h1 h2 h3 => HNEW.out (.cells #[.int .i64 4, .int .i64 kn, .slice L' ml e', .slice A' mk c'] 30) (.cells #[.slice A' mk c'] 28) V' vc' w4 rfl h1 h2 h3)
          have hown2 := ((h2.alloc (.cells #[.int .i64 4, .int .i64 kn, .slice L' ml e', .slice A' mk c'] 30)).alloc (.cells #[.slice A' mk c'] 28))
          have hcl := cell_one_at (wr.alloc (.cells #[.int .i64 4, .int .i64 kn, .slice L' ml e', .slice A' mk c'] 30)) (.slice A' mk c') 28
          rw [World.size_alloc] at hcl
          have hb1' : Boxed (wr.alloc (.cells #[.int .i64 4, .int .i64 kn, .slice L' ml e', .slice A' mk c'] 30)) (G + 1) 69 (.slice V nB vc) := (heap_alloc_old wr _ h1.lt).trans h1
          have hb2' : Boxed ((wr.alloc (.cells #[.int .i64 4, .int .i64 kn, .slice L' ml e', .slice A' mk c'] 30)).alloc (.cells #[.slice A' mk c'] 28)) (G + 1) 69 (.slice V nB vc) := (heap_alloc_old _ _ hb1'.lt).trans hb1'
          have hVn : some (G + 1) ≠ (Value.slice V nB vc).ownBlock := fun e => by have := (h2.lt _ e.symm).1; omega
          have y0 := hb1'.cell
          have HO := Lib.hid hown2
          have HCL2 := Lib.hid hcl
          have HB2' := Lib.hid hb2'
          have HVN := Lib.hid hVn
          clear HOLD HNEW h1 h2 hown2 hcl hb1' hb2' hVn
          gi_wp2_with (gi_at_builtin; refine wpListIn_append_own_at _ rfl _ _ 69 rfl (G + 3) 28 i0 (.slice none 0 0) 1 24 Try.underlying69 hi0 hz0 hz1 hz2 rfl (by decide) (.slice V nB vc) nB XB rfl HO.out ⟨wr.heap.size + 1, 0, none⟩ 1 1 [.slice A' mk c'] rfl rfl HCL2.out (by simp [Value.oneCell']) (by unfold maxLen; omega) (by omega) (by simp; omega) ?_; intro v' w4 hown4 hg4 _ hor4; obtain ⟨V', vc', rfl⟩ := own_is hown4; have HF := Lib.hid (HN.out V' vc' w4 hown4 hg4 (by simpa using hor4)); have hbx4 : Boxed w4 (G + 1) 69 (.slice V nB vc) := (hg4.block _ HB2'.out.lt HVN.out).trans HB2'.out; have z0 := hbx4.cell; have zf := hbx4.frozen; clear hown4 hg4 hor4 hbx4)
          gi_wp2
          go_roundw
          case rel => exact ⟨k + 1, hlt, by go_num, HF.out⟩
          case measure => simp [intOf]; omega
        · have hkf : (kk == 4) = false := by simp [hk4]
          have HF := Lib.hid (HOLD.out (.cells #[.int .i64 kk, .int .i64 kn, .slice L' ml e', .slice A' mk c'] 30) hk4)
          clear HOLD HNEW h1 h2
          gi_wp2
          go_roundw
          case rel => exact ⟨k + 1, hlt, by go_num, HF.out⟩
          case measure => simp [intOf]; omega
      · have he : k = ts.length := by omega
        subst he
        have HE := Lib.hid (HEND.out wr hr)
        clear hr
        gi_wp2
        exact HE.out
  case done =>
    rintro F W hI hK
    rw [HID.out] at hI
    obtain ⟨B, V, vc, hcol, hlen, hbx, hrow, rfl, hheld⟩ := hI
    have hfin : FinV fp0 Post B.reverse W := col_done hcol (hheld.mono fun i _ hi => by have := HIN.out i hi; exact ⟨by omega, fun e => by omega⟩)
    have hres : Box4 W (H + 1) 30 (.int .i64 0) (.int .i64 0) (.slice none 0 0) (.slice none 0 0) := (hheld.block (H + 1) HR2.out.lt ⟨by omega, by omega⟩).trans HR2.out
    have hbel : Below w.heap.size w W := HB2.out.trans (hheld.below HB2.out.size fun i hi => ⟨by omega, by omega⟩)
    have hBl : B.length ≤ 1048577 := by have := HS.out; have := HWT.out; omega
    have hVb : ∀ b ∈ blk V, G + 3 ≤ b ∧ b < W.heap.size := fun b hb => hrow.lt b ((blk_own _ _ _ _).2 hb)
    obtain ⟨Bx, hBx⟩ : ∃ Bx, W.heap.size = Bx := ⟨_, rfl⟩
    obtain ⟨W5, hW5⟩ : ∃ W5, W.alloc (.cells #[.slice V B.length vc] 69) = W5 := ⟨_, rfl⟩
    have hz5 : W5.heap.size = Bx + 1 := by rw [← hW5, ← hBx]; simp
    have hb5 : Below W.heap.size W W5 := by rw [← hW5]; exact below_alloc W _
    have hGB : G + 3 < Bx := by
      have := (Array.getElem?_eq_some_iff.1 hK).1
      rw [hDz, hBx] at this
      exact this
    rw [hBx] at hVb
    obtain ⟨I3, hI3⟩ : ∃ I3 : Nat → World → Prop, ∀ k W', I3 k W' ↔ (RdB Bx V vc B W' ∧ FinV fp0 Post (B.take k).reverse W' ∧ Box4 W' (H + 1) 30 (.int .i64 0) (.int .i64 0) (.slice none 0 0) (.slice none 0 0) ∧ Below w.heap.size w W' ∧ W'.heap[W2.heap.size]? = some (.deferred (some []))) := ⟨_, fun _ _ => Iff.rfl⟩
    have h30 : I3 B.length W5 := by
      rw [hI3]
      refine ⟨⟨by rw [← hW5, ← hBx]; exact Boxed.new W _ _, ?_⟩, by rw [List.take_length]; exact hfin.held HPH.out (Held.of_below hb5 fun i hi _ => hi), hres.under hb5 hres.lt, hbel.trans (hb5.mono hbel.size), (hb5.block _ (by rw [hDz, hBx]; omega)).trans hK⟩
      rw [← hW5]
      exact ⟨hrow.1, (hrow.alloc _).2.imp id fun ⟨g, cap, cur, h1, _, h3⟩ => ⟨g, cap, cur, h1, Nat.zero_le _, h3⟩⟩
    have hbk := backward_any W V B.length vc
    rw [hBx] at hbk
    have HW5 := Lib.hid hW5
    have HBK := Lib.hid hbk
    have hcell := hbx.cell
    have H30 := Lib.hid h30
    have HI3 := Lib.hid hI3
    have HVB := Lib.hid hVb
    have HBL := Lib.hid hBl
    have HZ5 := Lib.hid hz5
    clear hcol hlen hbx hrow hheld hfin hres hbel hVb hb5 h30 hbk hI3 hK hW5 hBx hBl hz5
    gi_wp2_with (refine ⟨trivial, ?_⟩; gi_at_call 50; refine (callsIn_wide.2 HBK.out).mono ?_; rintro e W4 ⟨rfl, rfl⟩; rw [HW5.out])
    have hz5 := HZ5.out
    refine wpIn_givesB (n := 9) (w := W5) rfl (by decide) (gf := 75) (lb := #[.pointer (some ⟨Bx, 0, none⟩)]) rfl trivial (enters_of Try.func75 (by kernel_rfl) rfl)
      (n0 := B.length) (vs := fun k => B.getD k undef) (Rd := RdB Bx V vc B) (fun W' _ _ => backward1_gives (9 - 1) Bx (by decide) V vc B HBL.out W') I3 (fun k A C hi hh => ?keep3) (fun k A hi => ((HI3.out _ _).1 hi).1) H30.out
      (fun k v => { tmps := #[.agg #[c0, c1, c2, c3], .pointer (some ⟨H, 0, none⟩), .pointer (some ⟨H + 1, 0, none⟩), .slice (some ⟨G, 0, none⟩) 1 1, .pointer (some ⟨G + 1, 0, none⟩), undef, undef, undef, undef, v, .agg #[c0, c1, c2, c3], .agg #[.int .i64 k0, .int .i64 k1, .slice L nl lc, .slice A nk kd], .slice (some ⟨G, 0, none⟩) 1 1, .slice (some ⟨G, 0, none⟩) 1 1, .func (.func 57) #[] #[.pointer (some ⟨G + 2, 0, none⟩)], undef, undef, undef, undef, undef, undef, undef, undef, undef, undef, undef, undef, undef, undef, undef, undef, .slice V B.length vc, .func (.func 75) #[] #[.pointer (some ⟨Bx, 0, none⟩)], .int .i64 (k : Int), v, undef, undef, undef, undef, undef], defers := [] }) ?assign3 ?body3 ?done3
    case keep3 =>
      rw [HI3.out] at hi ⊢
      obtain ⟨⟨h1, h2⟩, h3, h4, h5, h6⟩ := hi
      rw [hz5] at hh
      refine ⟨⟨(hh.block Bx h1.lt ⟨by omega, by omega⟩).trans h1, own_heldv h2 hh fun b hb => by have := HVB.out b hb; exact ⟨by omega, by omega⟩⟩, h3.held HPH.out (hh.mono fun i _ hi => by have := HIN.out i hi; exact ⟨by omega, by omega⟩), (hh.block (H + 1) h4.lt ⟨by omega, by omega⟩).trans h4, h5.trans (hh.below h5.size fun i hi => ⟨by omega, by omega⟩), (hh.block _ (Array.getElem?_eq_some_iff.1 h6).1 ⟨by omega, by omega⟩).trans h6⟩
    case assign3 =>
      intro l k v W K hK
      gi_wp2
      exact hK
    case body3 =>
      intro l k W6 hk hi hD6
      rw [HI3.out] at hi
      obtain ⟨h1, h2, h4, h5, h6⟩ := hi
      have hkt : B.take (k + 1) = B.take k ++ [B.getD k undef] := by
        rw [List.take_succ_eq_append_getElem hk, List.getD_eq_getElem?_getD, List.getElem?_eq_getElem hk, Option.getD_some]
      rw [hkt, List.reverse_append] at h2
      obtain ⟨ls, fq, q1, q2, q3, q4, q5⟩ := h2
      have hsrt := sortFn_any ls _ fq W6 q1 q3 q4
      rw [hz5] at hD6 ⊢
      have HF : Hid (∀ W7, OVs W7 (sortV ls) (B.getD k undef) fq → Held (fun i => i ∉ fq) W6 W7 → givesPostB (Bx + 1) (I3 k) W6 .normal { tmps := #[], defers := [] } W7) := by
        intro W7 r1 r2
        have hnot : ∀ b, b ∉ fp0 → b ∉ fq := fun b hb h => hb (q2 b h)
        have hn : ∀ b, (b < H + 2 ∨ G < b) → b ∉ fq := fun b hb => hnot b fun h => by have := HIN.out b h; omega
        refine ⟨r2.mono fun i _ hi => hn i (by omega), (HI3.out _ _).2 ⟨⟨(r2.block Bx h1.1.lt (hn _ (by omega))).trans h1.1, own_heldv h1.2 r2 fun b hb => hn b (by have := HVB.out b hb; omega)⟩, q5 W7 r1 (r2.mono fun i _ hi => hi.2), (r2.block (H + 1) h4.lt (hn _ (by omega))).trans h4, h5.trans (r2.below h5.size fun i hi => hn i (by omega)), (r2.block _ (Array.getElem?_eq_some_iff.1 h6).1 (hn _ (by omega))).trans h6⟩⟩
      have HSRT := Lib.hid hsrt
      clear h1 h4 h5 h6 hkt q1 q2 q3 q4 q5 hsrt
      generalize B.getD k undef = bv at HF HSRT ⊢
      gi_wp2_with (refine ⟨trivial, ?_⟩; gi_at_call 51; refine (callsIn_wide.2 HSRT.out).mono ?_; rintro e W7 ⟨rfl, h7, hH7⟩)
      exact HF.out _ h7 hH7
    case done3 =>
      intro W8 hi hK2
      rw [HI3.out] at hi
      obtain ⟨_, h2, hres, hbel, hK⟩ := hi
      change Post W8 at h2
      rw [HPOST.out] at h2
      obtain ⟨A8, d8, xs, fs, hse, _, hrow, hkid, hperm, _⟩ := h2
      injection hse with q1 q2 q3
      subst q1 q3
      clear q2
      obtain ⟨T, hT⟩ : ∃ T, canV t = T := ⟨_, rfl⟩
      rw [hT] at hkid
      have hov := hkid 0 T rfl
      obtain ⟨L8, l8, A8, d8, hcs⟩ := hov.four
      have hfs : ∀ b ∈ fs 0, H + 2 ≤ b ∧ b ≤ G := fun b hb => HIN.out b (hperm.subset (by simp [hb]))
      have hget : ∀ i, i < 4 → W8.cell? ⟨G, i, none⟩ = (part4 xs 0)[i]? := fun i hi => by rw [part4_get _ _ _ hi, Nat.zero_mul, Nat.zero_add]; exact hrow.cellAt _ (by simp; omega)
      rw [hcs] at hget hov
      have e0 : W8.cell? ⟨G, 0, none⟩ = some (.int .i64 T.top.kind) := hget 0 (by omega)
      have e1 : W8.cell? ⟨G, 1, none⟩ = some (.int .i64 T.top.num) := hget 1 (by omega)
      have e2 : W8.cell? ⟨G, 2, none⟩ = some (.slice L8 T.top.labels.length l8) := hget 2 (by omega)
      have e3 : W8.cell? ⟨G, 3, none⟩ = some (.slice A8 T.kids.length d8) := hget 3 (by omega)
      have r0 := hres.c0
      have r1 := hres.c1
      have r2 := hres.c2
      have r3 := hres.c3
      have s0 := hres.free 0
      have s1 := hres.free 1
      have s2 := hres.free 2
      have s3 := hres.free 3
      have hl1 := (Array.getElem?_eq_some_iff.1 hK).1
      have hl2 := (Array.getElem?_eq_some_iff.1 hK2).1
      obtain ⟨U, hU⟩ : ∃ U, (((W8.setCell ⟨H + 1, 0, none⟩ (.int .i64 T.top.kind)).setCell ⟨H + 1, 1, none⟩ (.int .i64 T.top.num)).setCell ⟨H + 1, 2, none⟩ (.slice L8 T.top.labels.length l8)).setCell ⟨H + 1, 3, none⟩ (.slice A8 T.kids.length d8) = U := ⟨_, rfl⟩
      have hUH : Held (fun i => i ≠ H + 1) W8 U := by
        rw [← hU]
        exact (Held.set W8 (fun h => h rfl) _).trans ((Held.set _ (fun h => h rfl) _).trans ((Held.set _ (fun h => h rfl) _).trans (Held.set _ (fun h => h rfl) _)))
      have hUB : Box4 U (H + 1) 30 (.int .i64 T.top.kind) (.int .i64 T.top.num) (.slice L8 T.top.labels.length l8) (.slice A8 T.kids.length d8) := by
        rw [← hU]
        exact (((hres.set0 _).set1 _).set2 _).set3 _
      have hKU : U.heap[W2.heap.size]? = some (.deferred (some [])) := (hUH.block _ hl1 (by show W2.heap.size ≠ H + 1; omega)).trans hK
      have hKU2 : U.heap[W5.heap.size]? = some (.deferred (some [])) := (hUH.block _ hl2 (by show W5.heap.size ≠ H + 1; omega)).trans hK2
      obtain ⟨U2, hU2⟩ : ∃ U2, U.putObj W5.heap.size (.deferred none) = U2 := ⟨_, rfl⟩
      have hKV : U2.heap[W2.heap.size]? = some (.deferred (some [])) := by rw [← hU2]; exact (World.putObj_heap_other (by omega)).trans hKU
      obtain ⟨V8, hV8⟩ : ∃ V8, U2.putObj W2.heap.size (.deferred none) = V8 := ⟨_, rfl⟩
      have hVH : Held (fun i => i ≠ H + 1 ∧ i ≠ W2.heap.size ∧ i ≠ W5.heap.size) W8 V8 := by
        rw [← hV8, ← hU2]
        exact (hUH.mono fun i _ h => h.1).trans ((Held.put U fun h => h.2.2 rfl).trans (Held.put _ fun h => h.2.1 rfl))
      have hVB : Box4 V8 (H + 1) 30 (.int .i64 T.top.kind) (.int .i64 T.top.num) (.slice L8 T.top.labels.length l8) (.slice A8 T.kids.length d8) := by
        rw [← hV8, ← hU2]
        exact (World.putObj_heap_other (by omega)).trans ((World.putObj_heap_other (by omega)).trans hUB)
      have HMADE : Hid (MadeV T w (.returned (.agg #[.int .i64 T.top.kind, .int .i64 T.top.num, .slice L8 T.top.labels.length l8, .slice A8 T.kids.length d8])) V8) := by
        refine ⟨L8, A8, l8, d8, fs 0, rfl, hov.held hVH fun b hb => ?_, fun b hb => ?_, hbel.trans (hVH.below hbel.size fun i hi => ?_)⟩
        · have := hfs b hb; exact ⟨by omega, by omega, by omega⟩
        · have := hfs b hb; have := hVH.size; omega
        · show i ≠ H + 1 ∧ i ≠ W2.heap.size ∧ i ≠ W5.heap.size
          omega
      have HU := Lib.hid hU
      have HKU2 := Lib.hid hKU2
      have HU2 := Lib.hid hU2
      have HKV := Lib.hid hKV
      have HV8 := Lib.hid hV8
      have HVB8 := Lib.hid hVB
      have HTT := Lib.hid hT
      clear hres hrow hkid hperm hov hfs hget hUH hUB hVH hVB hU hU2 hV8 hKU hKU2 hKV hcs hbel hT hK hK2
      gi_wp2
      rw [HU.out]
      refine ⟨by simp, .inl ⟨_, _, rfl, run_takeDeferred HKU2.out, ?_⟩⟩
      rw [HU2.out]
      have hkv := HKV.out
      have hv8 := HV8.out
      rw [hDz] at hkv hv8
      refine ⟨by simp, .inl ⟨_, _, rfl, run_takeDeferred hkv, ?_⟩⟩
      rw [hv8]
      have v0 := HVB8.out.c0
      have v1 := HVB8.out.c1
      have v2 := HVB8.out.c2
      have v3 := HVB8.out.c3
      have hmade : MadeV (canV t) w (.returned (.agg #[.int .i64 T.top.kind, .int .i64 T.top.num, .slice L8 T.top.labels.length l8, .slice A8 T.kids.length d8])) V8 := by rw [HTT.out]; exact HMADE.out
      refine ⟨_, ?_, hmade⟩
      simp [results, Try.results22, go_sem, v0, v1, v2, v3]
  case stop =>
    intro W hf
    exact hf.elim
end Go.Proofs.Ytpcegakpdjmaaaa
