/-
  Merged by program: TxtD.
-/
import Derived.Test.YtffaggiblglcbaaV44
import Derived.Test.YtffaggiblglcbaaV16
import Derived.Deep.RegionHeld3

/-
  The draws of chapter 4: a type; a text, turned now and then.
-/
namespace Go.Proofs.Ytffaggiblglcbaa
open Go.RowKit

/-- a drawn type in new memory -/
def DrawnT (w : World) (e : Ending) (w' : World) : Prop :=
  ∃ (t : Ty) (L A : Option Addr) (c d : Nat) (fp : List Nat), e = .returned (.agg #[.int .i64 t.top.kind, .slice L t.top.labels.length c, .slice A t.kids.length d]) ∧ OTy w' t [.int .i64 t.top.kind, .slice L t.top.labels.length c, .slice A t.kids.length d] fp ∧ wt t ≤ 1000 ∧ Below w.heap.size w w'
/-- a text that is not too long -/
def DrawnS (w : World) (e : Ending) (w' : World) : Prop := ∃ z : ByteArray, e = .returned (.string z) ∧ z.size ≤ 100000 ∧ Below w.heap.size w w'
/-- a text that is turned -/
def TurnP (b n : Nat) (w : World) (e : Ending) (w' : World) : Prop := ∃ z : ByteArray, e = .returned (.string z) ∧ z.size ≤ n ∧ Cur w' b ∧ w.grownBy w' (some b)

set_option maxHeartbeats 1600000 in
set_option maxRecDepth 100000 in
theorem drawFormatT_any (A0 : Option Addr) (cap : Nat) (bs : List UInt8) (w : World) (h : Code w A0 bs) : Calls Try.prog 7 #[.slice A0 bs.length cap] w (DrawnT w) := by
  obtain ⟨W1, hW1⟩ : ∃ W1, w.alloc (.cells #[.int .i64 0, .slice none 0 0, .slice none 0 0] 27) = W1 := ⟨_, rfl⟩
  obtain ⟨H, hH⟩ : ∃ H, w.heap.size = H := ⟨_, rfl⟩
  have b0 : Box3 W1 H 27 (.int .i64 0) (.slice none 0 0) (.slice none 0 0) := by rw [← hW1, ← hH]; exact Box3.new w _ _ _ _
  have hb1 : Below w.heap.size w W1 := by rw [← hW1]; exact (Below.refl _ _).alloc (Nat.le_refl _) _
  have hz : W1.heap.size = H + 1 := by rw [← hW1, ← hH]; simp
  have HN := Lib.hid (l1New_any A0 cap bs W1 (h.below hb1).1 h.2)
  have HB0 := Lib.hid b0
  have HB1 := Lib.hid hb1
  have HZ := Lib.hid hz
  have HW1 := Lib.hid hW1
  clear h b0 hb1 hz hW1
  go_enter Try.func7, Try.ntmps7
  go_wp2_with fail
  rw [HW1.out]
  refine HN.out.mono ?_
  rintro e w1 ⟨b, rfl, hbw, hc, hb⟩
  have HBE := Lib.hid (l3Bent_any b w1 hc)
  have B1 := Lib.hid (HB0.out.under hb HB0.out.lt)
  have HBB := Lib.hid (HB1.out.trans (hb.mono HB1.out.size))
  have hsz := hb.size
  clear hc hb
  go_wp2_with fail
  refine HBE.out.mono ?_
  rintro e w2 ⟨t, L, A, c, d, fp, rfl, hot, hfp, hwt, hc2, hg⟩
  have hzz := HZ.out
  have hbx := B1.out.grown hg (fun e => by injection e with e; omega)
  have hbel := below_of_grown HBB.out hg HBB.out.size (by omega)
  obtain ⟨q, hq⟩ : ∃ y, t.top.kind = y := ⟨_, rfl⟩
  obtain ⟨n, hn⟩ : ∃ y, t.top.labels.length = y := ⟨_, rfl⟩
  obtain ⟨m, hm⟩ : ∃ y, t.kids.length = y := ⟨_, rfl⟩
  rw [hq, hn, hm] at hot
  rw [hq, hn, hm]
  obtain ⟨U, hU⟩ : ∃ U, ((w2.setCell ⟨H, 0, none⟩ (.int .i64 q)).setCell ⟨H, 1, none⟩ (.slice L n c)).setCell ⟨H, 2, none⟩ (.slice A m d) = U := ⟨_, rfl⟩
  have hst : Box3 U H 27 (.int .i64 q) (.slice L n c) (.slice A m d) := by rw [← hU]; exact ((hbx.set0 _).set1 _).set2 _
  have hgU : w2.grownBy U (some H) := by rw [← hU]; exact grown_set (grown_set (grown_set (World.grownBy.refl _ _) _) _) _
  have hR : DrawnT w (.returned (.agg #[.int .i64 q, .slice L n c, .slice A m d])) U := by
    subst hq hn hm
    exact ⟨t, L, A, c, d, fp, rfl, hot.keep hgU (fun x hx e => by injection e with e; have := hfp x hx; omega), hwt, hbel.grown hgU hbel.size (fun g hg => by injection hg with hg; omega)⟩
  have HR := Lib.hid hR
  have r0 := hbx.c0
  have r1 := hbx.c1
  have r2 := hbx.c2
  have s0 := hbx.free 0
  have s1 := hbx.free 1
  have s2 := hbx.free 2
  have t0 := hst.c0
  have t1 := hst.c1
  have t2 := hst.c2
  have HU := Lib.hid hU
  clear hot hfp hwt hc2 hg hbx hbel hst hgU hU hR hq hn hm
  go_wp2_with fail
  rw [HU.out]
  exact bodyPost_ret (v := .agg #[.int .i64 q, .slice L n c, .slice A m d]) (by simp [results, Try.results7, go_sem, t0, t1, t2]) rfl HR.out

set_option maxHeartbeats 1600000 in
set_option maxRecDepth 100000 in
theorem l1Turned_any (b g c : Nat) (s : ByteArray) (xs : List ByteArray) (w : World) (hcur : Cur w b) (hsl : Sl w (some ⟨g, 0, none⟩) (xs.map Value.string)) (hg : g ≠ b) (h1 : 1 ≤ xs.length) (h2 : xs.length ≤ 1000000) (hx : ∀ x ∈ xs, x.size ≤ 1) (hs : s.size ≤ 90000) :
    Calls Try.prog 32 #[.pointer (some ⟨b, 0, none⟩), .string s, .slice (some ⟨g, 0, none⟩) xs.length c] w (TurnP b 100000 w) := by
  have HC := Lib.hid hcur
  have HS := Lib.hid hsl
  have HX := Lib.hid hx
  have hl0 : ¬ 9223372036854775807 < (s.size : Int) + 1 := by omega
  clear hcur hsl hx
  go_enter Try.func32, Try.ntmps32
  go_wp2_with fail
  refine (l1Below_any b ((s.size : Int) + 1) w HC.out (by omega) (by omega)).mono ?_
  rintro e w1 ⟨x, rfl, hx0, hx1, hc, hgr⟩
  obtain ⟨p, rfl⟩ : ∃ j : Nat, x = (j : Int) := ⟨x.toNat, by omega⟩
  have hp : p ≤ s.size := by omega
  have HS1 := Lib.hid (HS.out.grown hgr hg)
  have HC1 := Lib.hid hc
  have HG1 := Lib.hid hgr
  clear hc hgr hx1 hl0
  go_wp2_with fail
  refine (l1Below_any b 6 w1 HC1.out (by omega) (by omega)).mono ?_
  rintro e w2 ⟨y, rfl, hy0, hy1, hc, hgr⟩
  have HS2 := Lib.hid (HS1.out.grown hgr hg)
  have HC2 := Lib.hid hc
  have HG2 := Lib.hid (grown_trans_row HG1.out hgr)
  clear hc hgr
  have hpi : (p : Int) ≤ (s.size : Int) := by omega
  have e1 : (s.extract 0 p).size = p := by rw [ByteArray.size_extract]; omega
  have e2 : (s.extract p s.size).size = s.size - p := by rw [ByteArray.size_extract]; omega
  by_cases c0 : y = 0
  · subst c0
    have HC3 : Hid (Cur w2.drew b) := Lib.hid (cur_heap HC2.out rfl)
    have HS3 : Hid (Sl w2.drew (some ⟨g, 0, none⟩) (xs.map Value.string)) := Lib.hid (sl_heap HS2.out rfl)
    have HG3 : Hid (w.grownBy w2.drew (some b)) := Lib.hid (grown_heap HG2.out rfl rfl rfl rfl)
    have HP := Lib.hid (l1Pick_any b g c xs w2.drew HC3.out HS3.out hg h1 h2)
    clear HC HS HC1 HG1 HS1 HC2 HS2 HG2
    go_wp2_with fail
    go_region_held3 (fun _ => True) (trivial) ((go_at_call 46; refine HP.out.mono ?_; rintro e w3 ⟨u, hu, rfl, hc, hgr⟩; obtain ⟨z, hz, rfl⟩ := List.mem_map.1 hu; have hz1 := HX.out z hz; have hzz : (s.extract 0 p ++ z ++ s.extract p s.size).size ≤ 100000 := (by rw [ByteArray.size_append, ByteArray.size_append, e1, e2]; omega); have HR : Hid (TurnP b 100000 w (.returned (.string (s.extract 0 p ++ z ++ s.extract p s.size))) w3) := Lib.hid ⟨_, rfl, hzz, hc, grown_trans_row HG3.out hgr⟩; have hc1 : ¬ 9223372036854775807 < (s.extract 0 p).size + z.size := (by omega); have hc2 : ¬ 9223372036854775807 < (s.extract 0 p).size + z.size + (s.extract p s.size).size := (by omega); have hc3 : ¬ 9223372036854775807 < min p s.size + z.size := (by omega); have hc4 : ¬ 9223372036854775807 < min p s.size + z.size + (s.size - p) := (by omega); have hc5 : ¬ 9223372036854775807 < p + z.size := (by omega); have hc6 : ¬ 9223372036854775807 < p + z.size + (s.size - p) := (by omega); clear hc hgr hu hz hzz))
    go_wp2_with fail
    go_ret
    exact HR.out
  by_cases c1 : y = 1
  · subst c1
    have HR : Hid (TurnP b 100000 w (.returned (.string (s.extract 0 p))) w2) := Lib.hid ⟨_, rfl, by omega, HC2.out, HG2.out⟩
    go_wp2_with fail
    go_ret
    exact HR.out
  · have HR : Hid (TurnP b 100000 w (.returned (.string s)) w2) := Lib.hid ⟨_, rfl, by omega, HC2.out, HG2.out⟩
    go_wp2_with fail
    go_ret
    exact HR.out

def turns7 : List ByteArray := [⟨#[40]⟩, ⟨#[93]⟩, ⟨#[123]⟩, ⟨#[58]⟩, ⟨#[97]⟩, ⟨#[73]⟩, ⟨#[44]⟩]
theorem turns7_bd : ∀ x ∈ turns7, x.size ≤ 1 := by decide
theorem txtV_le (t : Ty) : (txtV t).length ≤ 4 * wt t + 2 := by
  unfold txtV
  split
  · exact txt_le t
  · simp

set_option maxHeartbeats 1600000 in
set_option maxRecDepth 100000 in
theorem drawParseT_any (A0 : Option Addr) (cap : Nat) (bs : List UInt8) (w : World) (h : Code w A0 bs) : Calls Try.prog 13 #[.slice A0 bs.length cap] w (DrawnS w) := by
  have HN := Lib.hid (l1New_any A0 cap bs w h.1 h.2)
  clear h
  go_enter Try.func13, Try.ntmps13
  go_wp2_with fail
  refine HN.out.mono ?_
  rintro e w1 ⟨b, rfl, hbw, hc, hb⟩
  have HBE := Lib.hid (l3Bent_any b w1 hc)
  have HBB := Lib.hid hb
  have hsz := hb.size
  clear hc hb HN
  go_wp2_with fail
  refine HBE.out.mono ?_
  rintro e w2 ⟨t, L, A, c, d, fp, rfl, hot, hfp, hwt, hc2, hg⟩
  have HB2 := Lib.hid (below_of_grown HBB.out hg HBB.out.size (by omega))
  have HF := Lib.hid (specFormat_any t w2 _ hot.reads (by omega))
  have HC2 := Lib.hid hc2
  have htl : (txtV t).length ≤ 90000 := by have := txtV_le t; omega
  generalize t.top.kind = q at HF ⊢
  generalize t.top.labels.length = n at HF ⊢
  generalize t.kids.length = m at HF ⊢
  clear hot hfp hwt hc2 hg HBE
  go_wp2_with fail
  refine HF.out.mono ?_
  rintro e w3 ⟨rfl, hb3⟩
  obtain ⟨s, hs⟩ : ∃ s : ByteArray, (⟨(txtV t).toArray⟩ : ByteArray) = s := ⟨_, rfl⟩
  have hss : s.size ≤ 90000 := by rw [← hs]; exact htl
  rw [hs]
  have hal : Below w3.heap.size w3 (w3.alloc (.cells #[.string ⟨#[40]⟩, .string ⟨#[93]⟩, .string ⟨#[123]⟩, .string ⟨#[58]⟩, .string ⟨#[97]⟩, .string ⟨#[73]⟩, .string ⟨#[44]⟩] 9)) := (Below.refl _ _).alloc (Nat.le_refl _) _
  have hsl : Sl (w3.alloc (.cells #[.string ⟨#[40]⟩, .string ⟨#[93]⟩, .string ⟨#[123]⟩, .string ⟨#[58]⟩, .string ⟨#[97]⟩, .string ⟨#[73]⟩, .string ⟨#[44]⟩] 9)) (some ⟨w3.heap.size, 0, none⟩) (turns7.map Value.string) := sl_new w3 #[.string ⟨#[40]⟩, .string ⟨#[93]⟩, .string ⟨#[123]⟩, .string ⟨#[58]⟩, .string ⟨#[97]⟩, .string ⟨#[73]⟩, .string ⟨#[44]⟩] 9
  have hlt := HC2.out.lt
  have h3 := hb3.size
  have HT := Lib.hid (l1Turned_any b w3.heap.size 7 s turns7 _ ((HC2.out.below hb3).below hal) hsl (by omega) (by decide) (by decide) turns7_bd hss)
  have HB4 := Lib.hid ((HB2.out.trans (hb3.mono HB2.out.size)).trans (hal.mono (by have := HB2.out.size; omega)))
  clear hal hsl hlt h3 hb3 HF hs HC2 htl
  go_wp2_with fail
  refine HT.out.mono ?_
  rintro e w5 ⟨z, rfl, hz, hc5, hg5⟩
  have HR : Hid (DrawnS w (.returned (.string z)) w5) := ⟨z, rfl, hz, below_of_grown HB4.out hg5 HB4.out.size hbw⟩
  clear hz hc5 hg5
  go_wp2_with fail
  go_ret
  exact HR.out
end Go.Proofs.Ytffaggiblglcbaa
