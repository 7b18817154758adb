/-
  Merged by program: TTxtL, Format.
-/
import Derived.Test.YtkchjinfjggoeaaGreatDoorF11
import Derived.Test.YtkchjinfjggoeaaGreatDoorF15
import Derived.Test.YtkchjinfjggoeaaGreatDoorF12
import Derived.Test.YtkchjinfjggoeaaGreatDoorF4
import Derived.Deep.QuietTactic
import Derived.BigQuiet
import Derived.Test.YtkchjinfjggoeaaGreatDoorShelf

/-
  The model's l8Long.
-/
namespace Go.Proofs.YtkchjinfjggoeaaGreatDoor
open Go.RowKit

theorem text_ofE {l : List UInt8} {w w' : World} {x : ByteArray} (h : x.data.toList = l) (hb : Below w.heap.size w w') : Text l w (.returned (.string x)) w' := by
  refine ⟨?_, hb⟩
  subst h
  rfl

set_option maxHeartbeats 1600000 in
set_option maxRecDepth 100000 in
theorem l8Long_two (p q tk : Int) (s : ByteArray) (ty : List UInt8) (TL TA L A V : Option Addr) (tl tc ta td l c m d lc : Nat) (u v : List UInt8) (w : World) (hV : Sl w V [.string ⟨u.toArray⟩, .string ⟨v.toArray⟩]) (hs : s.size ≤ 1048576) (hu : u.length ≤ 1073741824) (hv : v.length ≤ 1073741824) (hp : p = 9 ∨ p = 10) :
    Calls Tryz.prog 72 #[.agg #[.int .i64 p, .string s, .int .i64 q, .int .i64 tk, .slice TL tl tc, .slice TA ta td, .slice L l c, .slice A m d], .slice V 2 lc] w (Text (nodeY p s.data.toList q ty [u, v]) w) := by
  obtain ⟨W1, hW1⟩ : ∃ W1, w.alloc (.cells #[.int .i64 p, .string s, .int .i64 q, .int .i64 tk, .slice TL tl tc, .slice TA ta td, .slice L l c, .slice A m d] 30) = W1 := ⟨_, rfl⟩
  have hb0 : Below w.heap.size w W1 := by rw [← hW1]; exact (Below.refl _ _).alloc (Nat.le_refl _) _
  obtain ⟨H, hH⟩ : ∃ H, w.heap.size = H := ⟨_, rfl⟩
  have b0 : Box8 W1 H 30 (.int .i64 p) (.string s) (.int .i64 q) (.int .i64 tk) (.slice TL tl tc) (.slice TA ta td) (.slice L l c) (.slice A m d) := by rw [← hW1, ← hH]; exact Box8.new w _ _ _ _ _ _ _ _ _
  have hV1 := hV.below hb0
  obtain ⟨ad, rfl, r0⟩ := hV1 0 (.string ⟨u.toArray⟩) rfl
  obtain ⟨ad', e, r1⟩ := hV1 1 (.string ⟨v.toArray⟩) rfl
  obtain rfl : ad = ad' := by injection e
  have r0 : W1.cell? ad = some (.string ⟨u.toArray⟩) := r0
  have r1' : W1.cell? ⟨ad.block, ad.off + 1, none⟩ = some (.string ⟨v.toArray⟩) := r1
  have hus : (⟨u.toArray⟩ : ByteArray).size = u.length := rfl
  have hvs : (⟨v.toArray⟩ : ByteArray).size = v.length := rfl
  have x0 := b0.c0
  have x1 := b0.c1
  have HW1 := Lib.hid hW1
  have HB0 := Lib.hid hb0
  clear hV hV1 e b0 hW1 hb0
  rcases hp with rfl | rfl
  · have HF : Hid (∀ (x : ByteArray) (w2 : World), x.data.toList = nodeY 9 s.data.toList q ty [u, v] → Below w.heap.size w w2 → Text (nodeY 9 s.data.toList q ty [u, v]) w (.returned (.string x)) w2) := Lib.hid (fun x w2 hx hb => text_ofE hx hb)
    go_enter Tryz.func72, Tryz.ntmps72
    go_wp2_with fail
    rw [HW1.out]
    go_wp2_with fail
    go_quiet (fail)
    go_wp2_with fail
    go_ret
    exact HF.out _ _ (by simp [nodeY]) (below_drewN HB0.out _)
  · have HF : Hid (∀ (x : ByteArray) (w2 : World), x.data.toList = nodeY 10 s.data.toList q ty [u, v] → Below w.heap.size w w2 → Text (nodeY 10 s.data.toList q ty [u, v]) w (.returned (.string x)) w2) := Lib.hid (fun x w2 hx hb => text_ofE hx hb)
    go_enter Tryz.func72, Tryz.ntmps72
    go_wp2_with fail
    rw [HW1.out]
    go_wp2_with fail
    go_quiet (fail)
    go_wp2_with fail
    go_ret
    exact HF.out _ _ (by simp [nodeY]) (below_drewN HB0.out _)

set_option maxHeartbeats 1600000 in
set_option maxRecDepth 100000 in
theorem l8Long_one (p q tk : Int) (s : ByteArray) (ty : List UInt8) (TL TA L A V : Option Addr) (tl tc ta td l c m d lc : Nat) (u : List UInt8) (w : World) (hV : Sl w V [.string ⟨u.toArray⟩]) (hu : u.length ≤ 1073741824) (hp : p = 15 ∨ p = 16) :
    Calls Tryz.prog 72 #[.agg #[.int .i64 p, .string s, .int .i64 q, .int .i64 tk, .slice TL tl tc, .slice TA ta td, .slice L l c, .slice A m d], .slice V 1 lc] w (Text (nodeY p s.data.toList q ty [u]) w) := by
  obtain ⟨W1, hW1⟩ : ∃ W1, w.alloc (.cells #[.int .i64 p, .string s, .int .i64 q, .int .i64 tk, .slice TL tl tc, .slice TA ta td, .slice L l c, .slice A m d] 30) = W1 := ⟨_, rfl⟩
  have hb0 : Below w.heap.size w W1 := by rw [← hW1]; exact (Below.refl _ _).alloc (Nat.le_refl _) _
  obtain ⟨H, hH⟩ : ∃ H, w.heap.size = H := ⟨_, rfl⟩
  have b0 : Box8 W1 H 30 (.int .i64 p) (.string s) (.int .i64 q) (.int .i64 tk) (.slice TL tl tc) (.slice TA ta td) (.slice L l c) (.slice A m d) := by rw [← hW1, ← hH]; exact Box8.new w _ _ _ _ _ _ _ _ _
  have hV1 := hV.below hb0
  obtain ⟨ad, rfl, r0⟩ := hV1 0 (.string ⟨u.toArray⟩) rfl
  have r0 : W1.cell? ad = some (.string ⟨u.toArray⟩) := r0
  have hus : (⟨u.toArray⟩ : ByteArray).size = u.length := rfl
  have x0 := b0.c0
  clear hV hV1 b0 x0
  subst hW1
  have HB0 := Lib.hid hb0
  clear hb0
  rcases hp with rfl | rfl
  · have HF : Hid (∀ (x : ByteArray) (w2 : World), x.data.toList = nodeY 15 s.data.toList q ty [u] → Below w.heap.size w w2 → Text (nodeY 15 s.data.toList q ty [u]) w (.returned (.string x)) w2) := Lib.hid (fun x w2 hx hb => text_ofE hx hb)
    have hn1 : (⟨#[40, 101, 109, 112, 116, 121, 32]⟩ ++ ⟨u.toArray⟩ : ByteArray).size = u.length + 7 := by rw [ByteArray.size_append, hus]; show 7 + _ = _; omega
    have z1 : ¬ 9223372036854775807 < 7 + u.length := by omega
    have z2 : ¬ 9223372036854775807 < 7 + u.length + 1 := by omega
    go_enter Tryz.func72, Tryz.ntmps72
    go_wp2_with fail
    go_ret
    exact HF.out _ _ (by simp [nodeY]) HB0.out
  · have HF : Hid (∀ (x : ByteArray) (w2 : World), x.data.toList = nodeY 16 s.data.toList q ty [u] → Below w.heap.size w w2 → Text (nodeY 16 s.data.toList q ty [u]) w (.returned (.string x)) w2) := Lib.hid (fun x w2 hx hb => text_ofE hx hb)
    have hn1 : (⟨#[40, 99, 111, 117, 110, 116, 32]⟩ ++ ⟨u.toArray⟩ : ByteArray).size = u.length + 7 := by rw [ByteArray.size_append, hus]; show 7 + _ = _; omega
    have z1 : ¬ 9223372036854775807 < 7 + u.length := by omega
    have z2 : ¬ 9223372036854775807 < 7 + u.length + 1 := by omega
    go_enter Tryz.func72, Tryz.ntmps72
    go_wp2_with fail
    go_ret
    exact HF.out _ _ (by simp [nodeY]) HB0.out

set_option maxHeartbeats 1600000 in
set_option maxRecDepth 100000 in
theorem l8Long_join (p q tk : Int) (s : ByteArray) (ty : List UInt8) (TL TA L A V : Option Addr) (tl tc ta td l c m d lc : Nat) (ps : List (List UInt8)) (w : World) (hV : Sl w V (strsV ps)) (hn : ps.length ≤ 1048576) (hb : lenS ps + ps.length ≤ 1073741824) (hp : p = 11 ∨ p = 14) :
    Calls Tryz.prog 72 #[.agg #[.int .i64 p, .string s, .int .i64 q, .int .i64 tk, .slice TL tl tc, .slice TA ta td, .slice L l c, .slice A m d], .slice V ps.length lc] w (Text (nodeY p s.data.toList q ty ps) w) := by
  obtain ⟨W1, hW1⟩ : ∃ W1, w.alloc (.cells #[.int .i64 p, .string s, .int .i64 q, .int .i64 tk, .slice TL tl tc, .slice TA ta td, .slice L l c, .slice A m d] 30) = W1 := ⟨_, rfl⟩
  have hb0 : Below w.heap.size w W1 := by rw [← hW1]; exact (Below.refl _ _).alloc (Nat.le_refl _) _
  obtain ⟨H, hH⟩ : ∃ H, w.heap.size = H := ⟨_, rfl⟩
  have b0 : Box8 W1 H 30 (.int .i64 p) (.string s) (.int .i64 q) (.int .i64 tk) (.slice TL tl tc) (.slice TA ta td) (.slice L l c) (.slice A m d) := by rw [← hW1, ← hH]; exact Box8.new w _ _ _ _ _ _ _ _ _
  have hV1 := hV.below hb0
  have HJ : Hid (Calls Tryz.prog 70 #[.slice V ps.length lc, .string ⟨#[32]⟩] W1 (Text (Lib.join ps [32]) W1)) := Lib.hid (by
    rw [strsV_map] at hV1
    have hz : (⟨#[32]⟩ : ByteArray).size = 1 := rfl
    have h1 := total_bs ps
    have := specJoin_any V lc (ps.map bs) ⟨#[32]⟩ W1 hV1 (by rw [List.length_map]; exact hn) (by rw [hz]; decide) (by rw [List.length_map, h1, hz]; omega)
    rw [List.length_map, jn_bs] at this
    exact this)
  have hjl : (Lib.join ps [32]).length ≤ 1073741824 := by have := join_le ps 32; omega
  obtain ⟨y, hy⟩ : ∃ y, Lib.join ps [32] = y := ⟨_, rfl⟩
  rw [hy] at HJ hjl
  have HY := Lib.hid hy
  have x0 := b0.c0
  have HW1 := Lib.hid hW1
  have HB0 := Lib.hid hb0
  have hus : (⟨y.toArray⟩ : ByteArray).size = y.length := rfl
  clear hV hV1 b0 hW1 hb0 hb hy
  rcases hp with rfl | rfl
  · have HF : Hid (∀ (x : ByteArray) (w2 : World), x.data.toList = nodeY 11 s.data.toList q ty ps → Below w.heap.size w w2 → Text (nodeY 11 s.data.toList q ty ps) w (.returned (.string x)) w2) := Lib.hid (fun x w2 hx hb => text_ofE hx hb)
    go_enter Tryz.func72, Tryz.ntmps72
    go_wp2_with fail
    rw [HW1.out]
    go_wp2_with fail
    refine HJ.out.mono ?_
    rintro e w2 ⟨rfl, hb2⟩
    have HB2 := Lib.hid (HB0.out.trans (hb2.mono HB0.out.size))
    clear hb2 x0
    go_wp2_with fail
    go_ret
    exact HF.out _ _ (by simp [nodeY, HY.out]) HB2.out
  · have HF : Hid (∀ (x : ByteArray) (w2 : World), x.data.toList = nodeY 14 s.data.toList q ty ps → Below w.heap.size w w2 → Text (nodeY 14 s.data.toList q ty ps) w (.returned (.string x)) w2) := Lib.hid (fun x w2 hx hb => text_ofE hx hb)
    go_enter Tryz.func72, Tryz.ntmps72
    go_wp2_with fail
    rw [HW1.out]
    go_wp2_with fail
    refine HJ.out.mono ?_
    rintro e w2 ⟨rfl, hb2⟩
    have HB2 := Lib.hid (HB0.out.trans (hb2.mono HB0.out.size))
    clear hb2 x0
    go_wp2_with fail
    go_ret
    exact HF.out _ _ (by simp [nodeY, HY.out]) HB2.out

set_option maxHeartbeats 3200000 in
set_option maxRecDepth 100000 in
theorem l8Long_lam (q tk : Int) (s : ByteArray) (t : Ty) (TL TA L A V : Option Addr) (tl tc ta td l c m d lc : Nat) (u : List UInt8) (w : World) (hV : Sl w V [.string ⟨u.toArray⟩]) (hu : u.length ≤ 1073741824) (hs : s.size ≤ 1048576) (hT : RTy w t [.int .i64 tk, .slice TL tl tc, .slice TA ta td]) (hf : t.form = true) (hw : wt t ≤ 1048576) :
    Calls Tryz.prog 72 #[.agg #[.int .i64 13, .string s, .int .i64 q, .int .i64 tk, .slice TL tl tc, .slice TA ta td, .slice L l c, .slice A m d], .slice V 1 lc] w (Text (nodeY 13 s.data.toList q t.txt [u]) w) := by
  obtain ⟨W1, hW1⟩ : ∃ W1, w.alloc (.cells #[.int .i64 13, .string s, .int .i64 q, .int .i64 tk, .slice TL tl tc, .slice TA ta td, .slice L l c, .slice A m d] 30) = W1 := ⟨_, rfl⟩
  have hb0 : Below w.heap.size w W1 := by rw [← hW1]; exact (Below.refl _ _).alloc (Nat.le_refl _) _
  obtain ⟨H, hH⟩ : ∃ H, w.heap.size = H := ⟨_, rfl⟩
  have b0 : Box8 W1 H 30 (.int .i64 13) (.string s) (.int .i64 q) (.int .i64 tk) (.slice TL tl tc) (.slice TA ta td) (.slice L l c) (.slice A m d) := by rw [← hW1, ← hH]; exact Box8.new w _ _ _ _ _ _ _ _ _
  have hV1 := hV.below hb0
  obtain ⟨ad, rfl, r0⟩ := hV1 0 (.string ⟨u.toArray⟩) rfl
  have r0 : W1.cell? ad = some (.string ⟨u.toArray⟩) := r0
  have hus : (⟨u.toArray⟩ : ByteArray).size = u.length := rfl
  have HC := Lib.hid (specText_any t W1.drew _ ((hT.keep hb0).keep (show Below W1.heap.size W1 W1.drew from (Below.refl _ _).drew)) hf hw)
  have htl := txt_le t
  have HALL : Hid (∀ W, Below W1.drew.heap.size W1.drew W → W.cell? ⟨H, 1, none⟩ = some (.string s) ∧ W.cell? ⟨H, 3, none⟩ = some (.int .i64 tk) ∧ W.cell? ⟨H, 4, none⟩ = some (.slice TL tl tc) ∧ W.cell? ⟨H, 5, none⟩ = some (.slice TA ta td) ∧ W.cell? ad = some (.string ⟨u.toArray⟩)) := Lib.hid (fun W hb => by
    have up : ∀ (p : Addr) (u : Value), W1.cell? p = some u → W.cell? p = some u := fun p u h => (hb.cell (World.block_lt_of_cell? W1.drew _ h)).trans h
    exact ⟨up _ _ b0.c1, up _ _ b0.c3, up _ _ b0.c4, up _ _ b0.c5, up _ _ r0⟩)
  obtain ⟨y, hy⟩ : ∃ y, t.txt = y := ⟨_, rfl⟩
  rw [hy] at HC htl
  have hyl : y.length ≤ 5000000 := by omega
  have hys : (⟨y.toArray⟩ : ByteArray).size = y.length := rfl
  have HF : Hid (∀ (x : ByteArray) (w2 : World), x.data.toList = nodeY 13 s.data.toList q y [u] → Below w.heap.size w w2 → Text (nodeY 13 s.data.toList q t.txt [u]) w (.returned (.string x)) w2) := Lib.hid (fun x w2 hx hb => by rw [hy]; exact text_ofE hx hb)
  have x0 := b0.c0
  have HW1 := Lib.hid hW1
  have HB0 := Lib.hid hb0.drew
  have z1 : ¬ 9223372036854775807 < 2 + s.size := by omega
  have z2 : ¬ 9223372036854775807 < 2 + s.size + 1 := by omega
  have z3 : ¬ 9223372036854775807 < 2 + s.size + 1 + y.length := by omega
  have z4 : ¬ 9223372036854775807 < 2 + s.size + 1 + y.length + 1 := by omega
  have z5 : ¬ 9223372036854775807 < 2 + s.size + 1 + y.length + 1 + u.length := by omega
  have z6 : ¬ 9223372036854775807 < 2 + s.size + 1 + y.length + 1 + u.length + 1 := by omega
  obtain ⟨q1, q2, q3, q4, q5⟩ := HALL.out W1.drew (Below.refl _ _)
  clear hV hV1 b0 hW1 hb0 hT hf hw hy htl
  go_enter Tryz.func72, Tryz.ntmps72
  go_wp2_with fail
  rw [HW1.out]
  go_wp2_with fail
  go_region_held3 (fun W => W.cell? ⟨H, 1, none⟩ = some (.string s) ∧ W.cell? ⟨H, 3, none⟩ = some (.int .i64 tk) ∧ W.cell? ⟨H, 4, none⟩ = some (.slice TL tl tc) ∧ W.cell? ⟨H, 5, none⟩ = some (.slice TA ta td) ∧ W.cell? ad = some (.string ⟨u.toArray⟩))
    (first | (refine ⟨?_, ?_, ?_, ?_, ?_⟩ <;> assumption) | go_keep)
    (first
      | (go_at_call 71; refine HC.out.mono ?_; rintro e w5 ⟨rfl, hb5⟩; have HB5 := Lib.hid (HB0.out.trans (hb5.mono HB0.out.size)); obtain ⟨p1, p2, p3, p4, p5⟩ := HALL.out w5 hb5; clear hb5 HC))
  go_wp2_with fail
  go_ret
  exact HF.out _ _ (by simp [nodeY]) HB5.out
end Go.Proofs.YtkchjinfjggoeaaGreatDoor

/-
  The decimal representation: the model's FormatInt and the program's give the same text, for every integer.
-/
namespace Go.Proofs.YtkchjinfjggoeaaGreatDoor
open Go.RowKit

set_option maxRecDepth 100000 in
set_option maxHeartbeats 1600000 in
theorem specFmtInt_any (n : Int) (h0 : -9223372036854775808 ≤ n) (h1 : n ≤ 9223372036854775807) (w : World) :
    Calls Tryz.prog 69 #[.int .i64 n] w (Text (Lib.itoa n) w) := by
  by_cases hz : n = 0
  · subst hz
    have H := Lib.hid itoa_zero
    go_enter Tryz.func69, Tryz.ntmps69
    go_wp2
    go_ret
    exact ⟨(congrArg (fun l : List UInt8 => Ending.returned (.string ⟨l.toArray⟩)) H.out).symm, Below.refl _ _⟩
  · by_cases hneg : n < 0
    · have HI := Lib.hid (itoa_neg n hneg)
      have hz0 : (n == 0) = false := by simpa using hz
      go_enter Tryz.func69, Tryz.ntmps69
      go_wp2
      go_loopw [0, 4] (fun v o wr => FInv n w v o wr) (fun v _ _ => (intOf v).natAbs)
      case atStart => exact ⟨n, [], rfl, rfl, h0, h1, fun h => by omega, fun h => by omega, by simp, Below.refl _ _⟩
      case round =>
        obtain ⟨m, l, rfl, rfl, hm0, hm1, hs1, hs2, hd, hb⟩ := hrel
        have hm2 : m ≤ 0 := hs1 hneg
        have hl : l.length ≤ 19 := by
          have h2 := digs_len n.natAbs (by omega)
          rw [hd, List.length_append] at h2
          omega
        have HD := Lib.hid hd
        clear hd hs1 hs2
        by_cases hm : m < 0
        · have hcv := run_text_one wr
          have ht := tmod_neg m hm
          have ht1 := ht.1
          have ht2 := ht.2.1
          have HT := Lib.hid ht.2.2
          clear ht
          by_cases hd0 : m.tmod 10 < 0
          · go_wp2
            go_roundw
            case rel => exact finv_neg hneg hm0 hm HD.out (hb.alloc hb.size _) rfl _ rfl
            case measure => have := HT.out.2; simp only [intOf]; omega
          · go_wp2
            go_roundw
            case rel => exact finv_neg hneg hm0 hm HD.out (hb.alloc hb.size _) (by omega) _ rfl
            case measure => have := HT.out.2; simp only [intOf]; omega
        · have he : m = 0 := by omega
          subst he
          have HF : Hid (Ending.returned (.string (⟨#[45]⟩ ++ ⟨l.toArray⟩)) = Ending.returned (.string ⟨(Lib.itoa n).toArray⟩)) := by
            have e : l = digs n.natAbs := by rw [HD.out]; rfl
            rw [HI.out, push_front, e]; rfl
          go_wp2
          go_ret
          exact ⟨HF.out, hb⟩
    · have hpos : 0 < n := by omega
      have HI := Lib.hid (itoa_pos n hpos)
      have hz0 : (n == 0) = false := by simpa using hz
      have hn0 : ¬ n < 0 := hneg
      go_enter Tryz.func69, Tryz.ntmps69
      go_wp2
      go_loopw [0, 4] (fun v o wr => FInv n w v o wr) (fun v _ _ => (intOf v).natAbs)
      case atStart => exact ⟨n, [], rfl, rfl, h0, h1, fun h => by omega, fun h => by omega, by simp, Below.refl _ _⟩
      case round =>
        obtain ⟨m, l, rfl, rfl, hm0, hm1, hs1, hs2, hd, hb⟩ := hrel
        have hm2 : 0 ≤ m := hs2 hpos
        have hl : l.length ≤ 19 := by
          have h2 := digs_len n.natAbs (by omega)
          rw [hd, List.length_append] at h2
          omega
        have HD := Lib.hid hd
        clear hd hs1 hs2
        by_cases hm : 0 < m
        · have hcv := run_text_one wr
          have HT := Lib.hid (tmod_pos m hm)
          go_wp2
          go_roundw
          case rel => exact finv_pos hpos hm1 hm HD.out (hb.alloc hb.size _) rfl _ rfl
          case measure => have := HT.out.2; simp only [intOf]; omega
        · have he : m = 0 := by omega
          subst he
          have HF : Hid (Ending.returned (.string ⟨l.toArray⟩) = Ending.returned (.string ⟨(Lib.itoa n).toArray⟩)) := by
            have e : l = digs n.natAbs := by rw [HD.out]; rfl
            rw [HI.out, e]; rfl
          go_wp2
          go_ret
          exact ⟨HF.out, hb⟩
end Go.Proofs.YtkchjinfjggoeaaGreatDoor
