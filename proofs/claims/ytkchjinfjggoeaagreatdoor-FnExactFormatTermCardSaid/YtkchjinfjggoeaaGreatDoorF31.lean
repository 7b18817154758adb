/-
  Merged by program: TArI.
-/
import Derived.Test.YtkchjinfjggoeaaGreatDoorF22
import Derived.Test.YtkchjinfjggoeaaGreatDoorF23
import Derived.Test.YtkchjinfjggoeaaGreatDoorF30
import Derived.Test.YtkchjinfjggoeaaGreatDoorF4
import Derived.Deep.RegionHeld3

/-
  The program's textsAroundArgs: what stands around a node's parts, kind by kind. Written by mktari.py.
-/
namespace Go.Proofs.YtkchjinfjggoeaaGreatDoor
open Go.RowKit

theorem txtV_valid {t : Ty} (h : validB t = true) : txtV t = t.txt := by
  unfold txtV
  rw [h]
  rfl

theorem rowAt_two {w W : World} (hb : Below w.heap.size w W) (x y : ByteArray) {a b : List UInt8} (h1 : x.data.toList = a) (h2 : y.data.toList = b) : RowAt [a, b] w (.returned (.slice (some ⟨W.heap.size, 0, none⟩) 2 2)) (W.alloc (.cells #[.string x, .string y] 9)) := rowAt_lit hb [x, y] (by rw [← h1, ← h2]; rfl)

set_option maxRecDepth 100000 in
set_option maxHeartbeats 1600000 in
theorem around_1 (nm : ByteArray) (q tk : Int) (TL TA L A : Option Addr) (tl tc ta td ll c nk d : Nat) (w : World) :
    Calls Tryz.prog 98 #[.agg #[.int .i64 1, .string nm, .int .i64 q, .int .i64 tk, .slice TL tl tc, .slice TA ta td, .slice L ll c, .slice A nk d]] w (RowAt [(nm.data.toList)] w) := by
  obtain ⟨W1, hW1⟩ : ∃ W1, w.alloc (.cells #[.int .i64 1, .string nm, .int .i64 q, .int .i64 tk, .slice TL tl tc, .slice TA ta td, .slice L ll c, .slice A nk d] 30) = W1 := ⟨_, rfl⟩
  have hb1 : Below w.heap.size w W1 := by rw [← hW1]; exact (Below.refl _ _).alloc (Nat.le_refl _) _
  have hsz : W1.heap.size = w.heap.size + 1 := by rw [← hW1]; simp
  have HF : Hid (RowAt [(nm.data.toList)] w (.returned (.slice (some ⟨w.heap.size + 1, 0, none⟩) 1 1)) (W1.alloc (.cells #[.string (nm)] 9))) := Lib.hid (hsz ▸ rowAt_lit hb1 [nm] (by rfl))
  have HW1 := Lib.hid hW1
  clear hW1 hb1 hsz
  go_enter Tryz.func98, Tryz.ntmps98
  go_wp2_with fail
  rw [HW1.out]
  go_ret
  exact HF.out

set_option maxRecDepth 100000 in
set_option maxHeartbeats 1600000 in
theorem around_2 (nm : ByteArray) (q tk : Int) (TL TA L A : Option Addr) (tl tc ta td ll c nk d : Nat) (w : World) (hn0 : -9223372036854775808 ≤ q) (hn1 : q ≤ 9223372036854775807) (htab : TabOk w) :
    Calls Tryz.prog 98 #[.agg #[.int .i64 2, .string nm, .int .i64 q, .int .i64 tk, .slice TL tl tc, .slice TA ta td, .slice L ll c, .slice A nk d]] w (RowAt [(Lib.itoa q)] w) := by
  obtain ⟨W1, hW1⟩ : ∃ W1, w.alloc (.cells #[.int .i64 2, .string nm, .int .i64 q, .int .i64 tk, .slice TL tl tc, .slice TA ta td, .slice L ll c, .slice A nk d] 30) = W1 := ⟨_, rfl⟩
  have hb1 : Below w.heap.size w W1 := by rw [← hW1]; exact (Below.refl _ _).alloc (Nat.le_refl _) _
  obtain ⟨H, hH⟩ : ∃ H, w.heap.size = H := ⟨_, rfl⟩
  have hbox : Box8 W1 H 30 (.int .i64 2) (.string nm) (.int .i64 q) (.int .i64 tk) (.slice TL tl tc) (.slice TA ta td) (.slice L ll c) (.slice A nk d) := by rw [← hW1, ← hH]; exact Box8.new w _ _ _ _ _ _ _ _ _
  have x0 := hbox.c0
  have x1 := hbox.c1
  have x2 := hbox.c2
  have x3 := hbox.c3
  have x4 := hbox.c4
  have x5 := hbox.c5
  have x6 := hbox.c6
  have x7 := hbox.c7
  have HC := Lib.hid (implFmtInt_any q hn0 hn1 W1 (htab.keep hb1).1)
  have HF : Hid (∀ W : World, Below w.heap.size w W → RowAt [(Lib.itoa q)] w (.returned (.slice (some ⟨W.heap.size, 0, none⟩) 1 1)) (W.alloc (.cells #[.string (⟨(Lib.itoa q).toArray⟩)] 9))) := Lib.hid (fun W hB => rowAt_lit hB [⟨(Lib.itoa q).toArray⟩] (by rfl))
  have HW1 := Lib.hid hW1
  have HB1 := Lib.hid hb1
  clear hW1 hb1 hbox hH hn0 hn1 htab  
  go_enter Tryz.func98, Tryz.ntmps98
  go_wp2_with fail
  rw [HW1.out]
  go_wp2_with fail
  refine HC.out.mono ?_
  rintro e w2 ⟨rfl, hb2⟩
  have HF2 := Lib.hid (HF.out w2 (HB1.out.trans (hb2.mono HB1.out.size)))
  clear hb2 HF
  go_wp2_with fail
  go_ret
  exact HF2.out

set_option maxRecDepth 100000 in
set_option maxHeartbeats 1600000 in
theorem around_3 (nm : ByteArray) (q tk : Int) (TL TA L A : Option Addr) (tl tc ta td ll c nk d : Nat) (w : World) :
    Calls Tryz.prog 98 #[.agg #[.int .i64 3, .string nm, .int .i64 q, .int .i64 tk, .slice TL tl tc, .slice TA ta td, .slice L ll c, .slice A nk d]] w (RowAt [(boolT q)] w) := by
  obtain ⟨W1, hW1⟩ : ∃ W1, w.alloc (.cells #[.int .i64 3, .string nm, .int .i64 q, .int .i64 tk, .slice TL tl tc, .slice TA ta td, .slice L ll c, .slice A nk d] 30) = W1 := ⟨_, rfl⟩
  have hb1 : Below w.heap.size w W1 := by rw [← hW1]; exact (Below.refl _ _).alloc (Nat.le_refl _) _
  obtain ⟨H, hH⟩ : ∃ H, w.heap.size = H := ⟨_, rfl⟩
  have hbox : Box8 W1 H 30 (.int .i64 3) (.string nm) (.int .i64 q) (.int .i64 tk) (.slice TL tl tc) (.slice TA ta td) (.slice L ll c) (.slice A nk d) := by rw [← hW1, ← hH]; exact Box8.new w _ _ _ _ _ _ _ _ _
  have x0 := hbox.c0
  have x1 := hbox.c1
  have x2 := hbox.c2
  have x3 := hbox.c3
  have x4 := hbox.c4
  have x5 := hbox.c5
  have x6 := hbox.c6
  have x7 := hbox.c7
  have HC := Lib.hid (textBool_any q W1)
  have HF : Hid (∀ W : World, Below w.heap.size w W → RowAt [(boolT q)] w (.returned (.slice (some ⟨W.heap.size, 0, none⟩) 1 1)) (W.alloc (.cells #[.string (⟨(boolT q).toArray⟩)] 9))) := Lib.hid (fun W hB => rowAt_lit hB [⟨(boolT q).toArray⟩] (by rfl))
  have HW1 := Lib.hid hW1
  have HB1 := Lib.hid hb1
  clear hW1 hb1 hbox hH   
  go_enter Tryz.func98, Tryz.ntmps98
  go_wp2_with fail
  rw [HW1.out]
  go_wp2_with fail
  refine HC.out.mono ?_
  rintro e w2 ⟨rfl, hb2⟩
  have HF2 := Lib.hid (HF.out w2 (HB1.out.trans (hb2.mono HB1.out.size)))
  clear hb2 HF
  go_wp2_with fail
  go_ret
  exact HF2.out

set_option maxRecDepth 100000 in
set_option maxHeartbeats 1600000 in
theorem around_4 (nm : ByteArray) (q tk : Int) (TL TA L A : Option Addr) (tl tc ta td ll c nk d : Nat) (w : World) (hs : nm.size ≤ 1048576) :
    Calls Tryz.prog 98 #[.agg #[.int .i64 4, .string nm, .int .i64 q, .int .i64 tk, .slice TL tl tc, .slice TA ta td, .slice L ll c, .slice A nk d]] w (RowAt (opY nm.data.toList (decide (arB nm = 1))) w) := by
  obtain ⟨W1, hW1⟩ : ∃ W1, w.alloc (.cells #[.int .i64 4, .string nm, .int .i64 q, .int .i64 tk, .slice TL tl tc, .slice TA ta td, .slice L ll c, .slice A nk d] 30) = W1 := ⟨_, rfl⟩
  have hb1 : Below w.heap.size w W1 := by rw [← hW1]; exact (Below.refl _ _).alloc (Nat.le_refl _) _
  obtain ⟨H, hH⟩ : ∃ H, w.heap.size = H := ⟨_, rfl⟩
  have hbox : Box8 W1 H 30 (.int .i64 4) (.string nm) (.int .i64 q) (.int .i64 tk) (.slice TL tl tc) (.slice TA ta td) (.slice L ll c) (.slice A nk d) := by rw [← hW1, ← hH]; exact Box8.new w _ _ _ _ _ _ _ _ _
  have x0 := hbox.c0
  have x1 := hbox.c1
  have x2 := hbox.c2
  have x3 := hbox.c3
  have x4 := hbox.c4
  have x5 := hbox.c5
  have x6 := hbox.c6
  have x7 := hbox.c7
  have HW1 := Lib.hid hW1
  have HB1 := Lib.hid hb1
  have HC := Lib.hid (operands_any nm W1 hs)
  clear hW1 hb1 hbox hH hs
  generalize opY nm.data.toList (decide (arB nm = 1)) = N at HC ⊢
  go_enter Tryz.func98, Tryz.ntmps98
  go_wp2_with fail
  rw [HW1.out]
  go_wp2_with fail
  refine HC.out.mono ?_
  rintro e w2 hRow
  obtain ⟨g, lc, rfl, h2, h3, h4⟩ := hRow
  have HF : Hid (RowAt N w (.returned (.slice (some ⟨g, 0, none⟩) N.length lc)) w2) := Lib.hid ((show RowAt N W1 _ w2 from ⟨g, lc, rfl, h2, h3, h4⟩).after HB1.out)
  clear h2 h3 h4
  generalize N.length = nN at HF ⊢
  go_wp2_with fail
  go_ret
  exact HF.out

set_option maxRecDepth 100000 in
set_option maxHeartbeats 1600000 in
theorem around_5 (nm : ByteArray) (q tk : Int) (TL TA L A : Option Addr) (tl tc ta td ll c nk d : Nat) (w : World) (ls : List ByteArray) (hL : Sl w L (ls.map Value.string)) (hll : ls.length = ll) (hn : ls.length ≤ 1048576) (hx : ∀ x ∈ ls, x.size ≤ 1048576) :
    Calls Tryz.prog 98 #[.agg #[.int .i64 5, .string nm, .int .i64 q, .int .i64 tk, .slice TL tl tc, .slice TA ta td, .slice L ll c, .slice A nk d]] w (RowAt (fieldsY 123 ls) w) := by
  obtain ⟨W1, hW1⟩ : ∃ W1, w.alloc (.cells #[.int .i64 5, .string nm, .int .i64 q, .int .i64 tk, .slice TL tl tc, .slice TA ta td, .slice L ll c, .slice A nk d] 30) = W1 := ⟨_, rfl⟩
  have hb1 : Below w.heap.size w W1 := by rw [← hW1]; exact (Below.refl _ _).alloc (Nat.le_refl _) _
  subst hll
  obtain ⟨H, hH⟩ : ∃ H, w.heap.size = H := ⟨_, rfl⟩
  have hbox : Box8 W1 H 30 (.int .i64 5) (.string nm) (.int .i64 q) (.int .i64 tk) (.slice TL tl tc) (.slice TA ta td) (.slice L ls.length c) (.slice A nk d) := by rw [← hW1, ← hH]; exact Box8.new w _ _ _ _ _ _ _ _ _
  have x0 := hbox.c0
  have x1 := hbox.c1
  have x2 := hbox.c2
  have x3 := hbox.c3
  have x4 := hbox.c4
  have x5 := hbox.c5
  have x6 := hbox.c6
  have x7 := hbox.c7
  have HW1 := Lib.hid hW1
  have HB1 := Lib.hid hb1
  have HC := Lib.hid (fieldsAround_any ls W1 L c (hL.below hb1) hn hx)
  clear hW1 hb1 hbox hH hL hn hx
  generalize fieldsY 123 ls = N at HC ⊢
  generalize ls.length = ln at HC HW1 x6 ⊢
  go_enter Tryz.func98, Tryz.ntmps98
  go_wp2_with fail
  rw [HW1.out]
  go_wp2_with fail
  refine HC.out.mono ?_
  rintro e w2 hRow
  obtain ⟨g, lc, rfl, h2, h3, h4⟩ := hRow
  have HF : Hid (RowAt N w (.returned (.slice (some ⟨g, 0, none⟩) N.length lc)) w2) := Lib.hid ((show RowAt N W1 _ w2 from ⟨g, lc, rfl, h2, h3, h4⟩).after HB1.out)
  clear h2 h3 h4
  generalize N.length = nN at HF ⊢
  go_wp2_with fail
  go_ret
  exact HF.out

set_option maxRecDepth 100000 in
set_option maxHeartbeats 1600000 in
theorem around_6 (nm : ByteArray) (q tk : Int) (TL TA L A : Option Addr) (tl tc ta td ll c nk d : Nat) (w : World) (hs : nm.size ≤ 1048576) :
    Calls Tryz.prog 98 #[.agg #[.int .i64 6, .string nm, .int .i64 q, .int .i64 tk, .slice TL tl tc, .slice TA ta td, .slice L ll c, .slice A nk d]] w (RowAt [([]), ([46] ++ (nm.data.toList))] w) := by
  obtain ⟨W1, hW1⟩ : ∃ W1, w.alloc (.cells #[.int .i64 6, .string nm, .int .i64 q, .int .i64 tk, .slice TL tl tc, .slice TA ta td, .slice L ll c, .slice A nk d] 30) = W1 := ⟨_, rfl⟩
  have hb1 : Below w.heap.size w W1 := by rw [← hW1]; exact (Below.refl _ _).alloc (Nat.le_refl _) _
  have hsz : W1.heap.size = w.heap.size + 1 := by rw [← hW1]; simp
  have HF : Hid (RowAt [([]), ([46] ++ (nm.data.toList))] w (.returned (.slice (some ⟨w.heap.size + 1, 0, none⟩) 2 2)) (W1.alloc (.cells #[.string (⟨#[]⟩), .string (⟨#[46]⟩ ++ nm)] 9))) := Lib.hid (hsz ▸ rowAt_lit hb1 [⟨#[]⟩, ⟨#[46]⟩ ++ nm] (by simp))
  have hn1 : (⟨#[46]⟩ ++ nm : ByteArray).size = 1 + nm.size := by simp only [ByteArray.size_append]; rfl
  have HW1 := Lib.hid hW1
  clear hW1 hb1 hsz
  go_enter Tryz.func98, Tryz.ntmps98
  go_wp2_with fail
  rw [HW1.out]
  go_ret
  exact HF.out

set_option maxRecDepth 100000 in
set_option maxHeartbeats 1600000 in
theorem around_7 (nm : ByteArray) (q tk : Int) (TL TA L A : Option Addr) (tl tc ta td ll c nk d : Nat) (w : World) (t : Ty) (hT : RTy w t [.int .i64 tk, .slice TL tl tc, .slice TA ta td]) (hv : validB t = true) (hw : wt t ≤ 1048576) :
    Calls Tryz.prog 98 #[.agg #[.int .i64 7, .string nm, .int .i64 q, .int .i64 tk, .slice TL tl tc, .slice TA ta td, .slice L ll c, .slice A nk d]] w (RowAt [([91, 58] ++ (t.txt ++ ([93])))] w) := by
  obtain ⟨W1, hW1⟩ : ∃ W1, w.alloc (.cells #[.int .i64 7, .string nm, .int .i64 q, .int .i64 tk, .slice TL tl tc, .slice TA ta td, .slice L ll c, .slice A nk d] 30) = W1 := ⟨_, rfl⟩
  have hb1 : Below w.heap.size w W1 := by rw [← hW1]; exact (Below.refl _ _).alloc (Nat.le_refl _) _
  obtain ⟨H, hH⟩ : ∃ H, w.heap.size = H := ⟨_, rfl⟩
  have hbox : Box8 W1 H 30 (.int .i64 7) (.string nm) (.int .i64 q) (.int .i64 tk) (.slice TL tl tc) (.slice TA ta td) (.slice L ll c) (.slice A nk d) := by rw [← hW1, ← hH]; exact Box8.new w _ _ _ _ _ _ _ _ _
  have x0 := hbox.c0
  have x1 := hbox.c1
  have x2 := hbox.c2
  have x3 := hbox.c3
  have x4 := hbox.c4
  have x5 := hbox.c5
  have x6 := hbox.c6
  have x7 := hbox.c7
  have HC := Lib.hid (show Calls _ _ _ _ (Text t.txt W1) from txtV_valid hv ▸ implFormat_any t W1 _ (hT.keep hb1) hw)
  have HF : Hid (∀ W : World, Below w.heap.size w W → RowAt [([91, 58] ++ (t.txt ++ ([93])))] w (.returned (.slice (some ⟨W.heap.size, 0, none⟩) 1 1)) (W.alloc (.cells #[.string (⟨#[91, 58]⟩ ++ ⟨t.txt.toArray⟩ ++ ⟨#[93]⟩)] 9))) := Lib.hid (fun W hB => rowAt_lit hB [⟨#[91, 58]⟩ ++ ⟨t.txt.toArray⟩ ++ ⟨#[93]⟩] (by simp))
  have htl := txt_le t
  obtain ⟨ty, hty⟩ : ∃ ty, t.txt = ty := ⟨_, rfl⟩
  rw [hty] at HC HF htl ⊢
  have hts : (⟨ty.toArray⟩ : ByteArray).size = ty.length := rfl
  have hyl : ty.length ≤ 5000000 := by omega
  have hn1 : (⟨#[91, 58]⟩ ++ ⟨ty.toArray⟩ : ByteArray).size = 2 + ty.length := by simp only [ByteArray.size_append]; rfl
  have hn2 : (⟨#[91, 58]⟩ ++ ⟨ty.toArray⟩ ++ ⟨#[93]⟩ : ByteArray).size = 2 + ty.length + 1 := by simp only [ByteArray.size_append]; rfl
  have HW1 := Lib.hid hW1
  have HB1 := Lib.hid hb1
  clear hW1 hb1 hbox hH  hT hv hw hty htl 
  go_enter Tryz.func98, Tryz.ntmps98
  go_wp2_with fail
  rw [HW1.out]
  go_wp2_with fail
  refine HC.out.mono ?_
  rintro e w2 ⟨rfl, hb2⟩
  have HF2 := Lib.hid (HF.out w2 (HB1.out.trans (hb2.mono HB1.out.size)))
  clear hb2 HF
  go_wp2_with fail
  go_ret
  exact HF2.out

set_option maxRecDepth 100000 in
set_option maxHeartbeats 1600000 in
theorem around_8 (nm : ByteArray) (q tk : Int) (TL TA L A : Option Addr) (tl tc ta td ll c nk d : Nat) (w : World) :
    Calls Tryz.prog 98 #[.agg #[.int .i64 8, .string nm, .int .i64 q, .int .i64 tk, .slice TL tl tc, .slice TA ta td, .slice L ll c, .slice A nk d]] w (RowAt [([91]), ([93])] w) := by
  obtain ⟨W1, hW1⟩ : ∃ W1, w.alloc (.cells #[.int .i64 8, .string nm, .int .i64 q, .int .i64 tk, .slice TL tl tc, .slice TA ta td, .slice L ll c, .slice A nk d] 30) = W1 := ⟨_, rfl⟩
  have hb1 : Below w.heap.size w W1 := by rw [← hW1]; exact (Below.refl _ _).alloc (Nat.le_refl _) _
  have hsz : W1.heap.size = w.heap.size + 1 := by rw [← hW1]; simp
  have HF : Hid (RowAt [([91]), ([93])] w (.returned (.slice (some ⟨w.heap.size + 1, 0, none⟩) 2 2)) (W1.alloc (.cells #[.string (⟨#[91]⟩), .string (⟨#[93]⟩)] 9))) := Lib.hid (hsz ▸ rowAt_lit hb1 [⟨#[91]⟩, ⟨#[93]⟩] (by rfl))
  have HW1 := Lib.hid hW1
  clear hW1 hb1 hsz
  go_enter Tryz.func98, Tryz.ntmps98
  go_wp2_with fail
  rw [HW1.out]
  go_ret
  exact HF.out

set_option maxRecDepth 100000 in
set_option maxHeartbeats 1600000 in
theorem around_9 (nm : ByteArray) (q tk : Int) (TL TA L A : Option Addr) (tl tc ta td ll c nk d : Nat) (w : World) :
    Calls Tryz.prog 98 #[.agg #[.int .i64 9, .string nm, .int .i64 q, .int .i64 tk, .slice TL tl tc, .slice TA ta td, .slice L ll c, .slice A nk d]] w (RowAt [([40]), ([43, 43]), ([41])] w) := by
  obtain ⟨W1, hW1⟩ : ∃ W1, w.alloc (.cells #[.int .i64 9, .string nm, .int .i64 q, .int .i64 tk, .slice TL tl tc, .slice TA ta td, .slice L ll c, .slice A nk d] 30) = W1 := ⟨_, rfl⟩
  have hb1 : Below w.heap.size w W1 := by rw [← hW1]; exact (Below.refl _ _).alloc (Nat.le_refl _) _
  have hsz : W1.heap.size = w.heap.size + 1 := by rw [← hW1]; simp
  have HF : Hid (RowAt [([40]), ([43, 43]), ([41])] w (.returned (.slice (some ⟨w.heap.size + 1, 0, none⟩) 3 3)) (W1.alloc (.cells #[.string (⟨#[40]⟩), .string (⟨#[43, 43]⟩), .string (⟨#[41]⟩)] 9))) := Lib.hid (hsz ▸ rowAt_lit hb1 [⟨#[40]⟩, ⟨#[43, 43]⟩, ⟨#[41]⟩] (by rfl))
  have HW1 := Lib.hid hW1
  clear hW1 hb1 hsz
  go_enter Tryz.func98, Tryz.ntmps98
  go_wp2_with fail
  rw [HW1.out]
  go_ret
  exact HF.out

set_option maxRecDepth 100000 in
set_option maxHeartbeats 1600000 in
theorem around_10 (nm : ByteArray) (q tk : Int) (TL TA L A : Option Addr) (tl tc ta td ll c nk d : Nat) (w : World) (hs : nm.size ≤ 1048576) :
    Calls Tryz.prog 98 #[.agg #[.int .i64 10, .string nm, .int .i64 q, .int .i64 tk, .slice TL tl tc, .slice TA ta td, .slice L ll c, .slice A nk d]] w (RowAt [([40, 102, 111, 114, 32] ++ (nm.data.toList ++ ([60, 45]))), ([32]), ([41])] w) := by
  obtain ⟨W1, hW1⟩ : ∃ W1, w.alloc (.cells #[.int .i64 10, .string nm, .int .i64 q, .int .i64 tk, .slice TL tl tc, .slice TA ta td, .slice L ll c, .slice A nk d] 30) = W1 := ⟨_, rfl⟩
  have hb1 : Below w.heap.size w W1 := by rw [← hW1]; exact (Below.refl _ _).alloc (Nat.le_refl _) _
  have hsz : W1.heap.size = w.heap.size + 1 := by rw [← hW1]; simp
  have HF : Hid (RowAt [([40, 102, 111, 114, 32] ++ (nm.data.toList ++ ([60, 45]))), ([32]), ([41])] w (.returned (.slice (some ⟨w.heap.size + 1, 0, none⟩) 3 3)) (W1.alloc (.cells #[.string (⟨#[40, 102, 111, 114, 32]⟩ ++ nm ++ ⟨#[60, 45]⟩), .string (⟨#[32]⟩), .string (⟨#[41]⟩)] 9))) := Lib.hid (hsz ▸ rowAt_lit hb1 [⟨#[40, 102, 111, 114, 32]⟩ ++ nm ++ ⟨#[60, 45]⟩, ⟨#[32]⟩, ⟨#[41]⟩] (by simp))
  have hn1 : (⟨#[40, 102, 111, 114, 32]⟩ ++ nm : ByteArray).size = 5 + nm.size := by simp only [ByteArray.size_append]; rfl
  have hn2 : (⟨#[40, 102, 111, 114, 32]⟩ ++ nm ++ ⟨#[60, 45]⟩ : ByteArray).size = 5 + nm.size + 2 := by simp only [ByteArray.size_append]; rfl
  have HW1 := Lib.hid hW1
  clear hW1 hb1 hsz
  go_enter Tryz.func98, Tryz.ntmps98
  go_wp2_with fail
  rw [HW1.out]
  go_ret
  exact HF.out

set_option maxRecDepth 100000 in
set_option maxHeartbeats 1600000 in
theorem around_11 (nm : ByteArray) (q tk : Int) (TL TA L A : Option Addr) (tl tc ta td ll c nk d : Nat) (w : World) :
    Calls Tryz.prog 98 #[.agg #[.int .i64 11, .string nm, .int .i64 q, .int .i64 tk, .slice TL tl tc, .slice TA ta td, .slice L ll c, .slice A nk d]] w (RowAt [([40, 105, 102, 32]), ([32]), ([32]), ([41])] w) := by
  obtain ⟨W1, hW1⟩ : ∃ W1, w.alloc (.cells #[.int .i64 11, .string nm, .int .i64 q, .int .i64 tk, .slice TL tl tc, .slice TA ta td, .slice L ll c, .slice A nk d] 30) = W1 := ⟨_, rfl⟩
  have hb1 : Below w.heap.size w W1 := by rw [← hW1]; exact (Below.refl _ _).alloc (Nat.le_refl _) _
  have hsz : W1.heap.size = w.heap.size + 1 := by rw [← hW1]; simp
  have HF : Hid (RowAt [([40, 105, 102, 32]), ([32]), ([32]), ([41])] w (.returned (.slice (some ⟨w.heap.size + 1, 0, none⟩) 4 4)) (W1.alloc (.cells #[.string (⟨#[40, 105, 102, 32]⟩), .string (⟨#[32]⟩), .string (⟨#[32]⟩), .string (⟨#[41]⟩)] 9))) := Lib.hid (hsz ▸ rowAt_lit hb1 [⟨#[40, 105, 102, 32]⟩, ⟨#[32]⟩, ⟨#[32]⟩, ⟨#[41]⟩] (by rfl))
  have HW1 := Lib.hid hW1
  clear hW1 hb1 hsz
  go_enter Tryz.func98, Tryz.ntmps98
  go_wp2_with fail
  rw [HW1.out]
  go_ret
  exact HF.out

set_option maxRecDepth 100000 in
set_option maxHeartbeats 1600000 in
theorem around_12 (nm : ByteArray) (q tk : Int) (TL TA L A : Option Addr) (tl tc ta td ll c nk d : Nat) (w : World) (hs : nm.size ≤ 1048576) :
    Calls Tryz.prog 98 #[.agg #[.int .i64 12, .string nm, .int .i64 q, .int .i64 tk, .slice TL tl tc, .slice TA ta td, .slice L ll c, .slice A nk d]] w (RowAt [([64] ++ (nm.data.toList))] w) := by
  obtain ⟨W1, hW1⟩ : ∃ W1, w.alloc (.cells #[.int .i64 12, .string nm, .int .i64 q, .int .i64 tk, .slice TL tl tc, .slice TA ta td, .slice L ll c, .slice A nk d] 30) = W1 := ⟨_, rfl⟩
  have hb1 : Below w.heap.size w W1 := by rw [← hW1]; exact (Below.refl _ _).alloc (Nat.le_refl _) _
  have hsz : W1.heap.size = w.heap.size + 1 := by rw [← hW1]; simp
  have HF : Hid (RowAt [([64] ++ (nm.data.toList))] w (.returned (.slice (some ⟨w.heap.size + 1, 0, none⟩) 1 1)) (W1.alloc (.cells #[.string (⟨#[64]⟩ ++ nm)] 9))) := Lib.hid (hsz ▸ rowAt_lit hb1 [⟨#[64]⟩ ++ nm] (by simp))
  have hn1 : (⟨#[64]⟩ ++ nm : ByteArray).size = 1 + nm.size := by simp only [ByteArray.size_append]; rfl
  have HW1 := Lib.hid hW1
  clear hW1 hb1 hsz
  go_enter Tryz.func98, Tryz.ntmps98
  go_wp2_with fail
  rw [HW1.out]
  go_ret
  exact HF.out

set_option maxRecDepth 100000 in
set_option maxHeartbeats 1600000 in
theorem around_13 (nm : ByteArray) (q tk : Int) (TL TA L A : Option Addr) (tl tc ta td ll c nk d : Nat) (w : World) (hs : nm.size ≤ 1048576) (t : Ty) (hT : RTy w t [.int .i64 tk, .slice TL tl tc, .slice TA ta td]) (hv : validB t = true) (hw : wt t ≤ 1048576) :
    Calls Tryz.prog 98 #[.agg #[.int .i64 13, .string nm, .int .i64 q, .int .i64 tk, .slice TL tl tc, .slice TA ta td, .slice L ll c, .slice A nk d]] w (RowAt [([40, 92] ++ (nm.data.toList ++ ([58] ++ (t.txt ++ ([46]))))), ([41])] w) := by
  obtain ⟨W1, hW1⟩ : ∃ W1, w.alloc (.cells #[.int .i64 13, .string nm, .int .i64 q, .int .i64 tk, .slice TL tl tc, .slice TA ta td, .slice L ll c, .slice A nk d] 30) = W1 := ⟨_, rfl⟩
  have hb1 : Below w.heap.size w W1 := by rw [← hW1]; exact (Below.refl _ _).alloc (Nat.le_refl _) _
  obtain ⟨H, hH⟩ : ∃ H, w.heap.size = H := ⟨_, rfl⟩
  have hbox : Box8 W1 H 30 (.int .i64 13) (.string nm) (.int .i64 q) (.int .i64 tk) (.slice TL tl tc) (.slice TA ta td) (.slice L ll c) (.slice A nk d) := by rw [← hW1, ← hH]; exact Box8.new w _ _ _ _ _ _ _ _ _
  have x0 := hbox.c0
  have x1 := hbox.c1
  have x2 := hbox.c2
  have x3 := hbox.c3
  have x4 := hbox.c4
  have x5 := hbox.c5
  have x6 := hbox.c6
  have x7 := hbox.c7
  have HC := Lib.hid (show Calls _ _ _ _ (Text t.txt W1.drew) from txtV_valid hv ▸ implFormat_any t W1.drew _ ((hT.keep hb1).keep (show Below W1.heap.size W1 W1.drew from (Below.refl _ _).drew)) hw)
  have HF : Hid (∀ W : World, Below w.heap.size w W → RowAt [([40, 92] ++ (nm.data.toList ++ ([58] ++ (t.txt ++ ([46]))))), ([41])] w (.returned (.slice (some ⟨W.heap.size, 0, none⟩) 2 2)) (W.alloc (.cells #[.string (⟨#[40, 92]⟩ ++ nm ++ ⟨#[58]⟩ ++ ⟨t.txt.toArray⟩ ++ ⟨#[46]⟩), .string (⟨#[41]⟩)] 9))) := Lib.hid (fun W hB => rowAt_two hB _ _ (by simp) (by rfl))
  have htl := txt_le t
  obtain ⟨ty, hty⟩ : ∃ ty, t.txt = ty := ⟨_, rfl⟩
  rw [hty] at HC HF htl ⊢
  have hts : (⟨ty.toArray⟩ : ByteArray).size = ty.length := rfl
  have hyl : ty.length ≤ 5000000 := by omega
  have HALL : Hid (∀ W, Below W1.drew.heap.size W1.drew W → W.cell? ⟨H, 1, none⟩ = some (.string nm) ∧ W.cell? ⟨H, 3, none⟩ = some (.int .i64 tk) ∧ W.cell? ⟨H, 4, none⟩ = some (.slice TL tl tc) ∧ W.cell? ⟨H, 5, none⟩ = some (.slice TA ta td)) := Lib.hid (fun W hb => by
    have up : ∀ (p : Addr) (u : Value), W1.cell? p = some u → W.cell? p = some u := fun p u h => (hb.cell (World.block_lt_of_cell? W1.drew _ h)).trans h
    exact ⟨up _ _ x1, up _ _ x3, up _ _ x4, up _ _ x5⟩)
  have z1 : ¬ 9223372036854775807 < 2 + nm.size := by omega
  have z2 : ¬ 9223372036854775807 < 2 + nm.size + 1 := by omega
  have z3 : ¬ 9223372036854775807 < 2 + nm.size + 1 + ty.length := by omega
  have z4 : ¬ 9223372036854775807 < 2 + nm.size + 1 + ty.length + 1 := by omega
  obtain ⟨q1, q2, q3, q4⟩ := HALL.out W1.drew (Below.refl _ _)
  have HW1 := Lib.hid hW1
  have HB1 := Lib.hid hb1.drew
  clear hW1 hb1 hbox   hT hv hw hty htl x1 x2 x3 x4 x5 x6 x7
  go_enter Tryz.func98, Tryz.ntmps98
  go_wp2_with fail
  rw [HW1.out]
  go_wp2_with fail
  go_region_held3 (fun W => W.cell? ⟨H, 1, none⟩ = some (.string nm) ∧ W.cell? ⟨H, 3, none⟩ = some (.int .i64 tk) ∧ W.cell? ⟨H, 4, none⟩ = some (.slice TL tl tc) ∧ W.cell? ⟨H, 5, none⟩ = some (.slice TA ta td))
    (first | (refine ⟨?_, ?_, ?_, ?_⟩ <;> assumption) | go_keep)
    (first
      | (go_at_call 140; refine HC.out.mono ?_; rintro e w5 ⟨rfl, hb5⟩; have HB5 := Lib.hid (HB1.out.trans (hb5.mono HB1.out.size)); obtain ⟨p1, p2, p3, p4⟩ := HALL.out w5 hb5; clear hb5 HC))
  go_wp2_with fail
  go_ret
  exact HF.out _ HB5.out

set_option maxRecDepth 100000 in
set_option maxHeartbeats 1600000 in
theorem around_14 (nm : ByteArray) (q tk : Int) (TL TA L A : Option Addr) (tl tc ta td ll c nk d : Nat) (w : World) :
    Calls Tryz.prog 98 #[.agg #[.int .i64 14, .string nm, .int .i64 q, .int .i64 tk, .slice TL tl tc, .slice TA ta td, .slice L ll c, .slice A nk d]] w (RowAt [([40]), ([32]), ([41])] w) := by
  obtain ⟨W1, hW1⟩ : ∃ W1, w.alloc (.cells #[.int .i64 14, .string nm, .int .i64 q, .int .i64 tk, .slice TL tl tc, .slice TA ta td, .slice L ll c, .slice A nk d] 30) = W1 := ⟨_, rfl⟩
  have hb1 : Below w.heap.size w W1 := by rw [← hW1]; exact (Below.refl _ _).alloc (Nat.le_refl _) _
  have hsz : W1.heap.size = w.heap.size + 1 := by rw [← hW1]; simp
  have HF : Hid (RowAt [([40]), ([32]), ([41])] w (.returned (.slice (some ⟨w.heap.size + 1, 0, none⟩) 3 3)) (W1.alloc (.cells #[.string (⟨#[40]⟩), .string (⟨#[32]⟩), .string (⟨#[41]⟩)] 9))) := Lib.hid (hsz ▸ rowAt_lit hb1 [⟨#[40]⟩, ⟨#[32]⟩, ⟨#[41]⟩] (by rfl))
  have HW1 := Lib.hid hW1
  clear hW1 hb1 hsz
  go_enter Tryz.func98, Tryz.ntmps98
  go_wp2_with fail
  rw [HW1.out]
  go_ret
  exact HF.out

set_option maxRecDepth 100000 in
set_option maxHeartbeats 1600000 in
theorem around_15 (nm : ByteArray) (q tk : Int) (TL TA L A : Option Addr) (tl tc ta td ll c nk d : Nat) (w : World) :
    Calls Tryz.prog 98 #[.agg #[.int .i64 15, .string nm, .int .i64 q, .int .i64 tk, .slice TL tl tc, .slice TA ta td, .slice L ll c, .slice A nk d]] w (RowAt [([40, 101, 109, 112, 116, 121, 32]), ([41])] w) := by
  obtain ⟨W1, hW1⟩ : ∃ W1, w.alloc (.cells #[.int .i64 15, .string nm, .int .i64 q, .int .i64 tk, .slice TL tl tc, .slice TA ta td, .slice L ll c, .slice A nk d] 30) = W1 := ⟨_, rfl⟩
  have hb1 : Below w.heap.size w W1 := by rw [← hW1]; exact (Below.refl _ _).alloc (Nat.le_refl _) _
  have hsz : W1.heap.size = w.heap.size + 1 := by rw [← hW1]; simp
  have HF : Hid (RowAt [([40, 101, 109, 112, 116, 121, 32]), ([41])] w (.returned (.slice (some ⟨w.heap.size + 1, 0, none⟩) 2 2)) (W1.alloc (.cells #[.string (⟨#[40, 101, 109, 112, 116, 121, 32]⟩), .string (⟨#[41]⟩)] 9))) := Lib.hid (hsz ▸ rowAt_lit hb1 [⟨#[40, 101, 109, 112, 116, 121, 32]⟩, ⟨#[41]⟩] (by rfl))
  have HW1 := Lib.hid hW1
  clear hW1 hb1 hsz
  go_enter Tryz.func98, Tryz.ntmps98
  go_wp2_with fail
  rw [HW1.out]
  go_ret
  exact HF.out

set_option maxRecDepth 100000 in
set_option maxHeartbeats 1600000 in
theorem around_16 (nm : ByteArray) (q tk : Int) (TL TA L A : Option Addr) (tl tc ta td ll c nk d : Nat) (w : World) :
    Calls Tryz.prog 98 #[.agg #[.int .i64 16, .string nm, .int .i64 q, .int .i64 tk, .slice TL tl tc, .slice TA ta td, .slice L ll c, .slice A nk d]] w (RowAt [([40, 99, 111, 117, 110, 116, 32]), ([41])] w) := by
  obtain ⟨W1, hW1⟩ : ∃ W1, w.alloc (.cells #[.int .i64 16, .string nm, .int .i64 q, .int .i64 tk, .slice TL tl tc, .slice TA ta td, .slice L ll c, .slice A nk d] 30) = W1 := ⟨_, rfl⟩
  have hb1 : Below w.heap.size w W1 := by rw [← hW1]; exact (Below.refl _ _).alloc (Nat.le_refl _) _
  have hsz : W1.heap.size = w.heap.size + 1 := by rw [← hW1]; simp
  have HF : Hid (RowAt [([40, 99, 111, 117, 110, 116, 32]), ([41])] w (.returned (.slice (some ⟨w.heap.size + 1, 0, none⟩) 2 2)) (W1.alloc (.cells #[.string (⟨#[40, 99, 111, 117, 110, 116, 32]⟩), .string (⟨#[41]⟩)] 9))) := Lib.hid (hsz ▸ rowAt_lit hb1 [⟨#[40, 99, 111, 117, 110, 116, 32]⟩, ⟨#[41]⟩] (by rfl))
  have HW1 := Lib.hid hW1
  clear hW1 hb1 hsz
  go_enter Tryz.func98, Tryz.ntmps98
  go_wp2_with fail
  rw [HW1.out]
  go_ret
  exact HF.out

theorem aroundArgs_any (t : Te) (w : World) (cs : List Value) (h : RTe w t cs) (hf : Form t.top t.kids.length) (hw : wte t ≤ 1048576) (htab : TabOk w) : Calls Tryz.prog 98 #[.agg cs.toArray] w (RowAt (arY t.top) w) := by
  obtain ⟨TL, tc, TA, td, L, c, A, d, rfl, hT, hL, ⟨_, _, _, hn0, hn1, _, _⟩, _, _, _⟩ := h.open
  have hwt := wt_type_le t
  have hnm := name_le t
  have hlb := wte_labels hw
  have hk := kinds_of hf
  have hty := hf.type
  generalize t.kids.length = nk at *
  unfold arY
  rcases hk with e | e | e | e | e | e | e | e | e | e | e | e | e | e | e | e
  · rw [e, if_pos rfl]
    exact around_1 _ _ _ _ _ _ _ _ _ _ _ _ _ _ _ w
  · rw [e, if_neg (by decide), if_pos rfl]
    exact around_2 _ _ _ _ _ _ _ _ _ _ _ _ _ _ _ w hn0 hn1 htab
  · rw [e, if_neg (by decide), if_neg (by decide), if_pos rfl]
    exact around_3 _ _ _ _ _ _ _ _ _ _ _ _ _ _ _ w
  · rw [e, if_neg (by decide), if_neg (by decide), if_neg (by decide), if_pos rfl]
    exact around_4 _ _ _ _ _ _ _ _ _ _ _ _ _ _ _ w (by omega)
  · rw [e, if_neg (by decide), if_neg (by decide), if_neg (by decide), if_neg (by decide), if_pos rfl]
    exact around_5 _ _ _ _ _ _ _ _ _ _ _ _ _ _ _ w t.top.labels hL rfl hlb.1 hlb.2
  · rw [e, if_neg (by decide), if_neg (by decide), if_neg (by decide), if_neg (by decide), if_neg (by decide), if_pos rfl]
    exact around_6 _ _ _ _ _ _ _ _ _ _ _ _ _ _ _ w (by omega)
  · rw [e, if_neg (by decide), if_neg (by decide), if_neg (by decide), if_neg (by decide), if_neg (by decide), if_neg (by decide), if_pos rfl]
    exact around_7 _ _ _ _ _ _ _ _ _ _ _ _ _ _ _ w t.top.type hT (hty (by rw [e]; rfl)) (by omega)
  · rw [e, if_neg (by decide), if_neg (by decide), if_neg (by decide), if_neg (by decide), if_neg (by decide), if_neg (by decide), if_neg (by decide), if_pos rfl]
    exact around_8 _ _ _ _ _ _ _ _ _ _ _ _ _ _ _ w
  · rw [e, if_neg (by decide), if_neg (by decide), if_neg (by decide), if_neg (by decide), if_neg (by decide), if_neg (by decide), if_neg (by decide), if_neg (by decide), if_pos rfl]
    exact around_9 _ _ _ _ _ _ _ _ _ _ _ _ _ _ _ w
  · rw [e, if_neg (by decide), if_neg (by decide), if_neg (by decide), if_neg (by decide), if_neg (by decide), if_neg (by decide), if_neg (by decide), if_neg (by decide), if_neg (by decide), if_pos rfl]
    exact around_10 _ _ _ _ _ _ _ _ _ _ _ _ _ _ _ w (by omega)
  · rw [e, if_neg (by decide), if_neg (by decide), if_neg (by decide), if_neg (by decide), if_neg (by decide), if_neg (by decide), if_neg (by decide), if_neg (by decide), if_neg (by decide), if_neg (by decide), if_pos rfl]
    exact around_11 _ _ _ _ _ _ _ _ _ _ _ _ _ _ _ w
  · rw [e, if_neg (by decide), if_neg (by decide), if_neg (by decide), if_neg (by decide), if_neg (by decide), if_neg (by decide), if_neg (by decide), if_neg (by decide), if_neg (by decide), if_neg (by decide), if_neg (by decide), if_pos rfl]
    exact around_12 _ _ _ _ _ _ _ _ _ _ _ _ _ _ _ w (by omega)
  · rw [e, if_neg (by decide), if_neg (by decide), if_neg (by decide), if_neg (by decide), if_neg (by decide), if_neg (by decide), if_neg (by decide), if_neg (by decide), if_neg (by decide), if_neg (by decide), if_neg (by decide), if_neg (by decide), if_pos rfl]
    exact around_13 _ _ _ _ _ _ _ _ _ _ _ _ _ _ _ w (by omega) t.top.type hT (hty (by rw [e]; rfl)) (by omega)
  · rw [e, if_neg (by decide), if_neg (by decide), if_neg (by decide), if_neg (by decide), if_neg (by decide), if_neg (by decide), if_neg (by decide), if_neg (by decide), if_neg (by decide), if_neg (by decide), if_neg (by decide), if_neg (by decide), if_neg (by decide), if_pos rfl]
    exact around_14 _ _ _ _ _ _ _ _ _ _ _ _ _ _ _ w
  · rw [e, if_neg (by decide), if_neg (by decide), if_neg (by decide), if_neg (by decide), if_neg (by decide), if_neg (by decide), if_neg (by decide), if_neg (by decide), if_neg (by decide), if_neg (by decide), if_neg (by decide), if_neg (by decide), if_neg (by decide), if_neg (by decide), if_pos rfl]
    exact around_15 _ _ _ _ _ _ _ _ _ _ _ _ _ _ _ w
  · rw [e, if_neg (by decide), if_neg (by decide), if_neg (by decide), if_neg (by decide), if_neg (by decide), if_neg (by decide), if_neg (by decide), if_neg (by decide), if_neg (by decide), if_neg (by decide), if_neg (by decide), if_neg (by decide), if_neg (by decide), if_neg (by decide), if_neg (by decide)]
    exact around_16 _ _ _ _ _ _ _ _ _ _ _ _ _ _ _ w
end Go.Proofs.YtkchjinfjggoeaaGreatDoor
