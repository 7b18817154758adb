/-
  Merged by program: TextLaw.
-/
import Derived.Test.YtffaggiblglcbaaV41
import Derived.Test.YtffaggiblglcbaaV42
import Derived.Test.YtffaggiblglcbaaV45
import Derived.Test.YtffaggiblglcbaaV47

/-
  The walk of laws.FnTypeText.
-/
namespace Go.Proofs.Ytffaggiblglcbaa
open Go.RowKit

/-- a type's own text is read back, where the type is valid; nothing else is -/
theorem prsS_txtV (t : Ty) : prsS (txtV t) = if validB t = true then some t else none := by
  cases hv : validB t with
  | true =>
    have : txtV t = t.txt := by unfold txtV; rw [if_pos hv]
    rw [this, if_pos rfl]
    exact (prsS_iff _ _).2 ⟨hv, rfl⟩
  | false =>
    have : txtV t = [] := by unfold txtV; rw [if_neg (by simp [hv])]
    rw [this, if_neg (by simp)]
    rfl
theorem prsS_back {z : ByteArray} {u : Ty} (h : prsS z.data.toList = some u) : (⟨(txtV u).toArray⟩ : ByteArray) = z := by
  obtain ⟨h1, h2⟩ := (prsS_iff _ _).1 h
  have : txtV u = z.data.toList := by unfold txtV; rw [if_pos h1]; exact h2
  rw [this]

/-- a type read, its parts named -/
def PrsN (F : Ty) (fb : Bool) (w : World) (e : Ending) (w' : World) : Prop :=
  ∃ (L A : Option Addr) (q : Int) (n m c d : Nat), e = .returned (.tuple #[.agg #[.int .i64 q, .slice L n c, .slice A m d], .bool fb]) ∧ RTy w' F [.int .i64 q, .slice L n c, .slice A m d] ∧ Below w.heap.size w w'
theorem prsN_of {o : Option Ty} {F : Ty} {fb : Bool} (h1 : o.getD zeroT = F) (h2 : o.isSome = fb) {w w' : World} {e : Ending} (h : PrsP o w e w') : PrsN F fb w e w' := by
  subst h1 h2
  obtain ⟨L, A, c, d, fp, rfl, hot, _, hb⟩ := h
  exact ⟨L, A, _, _, _, c, d, rfl, hot.reads, hb⟩

set_option maxHeartbeats 6400000 in
set_option maxRecDepth 100000 in
theorem text_law (A0 : Option Addr) (cap : Nat) (bs : List UInt8) (w : World) (hn : bs.length ≤ 9223372036854775807) (hsl : Sl w A0 (bcells bs)) :
    Calls Try.prog 3 #[.slice A0 bs.length cap] w (LawYes w) := by
  have HS := Lib.hid hsl
  clear hsl
  go_enter Try.func3, Try.ntmps3
  go_wp2_with fail
  refine (big_any A0 bs.length cap w).mono ?_
  rintro e w0 ⟨rfl, rfl⟩
  by_cases hbig : 1048576 < bs.length
  · go_wp2_with fail
    go_ret
    exact ⟨rfl, Below.refl _ _⟩
  have hbd : decide ((1048576 : Int) < (bs.length : Int)) = false := by simp; omega
  rw [hbd]
  clear hbd
  have HC := Lib.hid (show Code w A0 bs from ⟨HS.out, by omega⟩)
  clear HS hbig
  go_wp2_with fail
  refine (drawFormatT_any A0 cap bs w HC.out).mono ?_
  rintro e w1 ⟨t, L, A, c, d, fp, rfl, hot, hwt, hb⟩
  have hr := hot.reads
  generalize t.top.kind = q at hr ⊢
  generalize t.top.labels.length = n at hr ⊢
  generalize t.kids.length = m at hr ⊢
  obtain ⟨W2, hW2⟩ : ∃ W2, w1.alloc (.cells #[.int .i64 q, .slice L n c, .slice A m d] 27) = W2 := ⟨_, rfl⟩
  obtain ⟨P, hP⟩ : ∃ P, w1.heap.size = P := ⟨_, rfl⟩
  have hal : Below w1.heap.size w1 W2 := by rw [← hW2]; exact (Below.refl _ _).alloc (Nat.le_refl _) _
  have hbx : Box3 W2 P 27 (.int .i64 q) (.slice L n c) (.slice A m d) := by rw [← hW2, ← hP]; exact Box3.new w1 _ _ _ _
  have HB2 := Lib.hid (hb.trans (hal.mono hb.size))
  have BP2 := Lib.hid hbx
  have TW2 := Lib.hid (hr.keep hal)
  obtain ⟨s, hs⟩ : ∃ s : ByteArray, (⟨(txtV t).toArray⟩ : ByteArray) = s := ⟨_, rfl⟩
  have hsz : s.size ≤ 1048576 := by
    have := txtV_le t
    rw [← hs]
    show (txtV t).length ≤ _
    omega
  have hsd : s.data.toList = txtV t := by rw [← hs]
  have FS : Hid (∀ (W : World) (cs : List Value), RTy W t cs → Calls Try.prog 10 #[.agg cs.toArray] W (fun e w' => e = .returned (.string s) ∧ Below W.heap.size W w')) := Lib.hid (fun W cs hrr => by
    refine (specFormat_any t W cs hrr (by omega)).mono ?_
    rintro e w' ⟨rfl, hbb⟩
    exact ⟨by rw [hs], hbb⟩)
  have FI : Hid (∀ (W : World) (cs : List Value), RTy W t cs → Calls Try.prog 8 #[.agg cs.toArray] W (fun e w' => e = .returned (.string s) ∧ Below W.heap.size W w')) := Lib.hid (fun W cs hrr => by
    refine (implFormat_any t W cs hrr (by omega)).mono ?_
    rintro e w' ⟨rfl, hbb⟩
    exact ⟨by rw [hs], hbb⟩)
  have VS : Hid (∀ (W : World) (cs : List Value), RTy W t cs → Calls Try.prog 11 #[.agg cs.toArray] W (Truth (validB t) W)) := Lib.hid (fun W cs hrr => specValid_any t W cs hrr (by omega))
  obtain ⟨v, hv⟩ : ∃ v, validB t = v := ⟨_, rfl⟩
  rw [hv] at VS
  have hps := prsS_txtV t
  rw [hv, ← hsd] at hps
  obtain ⟨F, hF⟩ : ∃ F, (prsS s.data.toList).getD zeroT = F := ⟨_, rfl⟩
  have hFt : v = true → F = t := by intro h; rw [← hF, hps, if_pos h]; rfl
  have hfb : (prsS s.data.toList).isSome = v := by rw [hps]; cases v <;> rfl
  have PI : Hid (∀ (W : World), Calls Try.prog 9 #[.string s] W (PrsN F v W)) := Lib.hid (fun W => (implParse_spec s W hsz).mono (fun _ _ h => prsN_of hF hfb h))
  have EQ : Hid (v = true → ∀ (W : World) (cs ds : List Value), RTy W F cs → RTy W t ds → Calls Try.prog 12 #[.agg cs.toArray, .agg ds.toArray] W (Truth true W)) := Lib.hid (fun hh W cs ds h1 h2 => by
    rw [hFt hh] at h1
    have hz := size_wt t
    have := implEq_any t t W cs ds h1 h2 (by omega) (by omega)
    rw [same_yes rfl] at this
    exact this)
  have HW2 := Lib.hid hW2
  have x0 := hbx.c0
  have x1 := hbx.c1
  have x2 := hbx.c2
  clear hot hwt hb hr hW2 hal hbx hs hsz hsd hv hps hF hFt hfb
  go_wp2_with fail
  rw [HW2.out]
  go_wp2_with fail
  refine (FI.out W2 _ TW2.out).mono ?_
  rintro e w3 ⟨rfl, hb⟩
  have HB3 := Lib.hid (HB2.out.trans (hb.mono HB2.out.size))
  have BP3 := Lib.hid (BP2.out.under hb BP2.out.lt)
  have TW3 := Lib.hid (TW2.out.keep hb)
  clear x0 x1 x2 hb HB2 BP2 TW2
  go_wp2_with fail
  refine (PI.out w3).mono ?_
  rintro e w4 ⟨LX, AX, qX, nX, mX, cX, dX, rfl, hr, hb⟩
  obtain ⟨W5, hW5⟩ : ∃ W5, w4.alloc (.cells #[.int .i64 qX, .slice LX nX cX, .slice AX mX dX] 27) = W5 := ⟨_, rfl⟩
  obtain ⟨X, hX⟩ : ∃ X, w4.heap.size = X := ⟨_, rfl⟩
  have hal : Below w4.heap.size w4 W5 := by rw [← hW5]; exact (Below.refl _ _).alloc (Nat.le_refl _) _
  have hbx : Box3 W5 X 27 (.int .i64 qX) (.slice LX nX cX) (.slice AX mX dX) := by rw [← hW5, ← hX]; exact Box3.new w4 _ _ _ _
  have hb' := hb.trans (hal.mono hb.size)
  have HB5 := Lib.hid (HB3.out.trans (hb'.mono HB3.out.size))
  have BP5 := Lib.hid (BP3.out.under hb' BP3.out.lt)
  have TW5 := Lib.hid (TW3.out.keep hb')
  have BX5 := Lib.hid hbx
  have TX5 := Lib.hid (hr.keep hal)
  have HW5 := Lib.hid hW5
  clear hr hb hb' hal hbx hW5 HB3 BP3 TW3 PI FI
  have rr := BP5.out
  rw [← HW5.out] at rr
  have x0 := rr.c0
  have x1 := rr.c1
  have x2 := rr.c2
  clear rr
  go_wp2_with fail
  rw [HW5.out]
  refine (FS.out W5 _ TW5.out).mono ?_
  rintro e w6 ⟨rfl, hb⟩
  have HB6 := Lib.hid (HB5.out.trans (hb.mono HB5.out.size))
  have BP6 := Lib.hid (BP5.out.under hb BP5.out.lt)
  have TW6 := Lib.hid (TW5.out.keep hb)
  have BX6 := Lib.hid (BX5.out.under hb BX5.out.lt)
  have TX6 := Lib.hid (TX5.out.keep hb)
  clear x0 x1 x2 hb HB5 BP5 TW5 BX5 TX5 FS
  have x0 := BP6.out.c0
  have x1 := BP6.out.c1
  have x2 := BP6.out.c2
  go_wp2_with fail
  refine (VS.out w6 _ TW6.out).mono ?_
  rintro e w7 ⟨rfl, hb⟩
  have HB7 := Lib.hid (HB6.out.trans (hb.mono HB6.out.size))
  have BP7 := Lib.hid (BP6.out.under hb BP6.out.lt)
  have TW7 := Lib.hid (TW6.out.keep hb)
  have BX7 := Lib.hid (BX6.out.under hb BX6.out.lt)
  have TX7 := Lib.hid (TX6.out.keep hb)
  clear x0 x1 x2 hb HB6 BP6 TW6 BX6 TX6 VS
  cases v with
  | false =>
    clear EQ BP7 TW7 BX7 TX7
    go_wp2_with fail
    refine (drawParseT_any A0 cap bs w7 (HC.out.below HB7.out)).mono ?_
    rintro e w9 ⟨z, rfl, hz, hb⟩
    have HB9 := Lib.hid (HB7.out.trans (hb.mono HB7.out.size))
    obtain ⟨G, hG⟩ : ∃ G, (prsS z.data.toList).getD zeroT = G := ⟨_, rfl⟩
    obtain ⟨gb, hgb⟩ : ∃ gb, (prsS z.data.toList).isSome = gb := ⟨_, rfl⟩
    have hwG : wt G ≤ 1048576 := by rw [← hG]; exact prsS_wt z (by omega)
    have PI : Hid (∀ (W : World), Calls Try.prog 9 #[.string z] W (PrsN G gb W)) := Lib.hid (fun W => (implParse_spec z W (by omega)).mono (fun _ _ h => prsN_of hG hgb h))
    have PS : Hid (∀ (W : World), Calls Try.prog 14 #[.string z] W (PrsN G gb W)) := Lib.hid (fun W => (specParse_any z W (by omega)).mono (fun _ _ h => prsN_of hG hgb h))
    have FI : Hid (gb = true → ∀ (W : World) (cs : List Value), RTy W G cs → Calls Try.prog 8 #[.agg cs.toArray] W (fun e w' => e = .returned (.string z) ∧ Below W.heap.size W w')) := Lib.hid (fun hh W cs hrr => by
      have hso : prsS z.data.toList = some G := by
        rw [← hgb] at hh
        obtain ⟨u, hu⟩ := Option.isSome_iff_exists.1 hh
        rw [hu] at hG ⊢
        exact congrArg some hG
      refine (implFormat_any G W cs hrr hwG).mono ?_
      rintro e w' ⟨rfl, hbb⟩
      exact ⟨by rw [prsS_back hso], hbb⟩)
    clear hz hb hG hgb hwG HB7
    go_wp2_with fail
    refine (PI.out w9).mono ?_
    rintro e w10 ⟨LY, AY, qY, nY, mY, cY, dY, rfl, hr, hb⟩
    obtain ⟨W11, hW11⟩ : ∃ W11, w10.alloc (.cells #[.int .i64 qY, .slice LY nY cY, .slice AY mY dY] 27) = W11 := ⟨_, rfl⟩
    obtain ⟨Y, hY⟩ : ∃ Y, w10.heap.size = Y := ⟨_, rfl⟩
    have hal : Below w10.heap.size w10 W11 := by rw [← hW11]; exact (Below.refl _ _).alloc (Nat.le_refl _) _
    have hbx : Box3 W11 Y 27 (.int .i64 qY) (.slice LY nY cY) (.slice AY mY dY) := by rw [← hW11, ← hY]; exact Box3.new w10 _ _ _ _
    have hb' := hb.trans (hal.mono hb.size)
    have HB11 := Lib.hid (HB9.out.trans (hb'.mono HB9.out.size))
    have BY11 := Lib.hid hbx
    have TY11 := Lib.hid (hr.keep hal)
    have HW11 := Lib.hid hW11
    clear hr hb hb' hal hbx hW11 HB9 PI
    go_wp2_with fail
    rw [HW11.out]
    refine (PS.out W11).mono ?_
    rintro e w12 ⟨LZ, AZ, qZ, nZ, mZ, cZ, dZ, rfl, hr, hb⟩
    obtain ⟨W13, hW13⟩ : ∃ W13, w12.alloc (.cells #[.int .i64 qZ, .slice LZ nZ cZ, .slice AZ mZ dZ] 27) = W13 := ⟨_, rfl⟩
    have hal : Below w12.heap.size w12 W13 := by rw [← hW13]; exact (Below.refl _ _).alloc (Nat.le_refl _) _
    have hb' := hb.trans (hal.mono hb.size)
    have HB13 := Lib.hid (HB11.out.trans (hb'.mono HB11.out.size))
    have BY13 := Lib.hid (BY11.out.under hb' BY11.out.lt)
    have TY13 := Lib.hid (TY11.out.keep hb')
    have HW13 := Lib.hid hW13
    clear hr hb hb' hal hW13 HB11 BY11 TY11 PS HW11
    have rr := BY13.out
    rw [← HW13.out] at rr
    have x0 := rr.c0
    have x1 := rr.c1
    have x2 := rr.c2
    clear rr
    cases gb with
    | false =>
      go_wp2_with fail
      rw [HW13.out]
      go_ret
      exact ⟨rfl, HB13.out⟩
    | true =>
      have HF := Lib.hid (FI.out rfl W13 _ TY13.out)
      go_wp2_with fail
      rw [HW13.out]
      refine HF.out.mono ?_
      rintro e w14 ⟨rfl, hb⟩
      have HY : Hid (LawYes w (.returned (.bool true)) w14) := ⟨rfl, HB13.out.trans (hb.mono HB13.out.size)⟩
      clear hb
      go_wp2_with fail
      go_ret
      exact HY.out
  | true =>
    have HE := Lib.hid (EQ.out rfl w7 _ _ TX7.out TW7.out)
    have x0 := BP7.out.c0
    have x1 := BP7.out.c1
    have x2 := BP7.out.c2
    have y0 := BX7.out.c0
    have y1 := BX7.out.c1
    have y2 := BX7.out.c2
    go_wp2_with fail
    refine HE.out.mono ?_
    rintro e w8 ⟨rfl, hb⟩
    have HB8 := Lib.hid (HB7.out.trans (hb.mono HB7.out.size))
    clear x0 x1 x2 y0 y1 y2 hb HE EQ HB7 BP7 TW7 BX7 TX7
    go_wp2_with fail
    refine (drawParseT_any A0 cap bs w8 (HC.out.below HB8.out)).mono ?_
    rintro e w9 ⟨z, rfl, hz, hb⟩
    have HB9 := Lib.hid (HB8.out.trans (hb.mono HB8.out.size))
    obtain ⟨G, hG⟩ : ∃ G, (prsS z.data.toList).getD zeroT = G := ⟨_, rfl⟩
    obtain ⟨gb, hgb⟩ : ∃ gb, (prsS z.data.toList).isSome = gb := ⟨_, rfl⟩
    have hwG : wt G ≤ 1048576 := by rw [← hG]; exact prsS_wt z (by omega)
    have PI : Hid (∀ (W : World), Calls Try.prog 9 #[.string z] W (PrsN G gb W)) := Lib.hid (fun W => (implParse_spec z W (by omega)).mono (fun _ _ h => prsN_of hG hgb h))
    have PS : Hid (∀ (W : World), Calls Try.prog 14 #[.string z] W (PrsN G gb W)) := Lib.hid (fun W => (specParse_any z W (by omega)).mono (fun _ _ h => prsN_of hG hgb h))
    have FI : Hid (gb = true → ∀ (W : World) (cs : List Value), RTy W G cs → Calls Try.prog 8 #[.agg cs.toArray] W (fun e w' => e = .returned (.string z) ∧ Below W.heap.size W w')) := Lib.hid (fun hh W cs hrr => by
      have hso : prsS z.data.toList = some G := by
        rw [← hgb] at hh
        obtain ⟨u, hu⟩ := Option.isSome_iff_exists.1 hh
        rw [hu] at hG ⊢
        exact congrArg some hG
      refine (implFormat_any G W cs hrr hwG).mono ?_
      rintro e w' ⟨rfl, hbb⟩
      exact ⟨by rw [prsS_back hso], hbb⟩)
    clear hz hb hG hgb hwG HB8
    go_wp2_with fail
    refine (PI.out w9).mono ?_
    rintro e w10 ⟨LY, AY, qY, nY, mY, cY, dY, rfl, hr, hb⟩
    obtain ⟨W11, hW11⟩ : ∃ W11, w10.alloc (.cells #[.int .i64 qY, .slice LY nY cY, .slice AY mY dY] 27) = W11 := ⟨_, rfl⟩
    obtain ⟨Y, hY⟩ : ∃ Y, w10.heap.size = Y := ⟨_, rfl⟩
    have hal : Below w10.heap.size w10 W11 := by rw [← hW11]; exact (Below.refl _ _).alloc (Nat.le_refl _) _
    have hbx : Box3 W11 Y 27 (.int .i64 qY) (.slice LY nY cY) (.slice AY mY dY) := by rw [← hW11, ← hY]; exact Box3.new w10 _ _ _ _
    have hb' := hb.trans (hal.mono hb.size)
    have HB11 := Lib.hid (HB9.out.trans (hb'.mono HB9.out.size))
    have BY11 := Lib.hid hbx
    have TY11 := Lib.hid (hr.keep hal)
    have HW11 := Lib.hid hW11
    clear hr hb hb' hal hbx hW11 HB9 PI
    go_wp2_with fail
    rw [HW11.out]
    refine (PS.out W11).mono ?_
    rintro e w12 ⟨LZ, AZ, qZ, nZ, mZ, cZ, dZ, rfl, hr, hb⟩
    obtain ⟨W13, hW13⟩ : ∃ W13, w12.alloc (.cells #[.int .i64 qZ, .slice LZ nZ cZ, .slice AZ mZ dZ] 27) = W13 := ⟨_, rfl⟩
    have hal : Below w12.heap.size w12 W13 := by rw [← hW13]; exact (Below.refl _ _).alloc (Nat.le_refl _) _
    have hb' := hb.trans (hal.mono hb.size)
    have HB13 := Lib.hid (HB11.out.trans (hb'.mono HB11.out.size))
    have BY13 := Lib.hid (BY11.out.under hb' BY11.out.lt)
    have TY13 := Lib.hid (TY11.out.keep hb')
    have HW13 := Lib.hid hW13
    clear hr hb hb' hal hW13 HB11 BY11 TY11 PS HW11
    have rr := BY13.out
    rw [← HW13.out] at rr
    have x0 := rr.c0
    have x1 := rr.c1
    have x2 := rr.c2
    clear rr
    cases gb with
    | false =>
      go_wp2_with fail
      rw [HW13.out]
      go_ret
      exact ⟨rfl, HB13.out⟩
    | true =>
      have HF := Lib.hid (FI.out rfl W13 _ TY13.out)
      go_wp2_with fail
      rw [HW13.out]
      refine HF.out.mono ?_
      rintro e w14 ⟨rfl, hb⟩
      have HY : Hid (LawYes w (.returned (.bool true)) w14) := ⟨rfl, HB13.out.trans (hb.mono HB13.out.size)⟩
      clear hb
      go_wp2_with fail
      go_ret
      exact HY.out
end Go.Proofs.Ytffaggiblglcbaa
