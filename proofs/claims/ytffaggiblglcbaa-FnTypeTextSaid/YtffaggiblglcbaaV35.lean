/-
  Merged by program: SqU.
-/
import Derived.Test.YtffaggiblglcbaaV34

/-
  The model's reader of types: l4Type, the walk.
-/
namespace Go.Proofs.Ytffaggiblglcbaa
open Go.RowKit

theorem RdSt.setBad {w : World} {b : Nat} {s : ByteArray} {r : List UInt8} {bad : Bool} (h : RdSt w b s r bad) (bad' : Bool) : RdSt (w.setCell ⟨b, 2, none⟩ (.bool bad')) b s r bad' := by
  obtain ⟨k, hk, ha⟩ := h
  exact ⟨k, hk.set2 _, ha⟩
theorem RdSt.freeBad {w : World} {b : Nat} {s : ByteArray} {r : List UInt8} {bad : Bool} (h : RdSt w b s r bad) : w.frozen? ⟨b, 2, none⟩ = false := by
  obtain ⟨k, hk, _⟩ := h
  exact hk.free 2
theorem TMid.setBad {b H : Nat} {s : ByteArray} {w wx : World} {r : List UInt8} {bad : Bool} (h : TMid b s H w r bad wx) (bad' : Bool) : TMid b s H w r bad' (wx.setCell ⟨b, 2, none⟩ (.bool bad')) := by
  obtain ⟨h2, h3, h4, h5, h6⟩ := h
  exact ⟨h2.far (by show H ≠ b; omega) _, h3.setBad bad', h4.setP 2 _, h5, h6⟩
theorem mem_more {H N M : Nat} {fp : List Nat} (h : ∀ x ∈ fp, H < x ∧ x < N) (h1 : H < N) (h2 : N < M) : ∀ x ∈ N :: fp, H < x ∧ x < M := fun x hx => by
  rcases List.mem_cons.1 hx with rfl | hx
  · exact ⟨h1, h2⟩
  · have := h x hx
    omega
theorem sq_73 {D : Nat} {r r1 : List UInt8} (h1 : tk 73 r = some r1) : sq (D + 1) r = some (.node ⟨1, []⟩ [], r1) := by simp [sq, h1]
theorem sq_66 {D : Nat} {r r1 : List UInt8} (h1 : tk 73 r = none) (h2 : tk 66 r = some r1) : sq (D + 1) r = some (.node ⟨2, []⟩ [], r1) := by simp [sq, h1, h2]
theorem sq_123 {D : Nat} {r r1 : List UInt8} (h1 : tk 73 r = none) (h2 : tk 66 r = none) (h3 : tk 123 r = some r1) : sq (D + 1) r = (sqF (sq D) (r1.length + 1) r1).map fun y => (.node ⟨3, y.1⟩ y.2.1, y.2.2) := by simp [sq, h1, h2, h3]
theorem sq_91 {D : Nat} {r r1 : List UInt8} (h1 : tk 73 r = none) (h2 : tk 66 r = none) (h3 : tk 123 r = none) (h4 : tk 91 r = some r1) : sq (D + 1) r = (sq D r1).bind fun x => (tk 93 x.2).map fun r3 => (.node ⟨4, []⟩ [x.1], r3) := by simp [sq, h1, h2, h3, h4]
theorem sq_40 {D : Nat} {r : List UInt8} (h1 : tk 73 r = none) (h2 : tk 66 r = none) (h3 : tk 123 r = none) (h4 : tk 91 r = none) : sq (D + 1) r = (tk 40 r).bind fun r1 => (sq D r1).bind fun x => (tk 62 x.2).bind fun r2 => (sq D r2).bind fun y => (tk 41 y.2).map fun r3 => (.node ⟨5, []⟩ [x.1, y.1], r3) := by simp [sq, h1, h2, h3, h4]
theorem fun_sr1 {D : Nat} {r r1 r5 : List UInt8} {t : Ty} {bad : Bool} (hs : sq (D + 1) r = (tk 40 r).bind fun r1 => (sq D r1).bind fun x => (tk 62 x.2).bind fun r2 => (sq D r2).bind fun y => (tk 41 y.2).map fun r3 => (.node ⟨5, []⟩ [x.1, y.1], r3)) (h1 : tk 40 r = some r1) (h : Sr (sq D r1) t r5 bad) (h2 : tkB bad 62 r5 = none) : sq (D + 1) r = none := by
  rw [hs, h1]
  rcases h with ⟨rfl, h⟩ | ⟨rfl, h⟩
  · have h2' : tk 62 r5 = none := h2
    simp [h, h2']
  · simp [h]
theorem fun_sr {D : Nat} {r r1 r5 r6 r8 : List UInt8} {t u : Ty} {bad bad' : Bool} (hs : sq (D + 1) r = (tk 40 r).bind fun r1 => (sq D r1).bind fun x => (tk 62 x.2).bind fun r2 => (sq D r2).bind fun y => (tk 41 y.2).map fun r3 => (.node ⟨5, []⟩ [x.1, y.1], r3)) (h1 : tk 40 r = some r1) (h : Sr (sq D r1) t r5 bad) (h2 : tkB bad 62 r5 = some r6) (h3 : Sr (sq D r6) u r8 bad') :
    Sr (sq (D + 1) r) (.node ⟨5, []⟩ [t, u]) ((tkB bad' 41 r8).getD r8) (!(tkB bad' 41 r8).isSome) := by
  rw [hs, h1]
  rcases h with ⟨rfl, h⟩ | ⟨rfl, h⟩
  · have h2' : tk 62 r5 = some r6 := h2
    rcases h3 with ⟨rfl, h3⟩ | ⟨rfl, h3⟩
    · simp only [Option.bind_some, h, h2', h3]
      show Sr ((tk 41 r8).map _) _ ((tk 41 r8).getD r8) (!(tk 41 r8).isSome)
      cases tk 41 r8 with
      | none => exact .inr ⟨rfl, rfl⟩
      | some r3 => exact .inl ⟨rfl, rfl⟩
    · simp only [Option.bind_some, h, h2', h3]
      exact .inr ⟨rfl, rfl⟩
  · cases h2
theorem bag_sr {D : Nat} {r r1 r5 : List UInt8} {t : Ty} {bad : Bool} (hs : sq (D + 1) r = (sq D r1).bind fun x => (tk 93 x.2).map fun r3 => (.node ⟨4, []⟩ [x.1], r3)) (h : Sr (sq D r1) t r5 bad) :
    Sr (sq (D + 1) r) (.node ⟨4, []⟩ [t]) ((tkB bad 93 r5).getD r5) (!(tkB bad 93 r5).isSome) := by
  rcases h with ⟨rfl, h⟩ | ⟨rfl, h⟩
  · rw [hs, h]
    show Sr ((tk 93 r5).map _) _ ((tk 93 r5).getD r5) (!(tk 93 r5).isSome)
    cases tk 93 r5 with
    | none => exact .inr ⟨rfl, rfl⟩
    | some r3 => exact .inl ⟨rfl, rfl⟩
  · rw [hs, h]
    exact .inr ⟨rfl, rfl⟩

set_option maxHeartbeats 12800000 in
set_option maxRecDepth 100000 in
theorem l4Type_step (D : Nat) (hD : D ≤ 6) (ih : ∀ (q : Int) (b : Nat) (s : ByteArray) (r : List UInt8) (bad : Bool) (w : World), q + D = 8 → s.size ≤ 1048576 → RdSt w b s r bad → Calls Try.prog 33 #[.pointer (some ⟨b, 0, none⟩), .int .i64 q] w (SqP b s (if bad = true then none else sq D r) w))
    (q : Int) (b : Nat) (s : ByteArray) (r : List UInt8) (bad : Bool) (w : World) (hq : q + (D + 1 : Nat) = 8) (hs : s.size ≤ 1048576) (h : RdSt w b s r bad) : Calls Try.prog 33 #[.pointer (some ⟨b, 0, none⟩), .int .i64 q] w (SqP b s (if bad = true then none else sq (D + 1) r) w) := by
  have hbl := h.lt
  obtain ⟨H, hH⟩ : ∃ H, w.heap.size = H := ⟨_, rfl⟩
  obtain ⟨W1, hW1⟩ : ∃ W1, w.alloc (.cells #[.int .i64 0, .slice none 0 0, .slice none 0 0] 27) = W1 := ⟨_, rfl⟩
  have hb1 : Below w.heap.size w W1 := by rw [← hW1]; exact (Below.refl _ _).alloc (Nat.le_refl _) _
  have hm1 : TMid b s H w r bad W1 := ⟨by rw [← hW1, ← hH]; exact Box3.new w _ _ _ _, h.under hb1, by rw [← hH]; exact Fr.of_below hb1, by omega, hH⟩
  have hq0 : 0 ≤ q := by omega
  have hq7 : q ≤ 7 := by omega
  have x2 := hm1.2.1.cellBad
  have y2 := hm1.2.1.freeBad
  have hbH : ¬ H = b := by omega
  have hbH' : ¬ b = H := by omega
  have HW1 := Lib.hid hW1
  have HI := Lib.hid ih
  cases bad with
  | true =>
    have HM := Lib.hid (hm1.setBad true)
    have HD := Lib.hid ((hm1.setBad true).zero (o := none) rfl rfl)
    clear hm1 h hb1 hW1 ih
    go_enter Try.func33, Try.ntmps33
    go_upto_region 1 with (fail)
    rw [HW1.out]
    have z0 := HM.out.1.c0
    have z1 := HM.out.1.c1
    have z2 := HM.out.1.c2
    have f0 := HM.out.1.free 0
    have f1 := HM.out.1.free 1
    have f2 := HM.out.1.free 2
    go_wp2_with fail
    clear z0 z1 z2 f0 f1 f2
    have t0 := HD.out.2.c0
    have t1 := HD.out.2.c1
    have t2 := HD.out.2.c2
    exact bodyPost_ret (v := .agg #[.int .i64 0, .slice none 0 0, .slice none 0 0]) (by simp [results, Try.results33, go_sem, t0, t1, t2]) rfl HD.out.1
  | false =>
    have hm2 := hm1.setBad false
    obtain ⟨W2, hW2⟩ : ∃ W2, W1.setCell ⟨b, 2, none⟩ (.bool false) = W2 := ⟨_, rfl⟩
    rw [hW2] at hm2
    have HM2 := Lib.hid hm2
    have HW2 := Lib.hid hW2
    have hgt : ¬ (7 < q) := by omega
    have x3 := hm2.2.1.cellBad
    rw [← hW2] at x3
    rw [if_neg (by decide)]
    clear hm1 hm2 h hb1 hW1 hW2 ih
    go_enter Try.func33, Try.ntmps33
    go_upto_region 1 with (fail)
    rw [HW1.out]
    go_upto_region 4 with (fail)
    rw [HW2.out]
    have HTa := Lib.hid (l4Take_any b s r false 73 W2 HM2.out.2.1 hs)
    unfold TakeP at HTa
    cases hoa : tk 73 r with
    | some r1 =>
      rw [show tkB false 73 r = some r1 from hoa] at HTa
      simp only [Option.isSome_some, Option.getD_some] at HTa
      have HOa := Lib.hid hoa
      clear hoa
      go_wp2_with fail
      refine HTa.out.mono ?_
      rintro e va ⟨rfl, hra, hfa⟩
      have HMa := Lib.hid (HM2.out.call hra hfa)
      clear hra hfa HTa
      have HS : Hid (sq (D + 1) r = some (.node ⟨1, []⟩ [], r1)) := Lib.hid (sq_73 HOa.out)
      have HC := Lib.hid (l3Int_any va)
      go_wp2_with fail
      refine HC.out.mono ?_
      rintro e w5 hmade
      obtain ⟨L5, A5, c5, d5, rfl, hm5, hdn⟩ := HMa.out.made hmade (o := sq (D + 1) r) (.inl ⟨rfl, HS.out⟩) (q := 1) (n := 0) (m := 0) rfl rfl rfl
      clear hmade
      have HM5 := Lib.hid hm5
      have HD := Lib.hid hdn
      clear hm5 hdn HC
      have z0 := HM5.out.1.c0
      have z1 := HM5.out.1.c1
      have z2 := HM5.out.1.c2
      have f0 := HM5.out.1.free 0
      have f1 := HM5.out.1.free 1
      have f2 := HM5.out.1.free 2
      go_wp2_with fail
      clear z0 z1 z2 f0 f1 f2
      have t0 := HD.out.2.c0
      have t1 := HD.out.2.c1
      have t2 := HD.out.2.c2
      exact bodyPost_ret (v := .agg #[.int .i64 1, .slice L5 0 c5, .slice A5 0 d5]) (by simp [results, Try.results33, go_sem, t0, t1, t2]) rfl HD.out.1
    | none =>
      rw [show tkB false 73 r = none from hoa] at HTa
      simp only [Option.isSome_none, Option.getD_none] at HTa
      have HOa := Lib.hid hoa
      clear hoa
      go_wp2_with fail
      refine HTa.out.mono ?_
      rintro e va ⟨rfl, hra, hfa⟩
      have HMa := Lib.hid (HM2.out.call hra hfa)
      clear hra hfa HTa
      have HTb := Lib.hid (l4Take_any b s r false 66 va HMa.out.2.1 hs)
      unfold TakeP at HTb
      cases hob : tk 66 r with
      | some r1 =>
        rw [show tkB false 66 r = some r1 from hob] at HTb
        simp only [Option.isSome_some, Option.getD_some] at HTb
        have HOb := Lib.hid hob
        clear hob
        go_wp2_with fail
        refine HTb.out.mono ?_
        rintro e vb ⟨rfl, hrb, hfb⟩
        have HMb := Lib.hid (HMa.out.call hrb hfb)
        clear hrb hfb HTb
        have HS : Hid (sq (D + 1) r = some (.node ⟨2, []⟩ [], r1)) := Lib.hid (sq_66 HOa.out HOb.out)
        have HC := Lib.hid (l3Bool_any vb)
        go_wp2_with fail
        refine HC.out.mono ?_
        rintro e w5 hmade
        obtain ⟨L5, A5, c5, d5, rfl, hm5, hdn⟩ := HMb.out.made hmade (o := sq (D + 1) r) (.inl ⟨rfl, HS.out⟩) (q := 2) (n := 0) (m := 0) rfl rfl rfl
        clear hmade
        have HM5 := Lib.hid hm5
        have HD := Lib.hid hdn
        clear hm5 hdn HC
        have z0 := HM5.out.1.c0
        have z1 := HM5.out.1.c1
        have z2 := HM5.out.1.c2
        have f0 := HM5.out.1.free 0
        have f1 := HM5.out.1.free 1
        have f2 := HM5.out.1.free 2
        go_wp2_with fail
        clear z0 z1 z2 f0 f1 f2
        have t0 := HD.out.2.c0
        have t1 := HD.out.2.c1
        have t2 := HD.out.2.c2
        exact bodyPost_ret (v := .agg #[.int .i64 2, .slice L5 0 c5, .slice A5 0 d5]) (by simp [results, Try.results33, go_sem, t0, t1, t2]) rfl HD.out.1
      | none =>
        rw [show tkB false 66 r = none from hob] at HTb
        simp only [Option.isSome_none, Option.getD_none] at HTb
        have HOb := Lib.hid hob
        clear hob
        go_wp2_with fail
        refine HTb.out.mono ?_
        rintro e vb ⟨rfl, hrb, hfb⟩
        have HMb := Lib.hid (HMa.out.call hrb hfb)
        clear hrb hfb HTb
        have HTc := Lib.hid (l4Take_any b s r false 123 vb HMb.out.2.1 hs)
        unfold TakeP at HTc
        cases hoc : tk 123 r with
        | some r1 =>
          rw [show tkB false 123 r = some r1 from hoc] at HTc
          simp only [Option.isSome_some, Option.getD_some] at HTc
          have HOc := Lib.hid hoc
          clear hoc
          go_wp2_with fail
          refine HTc.out.mono ?_
          rintro e vc ⟨rfl, hrc, hfc⟩
          have HMc := Lib.hid (HMb.out.call hrc hfc)
          clear hrc hfc HTc
          have HS : Hid (sq (D + 1) r = (sqF (sq D) (r1.length + 1) r1).map fun y => (.node ⟨3, y.1⟩ y.2.1, y.2.2)) := Lib.hid (sq_123 HOa.out HOb.out HOc.out)
          have HC := Lib.hid (l4Rec_of D HI.out (q + 1) b s r1 vc (by omega) hs HMc.out.2.1)
          go_wp2_with fail
          refine HC.out.mono ?_
          rintro e w5 ⟨t, L5, A5, c5, d5, fp, r5, bad5, rfl, hot, hfp, hr5, hf5, hsr⟩
          have hm5 := HMc.out.call hr5 hf5
          have hfp' : ∀ x ∈ fp, H < x ∧ x < w5.heap.size := fun x hx => by have h1 := hfp x hx; have h2 := HMc.out.lt; omega
          rw [← HS.out] at hsr
          have HD := Lib.hid (hm5.done hot hfp' hsr rfl rfl rfl)
          have HM5 := Lib.hid hm5
          clear hot hfp hfp' hr5 hf5 hsr hm5 HC
          generalize t.top.kind = y0 at HD ⊢
          generalize t.top.labels.length = y1 at HD ⊢
          generalize t.kids.length = y2 at HD ⊢
          have z0 := HM5.out.1.c0
          have z1 := HM5.out.1.c1
          have z2 := HM5.out.1.c2
          have f0 := HM5.out.1.free 0
          have f1 := HM5.out.1.free 1
          have f2 := HM5.out.1.free 2
          go_wp2_with fail
          clear z0 z1 z2 f0 f1 f2
          have t0 := HD.out.2.c0
          have t1 := HD.out.2.c1
          have t2 := HD.out.2.c2
          exact bodyPost_ret (v := .agg #[.int .i64 y0, .slice L5 y1 c5, .slice A5 y2 d5]) (by simp [results, Try.results33, go_sem, t0, t1, t2]) rfl HD.out.1
        | none =>
          rw [show tkB false 123 r = none from hoc] at HTc
          simp only [Option.isSome_none, Option.getD_none] at HTc
          have HOc := Lib.hid hoc
          clear hoc
          go_wp2_with fail
          refine HTc.out.mono ?_
          rintro e vc ⟨rfl, hrc, hfc⟩
          have HMc := Lib.hid (HMb.out.call hrc hfc)
          clear hrc hfc HTc
          have HTd := Lib.hid (l4Take_any b s r false 91 vc HMc.out.2.1 hs)
          unfold TakeP at HTd
          cases hod : tk 91 r with
          | some r1 =>
            rw [show tkB false 91 r = some r1 from hod] at HTd
            simp only [Option.isSome_some, Option.getD_some] at HTd
            have HOd := Lib.hid hod
            clear hod
            go_wp2_with fail
            refine HTd.out.mono ?_
            rintro e vd ⟨rfl, hrd, hfd⟩
            have HMd := Lib.hid (HMc.out.call hrd hfd)
            clear hrd hfd HTd
            have HS : Hid (sq (D + 1) r = (sq D r1).bind fun x => (tk 93 x.2).map fun r3 => (.node ⟨4, []⟩ [x.1], r3)) := Lib.hid (sq_91 HOa.out HOb.out HOc.out HOd.out)
            have HC := Lib.hid (HI.out (q + 1) b s r1 false vd (by omega) hs HMd.out.2.1)
            go_wp2_with fail
            refine HC.out.mono ?_
            rintro e w5 ⟨t, L5, A5, c5, d5, fp, r5, bad5, rfl, hot, hfp, hr5, hf5, hsr⟩
            have hm5 := HMd.out.call hr5 hf5
            have hfp' : ∀ x ∈ fp, H < x ∧ x < w5.heap.size := fun x hx => by have h1 := hfp x hx; have h2 := HMd.out.lt; omega
            have hsr' : Sr (sq D r1) t r5 bad5 := hsr
            have HS5 := Lib.hid (bag_sr HS.out hsr')
            have hbo := bag_own hot (fun x hx => (hfp' x hx).2)
            obtain ⟨N, hN⟩ : ∃ N, w5.heap.size = N := ⟨_, rfl⟩
            obtain ⟨y0, hy0⟩ : ∃ y, t.top.kind = y := ⟨_, rfl⟩
            obtain ⟨y1, hy1⟩ : ∃ y, t.top.labels.length = y := ⟨_, rfl⟩
            obtain ⟨y2, hy2⟩ : ∃ y, t.kids.length = y := ⟨_, rfl⟩
            rw [hy0, hy1, hy2] at hbo
            rw [hy0, hy1, hy2]
            rw [hN] at hbo hfp'
            obtain ⟨W6, hW6⟩ : ∃ W6, (w5.alloc (.cells #[.int .i64 y0, .slice L5 y1 c5, .slice A5 y2 d5] 27)).alloc (.cells #[.int .i64 4, .slice none 0 0, .slice (some ⟨N, 0, none⟩) 1 1] 27) = W6 := ⟨_, rfl⟩
            have hb6 : Below w5.heap.size w5 W6 := by rw [← hW6]; exact ((Below.refl _ _).alloc (Nat.le_refl _) _).alloc (by simp) _
            have hz6 : W6.heap.size = N + 2 := by rw [← hW6]; simp [hN]
            have hbx6 : Box3 W6 (N + 1) 27 (.int .i64 4) (.slice none 0 0) (.slice (some ⟨N, 0, none⟩) 1 1) := by
              have := Box3.new (w5.alloc (.cells #[.int .i64 y0, .slice L5 y1 c5, .slice A5 y2 d5] 27)) 27 (.int .i64 4) (.slice none 0 0) (.slice (some ⟨N, 0, none⟩) 1 1)
              rw [World.size_alloc, hN, hW6] at this
              exact this
            have hbo6 : OTy W6 (.node ⟨4, []⟩ [t]) [.int .i64 4, .slice none 0 0, .slice (some ⟨N, 0, none⟩) 1 1] (N :: fp) := by rw [← hW6]; exact hbo.under ((Below.refl _ _).alloc (Nat.le_refl _) _)
            have hm6 := hm5.under hb6
            have HMU := Lib.hid (l4Must_any b s r5 bad5 93 W6 hm6.2.1 hs)
            unfold MustP at HMU
            have HM6 := Lib.hid hm6
            have HBX6 := Lib.hid hbx6
            have HBO6 := Lib.hid hbo6
            have HFP := Lib.hid hfp'
            have HZ6 := Lib.hid hz6
            have HW6 := Lib.hid hW6
            have hNH : H < N := by have := hm5.lt; omega
            have HNH := Lib.hid hNH
            clear hot hfp hfp' hr5 hf5 hsr hsr' hm5 HC hbo hb6 hz6 hbx6 hbo6 hm6 hW6 hy0 hy1 hy2 hNH
            go_wp2_with fail
            rw [HW6.out]
            refine HMU.out.mono ?_
            rintro e w7 ⟨rfl, hr7, hf7⟩
            have hm7 := HM6.out.call hr7 hf7
            have hz6 := HZ6.out
            have hnh := HNH.out
            have hb7 := HBX6.out.fr hf7 (by omega) (by have := hm7.2.2.2.1; omega) (by have := hm7.2.2.2.1; omega)
            have ho7 := HBO6.out.fr hf7 (fun x hx => by have h1 := hm7.2.2.2.1; have h2 := mem_more HFP.out (M := N + 2) hnh (by omega) x hx; omega)
            have HD := Lib.hid (hm7.done (t := .node ⟨4, []⟩ [t]) ho7 (fun x hx => by have h1 := hf7.size; have h2 := mem_more HFP.out (M := N + 2) hnh (by omega) x hx; omega) HS5.out (q := 4) (n := 0) (m := 1) rfl rfl rfl)
            have q0 := hb7.c0
            have q1 := hb7.c1
            have q2 := hb7.c2
            have HM7 := Lib.hid hm7
            clear hr7 hf7 hm7 hb7 ho7 HMU hz6 hnh
            have z0 := HM7.out.1.c0
            have z1 := HM7.out.1.c1
            have z2 := HM7.out.1.c2
            have f0 := HM7.out.1.free 0
            have f1 := HM7.out.1.free 1
            have f2 := HM7.out.1.free 2
            go_wp2_with fail
            clear z0 z1 z2 f0 f1 f2
            have t0 := HD.out.2.c0
            have t1 := HD.out.2.c1
            have t2 := HD.out.2.c2
            exact bodyPost_ret (v := .agg #[.int .i64 4, .slice none 0 0, .slice (some ⟨N, 0, none⟩) 1 1]) (by simp [results, Try.results33, go_sem, t0, t1, t2]) rfl HD.out.1
          | none =>
            rw [show tkB false 91 r = none from hod] at HTd
            simp only [Option.isSome_none, Option.getD_none] at HTd
            have HOd := Lib.hid hod
            clear hod
            go_wp2_with fail
            refine HTd.out.mono ?_
            rintro e vd ⟨rfl, hrd, hfd⟩
            have HMd := Lib.hid (HMc.out.call hrd hfd)
            clear hrd hfd HTd
            have HS : Hid (sq (D + 1) r = (tk 40 r).bind fun r1 => (sq D r1).bind fun x => (tk 62 x.2).bind fun r2 => (sq D r2).bind fun y => (tk 41 y.2).map fun r3 => (.node ⟨5, []⟩ [x.1, y.1], r3)) := Lib.hid (sq_40 HOa.out HOb.out HOc.out HOd.out)
            have HMU := Lib.hid (l4Must_any b s r false 40 vd HMd.out.2.1 hs)
            unfold MustP at HMU
            cases hoe : tk 40 r with
            | none =>
              rw [show tkB false 40 r = none from hoe] at HMU
              simp only [Option.isSome_none, Option.getD_none, Bool.not_false] at HMU
              have HSN : Hid (sq (D + 1) r = none) := Lib.hid (by rw [HS.out, hoe]; rfl)
              clear hoe
              go_wp2_with fail
              refine HMU.out.mono ?_
              rintro e w5 ⟨rfl, hr5, hf5⟩
              have hm5 := HMd.out.call hr5 hf5
              have HD := Lib.hid (hm5.zero rfl HSN.out)
              have HM5 := Lib.hid hm5
              have x5 := hm5.2.1.cellBad
              clear hm5 hr5 hf5 HMU
              have z0 := HM5.out.1.c0
              have z1 := HM5.out.1.c1
              have z2 := HM5.out.1.c2
              have f0 := HM5.out.1.free 0
              have f1 := HM5.out.1.free 1
              have f2 := HM5.out.1.free 2
              go_wp2_with fail
              clear z0 z1 z2 f0 f1 f2
              have t0 := HD.out.2.c0
              have t1 := HD.out.2.c1
              have t2 := HD.out.2.c2
              exact bodyPost_ret (v := .agg #[.int .i64 0, .slice none 0 0, .slice none 0 0]) (by simp [results, Try.results33, go_sem, t0, t1, t2]) rfl HD.out.1
            | some r1 =>
              rw [show tkB false 40 r = some r1 from hoe] at HMU
              simp only [Option.isSome_some, Option.getD_some, Bool.not_true] at HMU
              have HOe := Lib.hid hoe
              clear hoe
              go_wp2_with fail
              refine HMU.out.mono ?_
              rintro e w4 ⟨rfl, hr4, hf4⟩
              have hm4 := HMd.out.call hr4 hf4
              have x4 := hm4.2.1.cellBad
              have HM4 := Lib.hid hm4
              clear hm4 hr4 hf4 HMU
              have HC := Lib.hid (HI.out (q + 1) b s r1 false w4 (by omega) hs HM4.out.2.1)
              go_wp2_with fail
              refine HC.out.mono ?_
              rintro e w5 ⟨t, L5, A5, c5, d5, fp, r5, bad5, rfl, hot, hfp, hr5, hf5, hsr⟩
              clear x4
              have hm5 := HM4.out.call hr5 hf5
              have hfp' : ∀ x ∈ fp, H < x ∧ x < w5.heap.size := fun x hx => by have h1 := hfp x hx; have h2 := HM4.out.lt; omega
              have hsr' : Sr (sq D r1) t r5 bad5 := hsr
              obtain ⟨N, hN⟩ : ∃ N, w5.heap.size = N := ⟨_, rfl⟩
              obtain ⟨y0, hy0⟩ : ∃ y, t.top.kind = y := ⟨_, rfl⟩
              obtain ⟨y1, hy1⟩ : ∃ y, t.top.labels.length = y := ⟨_, rfl⟩
              obtain ⟨y2, hy2⟩ : ∃ y, t.kids.length = y := ⟨_, rfl⟩
              rw [hy0, hy1, hy2] at hot
              rw [hy0, hy1, hy2]
              rw [hN] at hfp'
              obtain ⟨W6, hW6⟩ : ∃ W6, w5.alloc (.cells #[.int .i64 y0, .slice L5 y1 c5, .slice A5 y2 d5] 27) = W6 := ⟨_, rfl⟩
              have hb6 : Below w5.heap.size w5 W6 := by rw [← hW6]; exact (Below.refl _ _).alloc (Nat.le_refl _) _
              have hz6 : W6.heap.size = N + 1 := by rw [← hW6]; simp [hN]
              have hbx6 : Box3 W6 N 27 (.int .i64 y0) (.slice L5 y1 c5) (.slice A5 y2 d5) := by rw [← hW6, ← hN]; exact Box3.new w5 _ _ _ _
              have hm6 := hm5.under hb6
              have HMU := Lib.hid (l4Must_any b s r5 bad5 62 W6 hm6.2.1 hs)
              unfold MustP at HMU
              have hNH : H < N := by have := hm5.lt; omega
              have HM6 := Lib.hid hm6
              have HBX6 := Lib.hid hbx6
              have HOT := Lib.hid (hot.under hb6)
              have HFP := Lib.hid hfp'
              have HZ6 := Lib.hid hz6
              have HW6 := Lib.hid hW6
              have HNH := Lib.hid hNH
              have HSR := Lib.hid hsr'
              clear hot hfp hfp' hr5 hf5 hsr hsr' hm5 HC hb6 hz6 hbx6 hm6 hW6 hy0 hy1 hy2 hNH
              cases hog : tkB bad5 62 r5 with
              | none =>
                rw [hog] at HMU
                simp only [Option.isSome_none, Option.getD_none, Bool.not_false] at HMU
                have HSN : Hid (sq (D + 1) r = none) := Lib.hid (fun_sr1 HS.out HOe.out HSR.out hog)
                clear hog
                go_wp2_with fail
                rw [HW6.out]
                refine HMU.out.mono ?_
                rintro e w7 ⟨rfl, hr7, hf7⟩
                have hm7 := HM6.out.call hr7 hf7
                have HD := Lib.hid (hm7.zero rfl HSN.out)
                have HM7 := Lib.hid hm7
                have x7 := hm7.2.1.cellBad
                clear hm7 hr7 hf7 HMU
                have z0 := HM7.out.1.c0
                have z1 := HM7.out.1.c1
                have z2 := HM7.out.1.c2
                have f0 := HM7.out.1.free 0
                have f1 := HM7.out.1.free 1
                have f2 := HM7.out.1.free 2
                go_wp2_with fail
                clear z0 z1 z2 f0 f1 f2
                have t0 := HD.out.2.c0
                have t1 := HD.out.2.c1
                have t2 := HD.out.2.c2
                exact bodyPost_ret (v := .agg #[.int .i64 0, .slice none 0 0, .slice none 0 0]) (by simp [results, Try.results33, go_sem, t0, t1, t2]) rfl HD.out.1
              | some r6 =>
                rw [hog] at HMU
                simp only [Option.isSome_some, Option.getD_some, Bool.not_true] at HMU
                have HOg := Lib.hid hog
                clear hog
                go_wp2_with fail
                rw [HW6.out]
                refine HMU.out.mono ?_
                rintro e w7 ⟨rfl, hr7, hf7⟩
                have hm7 := HM6.out.call hr7 hf7
                have hz6 := HZ6.out
                have hnh := HNH.out
                have hbH7 := hm7.2.2.2.1
                have HBX7 := Lib.hid (HBX6.out.fr hf7 (by omega) (by omega) (by omega))
                have HOT7 := Lib.hid (HOT.out.fr hf7 (fun x hx => by have h1 := HFP.out x hx; omega))
                have HS7 := Lib.hid hf7.size
                have x7 := hm7.2.1.cellBad
                have HM7 := Lib.hid hm7
                clear hm7 hr7 hf7 HMU hz6 hnh hbH7
                have HC := Lib.hid (HI.out (q + 1) b s r6 false w7 (by omega) hs HM7.out.2.1)
                go_wp2_with fail
                refine HC.out.mono ?_
                rintro e w8 ⟨u, L8, A8, c8, d8, gp, r8, bad8, rfl, hou, hgp, hr8, hf8, hsu⟩
                clear x7
                have hm8 := HM7.out.call hr8 hf8
                have hsu' : Sr (sq D r6) u r8 bad8 := hsu
                obtain ⟨M, hM⟩ : ∃ M, w8.heap.size = M := ⟨_, rfl⟩
                have hz6 := HZ6.out
                have hnh := HNH.out
                have hbH8 := hm8.2.2.2.1
                have hs7 := HS7.out
                have hs8 := hf8.size
                have hgp' : ∀ x ∈ gp, N < x ∧ x < M := fun x hx => by have h1 := hgp x hx; omega
                have hot8 := HOT7.out.fr hf8 (fun x hx => by have h1 := HFP.out x hx; omega)
                have hbx8 := HBX7.out.fr hf8 (by omega) (by omega) (by omega)
                obtain ⟨u0, hu0⟩ : ∃ y, u.top.kind = y := ⟨_, rfl⟩
                obtain ⟨u1, hu1⟩ : ∃ y, u.top.labels.length = y := ⟨_, rfl⟩
                obtain ⟨u2, hu2⟩ : ∃ y, u.kids.length = y := ⟨_, rfl⟩
                rw [hu0, hu1, hu2] at hou
                rw [hu0, hu1, hu2]
                obtain ⟨W9, hW9⟩ : ∃ W9, w8.alloc (.cells #[.int .i64 u0, .slice L8 u1 c8, .slice A8 u2 d8] 27) = W9 := ⟨_, rfl⟩
                have hb9 : Below w8.heap.size w8 W9 := by rw [← hW9]; exact (Below.refl _ _).alloc (Nat.le_refl _) _
                have hz9 : W9.heap.size = M + 1 := by rw [← hW9]; simp [hM]
                have hbx9 : Box3 W9 M 27 (.int .i64 u0) (.slice L8 u1 c8) (.slice A8 u2 d8) := by rw [← hW9, ← hM]; exact Box3.new w8 _ _ _ _
                have hm9 := hm8.under hb9
                have HMU := Lib.hid (l4Must_any b s r8 bad8 41 W9 hm9.2.1 hs)
                unfold MustP at HMU
                have HNM : Hid (N < M) := Lib.hid (by omega)
                have HM9 := Lib.hid hm9
                have HBA9 := Lib.hid (hbx8.under hb9 hbx8.lt)
                have HBB9 := Lib.hid hbx9
                have HOT9 := Lib.hid (hot8.under hb9)
                have HOU9 := Lib.hid (hou.under hb9)
                have HGP := Lib.hid hgp'
                have HZ9 := Lib.hid hz9
                have HW9 := Lib.hid hW9
                have HSU := Lib.hid hsu'
                clear hou hgp hgp' hr8 hf8 hsu hsu' hm8 HC hb9 hz9 hbx9 hbx8 hot8 hm9 hW9 hu0 hu1 hu2 hz6 hnh hbH8 hs7 hs8
                go_wp2_with fail
                rw [HW9.out]
                refine HMU.out.mono ?_
                rintro e w10 ⟨rfl, hr10, hf10⟩
                have hm10 := HM9.out.call hr10 hf10
                have hz9 := HZ9.out
                have hnh := HNH.out
                have hnm := HNM.out
                have hbH10 := hm10.2.2.2.1
                have hs10 := hf10.size
                have hba := HBA9.out.fr hf10 (by omega) (by omega) (by omega)
                have hbb := HBB9.out.fr hf10 (by omega) (by omega) (by omega)
                have hot10 := HOT9.out.fr hf10 (fun x hx => by have h1 := HFP.out x hx; omega)
                have hou10 := HOU9.out.fr hf10 (fun x hx => by have h1 := HGP.out x hx; omega)
                have hfo := fun_own hot10 hou10 (fun x hx => by have h1 := HFP.out x hx; omega) (fun x hx => by have h1 := HGP.out x hx; omega) (fun x hx hx2 => by have h1 := HFP.out x hx; have h2 := HGP.out x hx2; omega)
                obtain ⟨K, hK⟩ : ∃ K, w10.heap.size = K := ⟨_, rfl⟩
                obtain ⟨W11, hW11⟩ : ∃ W11, w10.alloc (.cells #[.int .i64 y0, .slice L5 y1 c5, .slice A5 y2 d5, .int .i64 u0, .slice L8 u1 c8, .slice A8 u2 d8] 27) = W11 := ⟨_, rfl⟩
                have hb11 : Below w10.heap.size w10 W11 := by rw [← hW11]; exact (Below.refl _ _).alloc (Nat.le_refl _) _
                have hz11 : W11.heap.size = K + 1 := by rw [← hW11]; simp [hK]
                rw [hW11, hK] at hfo
                have hm11 := hm10.under hb11
                have HD := Lib.hid (hm11.done (t := .node ⟨5, []⟩ [t, u]) hfo (fun x hx => by
                  have h2 := mem_more (N := K) (M := K + 1) (fp := fp ++ gp) (H := H) (fun x hx => by
                    rcases List.mem_append.1 hx with hx | hx
                    · have h1 := HFP.out x hx
                      omega
                    · have h1 := HGP.out x hx
                      omega) (by omega) (by omega) x hx
                  omega) (fun_sr HS.out HOe.out HSR.out HOg.out HSU.out) (q := 5) (n := 0) (m := 2) rfl rfl rfl)
                have q0 := hba.c0
                have q1 := hba.c1
                have q2 := hba.c2
                have p0 := hbb.c0
                have p1 := hbb.c1
                have p2 := hbb.c2
                have HM11 := Lib.hid hm11
                have HW11 := Lib.hid hW11
                clear hr10 hf10 hm10 hm11 hba hbb hot10 hou10 hfo HMU hz9 hnh hnm hbH10 hs10 hb11 hz11 hW11
                have z0 := HM11.out.1.c0
                have z1 := HM11.out.1.c1
                have z2 := HM11.out.1.c2
                have f0 := HM11.out.1.free 0
                have f1 := HM11.out.1.free 1
                have f2 := HM11.out.1.free 2
                have HD2 := HD.out
                rw [← HW11.out] at HD2 z0 z1 z2 f0 f1 f2
                have HD3 := Lib.hid HD2
                clear HD2 HD
                go_wp2_with fail
                clear z0 z1 z2 f0 f1 f2
                have t0 := HD3.out.2.c0
                have t1 := HD3.out.2.c1
                have t2 := HD3.out.2.c2
                exact bodyPost_ret (v := .agg #[.int .i64 5, .slice none 0 0, .slice (some ⟨K, 0, none⟩) 2 2]) (by simp [results, Try.results33, go_sem, t0, t1, t2]) rfl HD3.out.1
end Go.Proofs.Ytffaggiblglcbaa
