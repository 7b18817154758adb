/-
  Merged by program: RdU.
-/
import Derived.Test.YtffaggiblglcbaaV24

/-
  The program's reader of types: readType, the walk.
-/
namespace Go.Proofs.Ytffaggiblglcbaa
open Go.RowKit

set_option maxHeartbeats 12800000 in
set_option maxRecDepth 100000 in
theorem readType_step (H : Nat) (s : ByteArray) (d : Nat) (hs : s.size ≤ 1048576)
    (ih : ∀ (n : Nat) (r : List UInt8) (w : World), n ≤ 24 → 24 < n + d → St H s n r w → Calls Try.prog 60 #[.pointer (some ⟨H + 3, 0, none⟩), .pointer (some ⟨H + 5, 0, none⟩), .pointer (some ⟨H + 8, 0, none⟩), .pointer (some ⟨H + 6, 0, none⟩)] w (TypP H s (rd d r n) w))
    (n : Nat) (r : List UInt8) (w : World) (hn24 : n ≤ 24) (hnd : 24 < n + (d + 1)) (h : St H s n r w) : Calls Try.prog 60 #[.pointer (some ⟨H + 3, 0, none⟩), .pointer (some ⟨H + 5, 0, none⟩), .pointer (some ⟨H + 8, 0, none⟩), .pointer (some ⟨H + 6, 0, none⟩)] w (TypP H s (rd (d + 1) r n) w) := by
  obtain ⟨B, hB⟩ : ∃ B, w.heap.size = B := ⟨_, rfl⟩
  have hm1 := typ_start h hB
  obtain ⟨W1, hW1⟩ : ∃ W1, w.alloc (.cells #[.int .i64 0, .slice none 0 0, .slice none 0 0] 27) = W1 := ⟨_, rfl⟩
  rw [hW1] at hm1
  have x3 := hm1.2.1.2.2.cell
  have y3 := Boxed.free hm1.2.1.2.2
  have hm2 := hm1.setNum (m := n + 1) (u := .int .i64 ((n : Int) + 1)) (by go_num)
  obtain ⟨W2, hW2⟩ : ∃ W2, W1.setCell ⟨H + 3, 0, none⟩ (.int .i64 ((n : Int) + 1)) = W2 := ⟨_, rfl⟩
  rw [hW2] at hm2
  have HM2 := Lib.hid hm2
  have HW1 := Lib.hid hW1
  have HW2 := Lib.hid hW2
  have z3 : W2.cell? ⟨H + 3, 0, none⟩ = some (.int .i64 ((n : Int) + 1)) := hm2.2.1.2.2.cell
  rw [← hW1] at x3 y3
  clear hm1 hm2 hW1 hW2 h
  go_enter Try.func60, Try.ntmps60
  go_upto_region 2 with (fail)
  rw [HW1.out, HW2.out]
  clear x3 y3
  by_cases hn : 24 ≤ n
  · have HS : Hid (Rr (rd (d + 1) r n) (.node ⟨0, []⟩ []) r (n + 1) false) := Lib.hid (.inr ⟨rfl, rd_over hn⟩)
    have hgt : (24 : Int) < (n : Int) + 1 := by omega
    have hk9 := HM2.out
    have HD := Lib.hid (typ_done hk9 hB (by simp) (by simp) HS.out (a := 0) (m := 0) rfl rfl)
    have b0 := HM2.out.1.box.c0
    have b1 := HM2.out.1.box.c1
    have b2 := HM2.out.1.box.c2
    have e0 := HM2.out.1.box.free 0
    have e1 := HM2.out.1.box.free 1
    have e2 := HM2.out.1.box.free 2
    clear hk9
    go_wp2_with fail
    clear b0 b1 b2 e0 e1 e2
    have t0 := HD.out.2.c0
    have t1 := HD.out.2.c1
    have t2 := HD.out.2.c2
    exact bodyPost_ret (v := .tuple #[.agg #[.int .i64 0, .slice none 0 0, .slice none 0 0], .bool false]) (by simp [results, Try.results60, go_sem, t0, t1, t2]) rfl HD.out.1
  have hgt : ¬ (24 : Int) < (n : Int) + 1 := by omega
  have HRa := Lib.hid (read_any H s (n + 1) r 73 73 rfl W2 HM2.out.2.1 hs)
  unfold ReadC at HRa
  have r5a : W2.cell? ⟨H + 5, 0, none⟩ = some (.func (.func 55) #[] #[.pointer (some ⟨H + 2, 0, none⟩), .pointer (some ⟨H, 0, none⟩)]) := HM2.out.2.1.1.cr.cell
  have r6a : W2.cell? ⟨H + 6, 0, none⟩ = some (.func (.func 56) #[] #[.pointer (some ⟨H + 4, 0, none⟩)]) := HM2.out.2.1.1.ca.cell
  have r8a : W2.cell? ⟨H + 8, 0, none⟩ = some (.func (.func 59) #[] #[.pointer (some ⟨H + 7, 0, none⟩), .pointer (some ⟨H + 6, 0, none⟩), .pointer (some ⟨H + 5, 0, none⟩)]) := HM2.out.2.1.1.cf.cell
  cases hoa : tk 73 r with
  | some r1a =>
    rw [hoa] at HRa
    simp only [Option.isSome_some, Option.getD_some] at HRa
    have HOa := Lib.hid hoa
    clear hoa
    go_wp2_with fail
    refine HRa.out.mono ?_
    rintro e va ⟨rfl, hsa, hfa⟩
    have HMa := Lib.hid (HM2.out.call hsa hfa)
    clear hsa hfa HRa
    clear r5a r6a r8a
    have HS : Hid (Rr (rd (d + 1) r n) (.node ⟨1, []⟩ []) r1a (n + 1) true) := Lib.hid (.inl ⟨rfl, rd_73 hn HOa.out⟩)
    have hk9 := HMa.out.kind (κ' := 1) ⟨by decide, by decide⟩
    have HD := Lib.hid (typ_done hk9 hB (by simp) (by simp) HS.out (a := 0) (m := 0) rfl rfl)
    have b0 := HMa.out.1.box.c0
    have b1 := HMa.out.1.box.c1
    have b2 := HMa.out.1.box.c2
    have e0 := HMa.out.1.box.free 0
    have e1 := HMa.out.1.box.free 1
    have e2 := HMa.out.1.box.free 2
    clear hk9
    go_wp2_with fail
    clear b0 b1 b2 e0 e1 e2
    have t0 := HD.out.2.c0
    have t1 := HD.out.2.c1
    have t2 := HD.out.2.c2
    exact bodyPost_ret (v := .tuple #[.agg #[.int .i64 1, .slice none 0 0, .slice none 0 0], .bool true]) (by simp [results, Try.results60, go_sem, t0, t1, t2]) rfl HD.out.1
  | none =>
    rw [hoa] at HRa
    simp only [Option.isSome_none, Option.getD_none] at HRa
    have HOa := Lib.hid hoa
    clear hoa
    go_wp2_with fail
    refine HRa.out.mono ?_
    rintro e va ⟨rfl, hsa, hfa⟩
    have HMa := Lib.hid (HM2.out.call hsa hfa)
    clear hsa hfa HRa
    clear r5a r6a r8a
    have HRb := Lib.hid (read_any H s (n + 1) r 66 66 rfl va HMa.out.2.1 hs)
    unfold ReadC at HRb
    have r5b : va.cell? ⟨H + 5, 0, none⟩ = some (.func (.func 55) #[] #[.pointer (some ⟨H + 2, 0, none⟩), .pointer (some ⟨H, 0, none⟩)]) := HMa.out.2.1.1.cr.cell
    have r6b : va.cell? ⟨H + 6, 0, none⟩ = some (.func (.func 56) #[] #[.pointer (some ⟨H + 4, 0, none⟩)]) := HMa.out.2.1.1.ca.cell
    have r8b : va.cell? ⟨H + 8, 0, none⟩ = some (.func (.func 59) #[] #[.pointer (some ⟨H + 7, 0, none⟩), .pointer (some ⟨H + 6, 0, none⟩), .pointer (some ⟨H + 5, 0, none⟩)]) := HMa.out.2.1.1.cf.cell
    cases hob : tk 66 r with
    | some r1b =>
      rw [hob] at HRb
      simp only [Option.isSome_some, Option.getD_some] at HRb
      have HOb := Lib.hid hob
      clear hob
      go_wp2_with fail
      refine HRb.out.mono ?_
      rintro e vb ⟨rfl, hsb, hfb⟩
      have HMb := Lib.hid (HMa.out.call hsb hfb)
      clear hsb hfb HRb
      clear r5b r6b r8b
      have HS : Hid (Rr (rd (d + 1) r n) (.node ⟨2, []⟩ []) r1b (n + 1) true) := Lib.hid (.inl ⟨rfl, rd_66 hn HOa.out HOb.out⟩)
      have hk9 := HMb.out.kind (κ' := 2) ⟨by decide, by decide⟩
      have HD := Lib.hid (typ_done hk9 hB (by simp) (by simp) HS.out (a := 0) (m := 0) rfl rfl)
      have b0 := HMb.out.1.box.c0
      have b1 := HMb.out.1.box.c1
      have b2 := HMb.out.1.box.c2
      have e0 := HMb.out.1.box.free 0
      have e1 := HMb.out.1.box.free 1
      have e2 := HMb.out.1.box.free 2
      clear hk9
      go_wp2_with fail
      clear b0 b1 b2 e0 e1 e2
      have t0 := HD.out.2.c0
      have t1 := HD.out.2.c1
      have t2 := HD.out.2.c2
      exact bodyPost_ret (v := .tuple #[.agg #[.int .i64 2, .slice none 0 0, .slice none 0 0], .bool true]) (by simp [results, Try.results60, go_sem, t0, t1, t2]) rfl HD.out.1
    | none =>
      rw [hob] at HRb
      simp only [Option.isSome_none, Option.getD_none] at HRb
      have HOb := Lib.hid hob
      clear hob
      go_wp2_with fail
      refine HRb.out.mono ?_
      rintro e vb ⟨rfl, hsb, hfb⟩
      have HMb := Lib.hid (HMa.out.call hsb hfb)
      clear hsb hfb HRb
      clear r5b r6b r8b
      have HRc := Lib.hid (read_any H s (n + 1) r 123 123 rfl vb HMb.out.2.1 hs)
      unfold ReadC at HRc
      have r5c : vb.cell? ⟨H + 5, 0, none⟩ = some (.func (.func 55) #[] #[.pointer (some ⟨H + 2, 0, none⟩), .pointer (some ⟨H, 0, none⟩)]) := HMb.out.2.1.1.cr.cell
      have r6c : vb.cell? ⟨H + 6, 0, none⟩ = some (.func (.func 56) #[] #[.pointer (some ⟨H + 4, 0, none⟩)]) := HMb.out.2.1.1.ca.cell
      have r8c : vb.cell? ⟨H + 8, 0, none⟩ = some (.func (.func 59) #[] #[.pointer (some ⟨H + 7, 0, none⟩), .pointer (some ⟨H + 6, 0, none⟩), .pointer (some ⟨H + 5, 0, none⟩)]) := HMb.out.2.1.1.cf.cell
      cases hoc : tk 123 r with
      | some r1c =>
        rw [hoc] at HRc
        simp only [Option.isSome_some, Option.getD_some] at HRc
        have HOc := Lib.hid hoc
        clear hoc
        go_wp2_with fail
        refine HRc.out.mono ?_
        rintro e vc ⟨rfl, hsc, hfc⟩
        have HMc := Lib.hid (HMb.out.call hsc hfc)
        clear hsc hfc HRc
        clear r5c r6c r8c
        have HC := Lib.hid (readFields_any H s d (n + 1) r1c (by omega) (by omega) hs ih B B 0 w none none 0 0 [] (fun _ => []) vc HMc.out)
        have r5f : vc.cell? ⟨H + 5, 0, none⟩ = some (.func (.func 55) #[] #[.pointer (some ⟨H + 2, 0, none⟩), .pointer (some ⟨H, 0, none⟩)]) := HMc.out.2.1.1.cr.cell
        have r6f : vc.cell? ⟨H + 6, 0, none⟩ = some (.func (.func 56) #[] #[.pointer (some ⟨H + 4, 0, none⟩)]) := HMc.out.2.1.1.ca.cell
        have r8f : vc.cell? ⟨H + 8, 0, none⟩ = some (.func (.func 59) #[] #[.pointer (some ⟨H + 7, 0, none⟩), .pointer (some ⟨H + 6, 0, none⟩), .pointer (some ⟨H + 5, 0, none⟩)]) := HMc.out.2.1.1.cf.cell
        go_wp2_with fail
        refine HC.out.mono ?_
        rintro e w5 ⟨ok, ls, ts, n5, r5, L5, A5, lc5, d5, xs5, fs5, rfl, hm5, hl5, ht5, hrr⟩
        clear r5f r6f r8f
        have HS : Hid (Rr (rd (d + 1) r n) (.node ⟨3, ls⟩ ts) r5 n5 ok) := Lib.hid (by
          rw [rd_123 hn HOa.out HOb.out HOc.out]
          rcases hrr with ⟨rfl, h⟩ | ⟨rfl, h⟩
          · rw [h]; exact .inl ⟨rfl, rfl⟩
          · rw [h]; exact .inr ⟨rfl, rfl⟩)
        have hk9 := hm5.kind (κ' := 3) ⟨by decide, by decide⟩
        have HD := Lib.hid (typ_done hk9 hB hl5 ht5 HS.out (a := ls.length) (m := ts.length) rfl rfl)
        have b0 := hm5.1.box.c0
        have b1 := hm5.1.box.c1
        have b2 := hm5.1.box.c2
        have e0 := hm5.1.box.free 0
        have e1 := hm5.1.box.free 1
        have e2 := hm5.1.box.free 2
        clear hk9 hm5 hl5 ht5 hrr HC
        go_wp2_with fail
        clear b0 b1 b2 e0 e1 e2
        have t0 := HD.out.2.c0
        have t1 := HD.out.2.c1
        have t2 := HD.out.2.c2
        exact bodyPost_ret (v := .tuple #[.agg #[.int .i64 3, .slice L5 ls.length lc5, .slice A5 ts.length d5], .bool ok]) (by simp [results, Try.results60, go_sem, t0, t1, t2]) rfl HD.out.1
      | none =>
        rw [hoc] at HRc
        simp only [Option.isSome_none, Option.getD_none] at HRc
        have HOc := Lib.hid hoc
        clear hoc
        go_wp2_with fail
        refine HRc.out.mono ?_
        rintro e vc ⟨rfl, hsc, hfc⟩
        have HMc := Lib.hid (HMb.out.call hsc hfc)
        clear hsc hfc HRc
        clear r5c r6c r8c
        have HRd := Lib.hid (read_any H s (n + 1) r 91 91 rfl vc HMc.out.2.1 hs)
        unfold ReadC at HRd
        have r5d : vc.cell? ⟨H + 5, 0, none⟩ = some (.func (.func 55) #[] #[.pointer (some ⟨H + 2, 0, none⟩), .pointer (some ⟨H, 0, none⟩)]) := HMc.out.2.1.1.cr.cell
        have r6d : vc.cell? ⟨H + 6, 0, none⟩ = some (.func (.func 56) #[] #[.pointer (some ⟨H + 4, 0, none⟩)]) := HMc.out.2.1.1.ca.cell
        have r8d : vc.cell? ⟨H + 8, 0, none⟩ = some (.func (.func 59) #[] #[.pointer (some ⟨H + 7, 0, none⟩), .pointer (some ⟨H + 6, 0, none⟩), .pointer (some ⟨H + 5, 0, none⟩)]) := HMc.out.2.1.1.cf.cell
        cases hod : tk 91 r with
        | some r1d =>
          rw [hod] at HRd
          simp only [Option.isSome_some, Option.getD_some] at HRd
          have HOd := Lib.hid hod
          clear hod
          go_wp2_with fail
          refine HRd.out.mono ?_
          rintro e vd ⟨rfl, hsd, hfd⟩
          have HMd := Lib.hid (HMc.out.call hsd hfd)
          clear hsd hfd HRd
          clear r5d r6d r8d
          have HAg := Lib.hid (readArg_any H s (rd d r1d (n + 1)) B B 0 w [] [] (n + 1) r1d none none 0 0 [] (fun _ => []) vd HMd.out (by simp) (ih (n + 1) r1d vd (by omega) (by omega) HMd.out.2.1))
          have r5g : vd.cell? ⟨H + 5, 0, none⟩ = some (.func (.func 55) #[] #[.pointer (some ⟨H + 2, 0, none⟩), .pointer (some ⟨H, 0, none⟩)]) := HMd.out.2.1.1.cr.cell
          have r6g : vd.cell? ⟨H + 6, 0, none⟩ = some (.func (.func 56) #[] #[.pointer (some ⟨H + 4, 0, none⟩)]) := HMd.out.2.1.1.ca.cell
          have r8g : vd.cell? ⟨H + 8, 0, none⟩ = some (.func (.func 59) #[] #[.pointer (some ⟨H + 7, 0, none⟩), .pointer (some ⟨H + 6, 0, none⟩), .pointer (some ⟨H + 5, 0, none⟩)]) := HMd.out.2.1.1.cf.cell
          go_wp2_with fail
          refine HAg.out.mono ?_
          rintro e ug ⟨tg, okg, ng, rg, Lg, Ag, lcg, dg, xsg, fsg, rfl, hmg, hrrg⟩
          clear r5g r6g r8g
          rcases hrrg with ⟨rfl, hrdg⟩ | ⟨rfl, hrdg⟩
          · have HMg := Lib.hid hmg
            have HRg := Lib.hid hrdg
            clear hmg hrdg HAg
            have HRh := Lib.hid (read_any H s ng rg 93 93 rfl ug HMg.out.2.1 hs)
            unfold ReadC at HRh
            have r5h : ug.cell? ⟨H + 5, 0, none⟩ = some (.func (.func 55) #[] #[.pointer (some ⟨H + 2, 0, none⟩), .pointer (some ⟨H, 0, none⟩)]) := HMg.out.2.1.1.cr.cell
            have r6h : ug.cell? ⟨H + 6, 0, none⟩ = some (.func (.func 56) #[] #[.pointer (some ⟨H + 4, 0, none⟩)]) := HMg.out.2.1.1.ca.cell
            have r8h : ug.cell? ⟨H + 8, 0, none⟩ = some (.func (.func 59) #[] #[.pointer (some ⟨H + 7, 0, none⟩), .pointer (some ⟨H + 6, 0, none⟩), .pointer (some ⟨H + 5, 0, none⟩)]) := HMg.out.2.1.1.cf.cell
            go_wp2_with fail
            refine HRh.out.mono ?_
            rintro e vh ⟨rfl, hsh, hfh⟩
            have hmh := HMg.out.call hsh hfh
            clear r5h r6h r8h
            have HS : Hid (Rr (rd (d + 1) r n) (.node ⟨4, []⟩ [tg]) ((tk 93 rg).getD rg) ng (tk 93 rg).isSome) := Lib.hid (by
              rw [rd_91 hn HOa.out HOb.out HOc.out HOd.out, HRg.out]
              simp only [Option.bind_some]
              cases tk 93 rg with
              | none => exact .inr ⟨rfl, rfl⟩
              | some r3 => exact .inl ⟨rfl, rfl⟩)
            generalize (tk 93 rg).isSome = bb at HS ⊢
            have hk9 := hmh.kind (κ' := 4) ⟨by decide, by decide⟩
            have HD := Lib.hid (typ_done hk9 hB (by simp) (by simp) HS.out (a := 0) (m := 1) rfl rfl)
            have b0 := hmh.1.box.c0
            have b1 := hmh.1.box.c1
            have b2 := hmh.1.box.c2
            have e0 := hmh.1.box.free 0
            have e1 := hmh.1.box.free 1
            have e2 := hmh.1.box.free 2
            clear hk9 hsh hfh hmh HRh
            go_wp2_with fail
            clear b0 b1 b2 e0 e1 e2
            have t0 := HD.out.2.c0
            have t1 := HD.out.2.c1
            have t2 := HD.out.2.c2
            exact bodyPost_ret (v := .tuple #[.agg #[.int .i64 4, .slice Lg 0 lcg, .slice Ag 1 dg], .bool bb]) (by simp [results, Try.results60, go_sem, t0, t1, t2]) rfl HD.out.1
          · have HS : Hid (Rr (rd (d + 1) r n) (.node ⟨4, []⟩ [tg]) rg ng false) := Lib.hid (.inr ⟨rfl, by rw [rd_91 hn HOa.out HOb.out HOc.out HOd.out, hrdg]; rfl⟩)
            have hk9 := hmg.kind (κ' := 4) ⟨by decide, by decide⟩
            have HD := Lib.hid (typ_done hk9 hB (by simp) (by simp) HS.out (a := 0) (m := 1) rfl rfl)
            have b0 := hmg.1.box.c0
            have b1 := hmg.1.box.c1
            have b2 := hmg.1.box.c2
            have e0 := hmg.1.box.free 0
            have e1 := hmg.1.box.free 1
            have e2 := hmg.1.box.free 2
            clear hk9 hmg hrdg HAg
            go_wp2_with fail
            clear b0 b1 b2 e0 e1 e2
            have t0 := HD.out.2.c0
            have t1 := HD.out.2.c1
            have t2 := HD.out.2.c2
            exact bodyPost_ret (v := .tuple #[.agg #[.int .i64 4, .slice Lg 0 lcg, .slice Ag 1 dg], .bool false]) (by simp [results, Try.results60, go_sem, t0, t1, t2]) rfl HD.out.1
        | none =>
          rw [hod] at HRd
          simp only [Option.isSome_none, Option.getD_none] at HRd
          have HOd := Lib.hid hod
          clear hod
          go_wp2_with fail
          refine HRd.out.mono ?_
          rintro e vd ⟨rfl, hsd, hfd⟩
          have HMd := Lib.hid (HMc.out.call hsd hfd)
          clear hsd hfd HRd
          clear r5d r6d r8d
          have HRe := Lib.hid (read_any H s (n + 1) r 40 40 rfl vd HMd.out.2.1 hs)
          unfold ReadC at HRe
          have r5e : vd.cell? ⟨H + 5, 0, none⟩ = some (.func (.func 55) #[] #[.pointer (some ⟨H + 2, 0, none⟩), .pointer (some ⟨H, 0, none⟩)]) := HMd.out.2.1.1.cr.cell
          have r6e : vd.cell? ⟨H + 6, 0, none⟩ = some (.func (.func 56) #[] #[.pointer (some ⟨H + 4, 0, none⟩)]) := HMd.out.2.1.1.ca.cell
          have r8e : vd.cell? ⟨H + 8, 0, none⟩ = some (.func (.func 59) #[] #[.pointer (some ⟨H + 7, 0, none⟩), .pointer (some ⟨H + 6, 0, none⟩), .pointer (some ⟨H + 5, 0, none⟩)]) := HMd.out.2.1.1.cf.cell
          cases hoe : tk 40 r with
          | some r1e =>
            rw [hoe] at HRe
            simp only [Option.isSome_some, Option.getD_some] at HRe
            have HOe := Lib.hid hoe
            clear hoe
            go_wp2_with fail
            refine HRe.out.mono ?_
            rintro e ve ⟨rfl, hse, hfe⟩
            have HMe := Lib.hid (HMd.out.call hse hfe)
            clear hse hfe HRe
            clear r5e r6e r8e
            have HAg := Lib.hid (readArg_any H s (rd d r1e (n + 1)) B B 0 w [] [] (n + 1) r1e none none 0 0 [] (fun _ => []) ve HMe.out (by simp) (ih (n + 1) r1e ve (by omega) (by omega) HMe.out.2.1))
            have r5g : ve.cell? ⟨H + 5, 0, none⟩ = some (.func (.func 55) #[] #[.pointer (some ⟨H + 2, 0, none⟩), .pointer (some ⟨H, 0, none⟩)]) := HMe.out.2.1.1.cr.cell
            have r6g : ve.cell? ⟨H + 6, 0, none⟩ = some (.func (.func 56) #[] #[.pointer (some ⟨H + 4, 0, none⟩)]) := HMe.out.2.1.1.ca.cell
            have r8g : ve.cell? ⟨H + 8, 0, none⟩ = some (.func (.func 59) #[] #[.pointer (some ⟨H + 7, 0, none⟩), .pointer (some ⟨H + 6, 0, none⟩), .pointer (some ⟨H + 5, 0, none⟩)]) := HMe.out.2.1.1.cf.cell
            go_wp2_with fail
            refine HAg.out.mono ?_
            rintro e ug ⟨tg, okg, ng, rg, Lg, Ag, lcg, dg, xsg, fsg, rfl, hmg, hrrg⟩
            clear r5g r6g r8g
            rcases hrrg with ⟨rfl, hrdg⟩ | ⟨rfl, hrdg⟩
            · have HMg := Lib.hid hmg
              have HRg := Lib.hid hrdg
              clear hmg hrdg HAg
              have hng := rd_num _ _ _ _ _ _ HRg.out
              obtain ⟨hng1, hng2⟩ := hng
              have HRh := Lib.hid (read_any H s ng rg 62 62 rfl ug HMg.out.2.1 hs)
              unfold ReadC at HRh
              have r5h : ug.cell? ⟨H + 5, 0, none⟩ = some (.func (.func 55) #[] #[.pointer (some ⟨H + 2, 0, none⟩), .pointer (some ⟨H, 0, none⟩)]) := HMg.out.2.1.1.cr.cell
              have r6h : ug.cell? ⟨H + 6, 0, none⟩ = some (.func (.func 56) #[] #[.pointer (some ⟨H + 4, 0, none⟩)]) := HMg.out.2.1.1.ca.cell
              have r8h : ug.cell? ⟨H + 8, 0, none⟩ = some (.func (.func 59) #[] #[.pointer (some ⟨H + 7, 0, none⟩), .pointer (some ⟨H + 6, 0, none⟩), .pointer (some ⟨H + 5, 0, none⟩)]) := HMg.out.2.1.1.cf.cell
              cases hoh : tk 62 rg with
              | some r1h =>
                rw [hoh] at HRh
                simp only [Option.isSome_some, Option.getD_some] at HRh
                have HOh := Lib.hid hoh
                clear hoh
                go_wp2_with fail
                refine HRh.out.mono ?_
                rintro e vh ⟨rfl, hsh, hfh⟩
                have HMh := Lib.hid (HMg.out.call hsh hfh)
                clear hsh hfh HRh
                clear r5h r6h r8h
                have HAi := Lib.hid (readArg_any H s (rd d r1h (ng)) B B 0 w [] ([] ++ [tg]) (ng) r1h Lg Ag lcg dg xsg fsg vh HMh.out (by simp) (ih (ng) r1h vh (by omega) (by omega) HMh.out.2.1))
                have r5i : vh.cell? ⟨H + 5, 0, none⟩ = some (.func (.func 55) #[] #[.pointer (some ⟨H + 2, 0, none⟩), .pointer (some ⟨H, 0, none⟩)]) := HMh.out.2.1.1.cr.cell
                have r6i : vh.cell? ⟨H + 6, 0, none⟩ = some (.func (.func 56) #[] #[.pointer (some ⟨H + 4, 0, none⟩)]) := HMh.out.2.1.1.ca.cell
                have r8i : vh.cell? ⟨H + 8, 0, none⟩ = some (.func (.func 59) #[] #[.pointer (some ⟨H + 7, 0, none⟩), .pointer (some ⟨H + 6, 0, none⟩), .pointer (some ⟨H + 5, 0, none⟩)]) := HMh.out.2.1.1.cf.cell
                go_wp2_with fail
                refine HAi.out.mono ?_
                rintro e ui ⟨ti, oki, ni, ri, Li, Ai, lci, di, xsi, fsi, rfl, hmi, hrri⟩
                clear r5i r6i r8i
                rcases hrri with ⟨rfl, hrdi⟩ | ⟨rfl, hrdi⟩
                · have HMi := Lib.hid hmi
                  have HRi := Lib.hid hrdi
                  clear hmi hrdi HAi
                  have HRj := Lib.hid (read_any H s ni ri 41 41 rfl ui HMi.out.2.1 hs)
                  unfold ReadC at HRj
                  have r5j : ui.cell? ⟨H + 5, 0, none⟩ = some (.func (.func 55) #[] #[.pointer (some ⟨H + 2, 0, none⟩), .pointer (some ⟨H, 0, none⟩)]) := HMi.out.2.1.1.cr.cell
                  have r6j : ui.cell? ⟨H + 6, 0, none⟩ = some (.func (.func 56) #[] #[.pointer (some ⟨H + 4, 0, none⟩)]) := HMi.out.2.1.1.ca.cell
                  have r8j : ui.cell? ⟨H + 8, 0, none⟩ = some (.func (.func 59) #[] #[.pointer (some ⟨H + 7, 0, none⟩), .pointer (some ⟨H + 6, 0, none⟩), .pointer (some ⟨H + 5, 0, none⟩)]) := HMi.out.2.1.1.cf.cell
                  go_wp2_with fail
                  refine HRj.out.mono ?_
                  rintro e vj ⟨rfl, hsj, hfj⟩
                  have hmj := HMi.out.call hsj hfj
                  clear r5j r6j r8j
                  have HS : Hid (Rr (rd (d + 1) r n) (.node ⟨5, []⟩ [tg, ti]) ((tk 41 ri).getD ri) ni (tk 41 ri).isSome) := Lib.hid (by
                    rw [rd_40 hn HOa.out HOb.out HOc.out HOd.out, HOe.out]
                    simp only [Option.bind_some]
                    rw [HRg.out]
                    simp only [Option.bind_some]
                    rw [HOh.out]
                    simp only [Option.bind_some]
                    rw [HRi.out]
                    simp only [Option.bind_some]
                    cases tk 41 ri with
                    | none => exact .inr ⟨rfl, rfl⟩
                    | some r3 => exact .inl ⟨rfl, rfl⟩)
                  generalize (tk 41 ri).isSome = bb at HS ⊢
                  have hk9 := hmj.kind (κ' := 5) ⟨by decide, by decide⟩
                  have HD := Lib.hid (typ_done hk9 hB (by simp) (by simp) HS.out (a := 0) (m := 2) rfl rfl)
                  have b0 := hmj.1.box.c0
                  have b1 := hmj.1.box.c1
                  have b2 := hmj.1.box.c2
                  have e0 := hmj.1.box.free 0
                  have e1 := hmj.1.box.free 1
                  have e2 := hmj.1.box.free 2
                  clear hk9 hsj hfj hmj HRj
                  go_wp2_with fail
                  clear b0 b1 b2 e0 e1 e2
                  have t0 := HD.out.2.c0
                  have t1 := HD.out.2.c1
                  have t2 := HD.out.2.c2
                  exact bodyPost_ret (v := .tuple #[.agg #[.int .i64 5, .slice Li 0 lci, .slice Ai 2 di], .bool bb]) (by simp [results, Try.results60, go_sem, t0, t1, t2]) rfl HD.out.1
                · have HS : Hid (Rr (rd (d + 1) r n) (.node ⟨5, []⟩ [tg, ti]) ri ni false) := Lib.hid (.inr ⟨rfl, by rw [rd_40 hn HOa.out HOb.out HOc.out HOd.out, HOe.out]; simp only [Option.bind_some]; rw [HRg.out]; simp only [Option.bind_some]; rw [HOh.out]; simp only [Option.bind_some]; rw [hrdi]; rfl⟩)
                  have hk9 := hmi.kind (κ' := 5) ⟨by decide, by decide⟩
                  have HD := Lib.hid (typ_done hk9 hB (by simp) (by simp) HS.out (a := 0) (m := 2) rfl rfl)
                  have b0 := hmi.1.box.c0
                  have b1 := hmi.1.box.c1
                  have b2 := hmi.1.box.c2
                  have e0 := hmi.1.box.free 0
                  have e1 := hmi.1.box.free 1
                  have e2 := hmi.1.box.free 2
                  clear hk9 hmi hrdi HAi
                  go_wp2_with fail
                  clear b0 b1 b2 e0 e1 e2
                  have t0 := HD.out.2.c0
                  have t1 := HD.out.2.c1
                  have t2 := HD.out.2.c2
                  exact bodyPost_ret (v := .tuple #[.agg #[.int .i64 5, .slice Li 0 lci, .slice Ai 2 di], .bool false]) (by simp [results, Try.results60, go_sem, t0, t1, t2]) rfl HD.out.1
              | none =>
                rw [hoh] at HRh
                simp only [Option.isSome_none, Option.getD_none] at HRh
                have HOh := Lib.hid hoh
                clear hoh
                go_wp2_with fail
                refine HRh.out.mono ?_
                rintro e vh ⟨rfl, hsh, hfh⟩
                have HMh := Lib.hid (HMg.out.call hsh hfh)
                clear hsh hfh HRh
                clear r5h r6h r8h
                have HS : Hid (Rr (rd (d + 1) r n) (.node ⟨5, []⟩ [tg]) rg ng false) := Lib.hid (.inr ⟨rfl, by rw [rd_40 hn HOa.out HOb.out HOc.out HOd.out, HOe.out]; simp only [Option.bind_some]; rw [HRg.out]; simp only [Option.bind_some]; rw [HOh.out]; rfl⟩)
                have hk9 := HMh.out.kind (κ' := 5) ⟨by decide, by decide⟩
                have HD := Lib.hid (typ_done hk9 hB (by simp) (by simp) HS.out (a := 0) (m := 1) rfl rfl)
                have b0 := HMh.out.1.box.c0
                have b1 := HMh.out.1.box.c1
                have b2 := HMh.out.1.box.c2
                have e0 := HMh.out.1.box.free 0
                have e1 := HMh.out.1.box.free 1
                have e2 := HMh.out.1.box.free 2
                clear hk9
                go_wp2_with fail
                clear b0 b1 b2 e0 e1 e2
                have t0 := HD.out.2.c0
                have t1 := HD.out.2.c1
                have t2 := HD.out.2.c2
                exact bodyPost_ret (v := .tuple #[.agg #[.int .i64 5, .slice Lg 0 lcg, .slice Ag 1 dg], .bool false]) (by simp [results, Try.results60, go_sem, t0, t1, t2]) rfl HD.out.1
            · have HS : Hid (Rr (rd (d + 1) r n) (.node ⟨5, []⟩ [tg]) rg ng false) := Lib.hid (.inr ⟨rfl, by rw [rd_40 hn HOa.out HOb.out HOc.out HOd.out, HOe.out]; simp only [Option.bind_some]; rw [hrdg]; rfl⟩)
              have hk9 := hmg.kind (κ' := 5) ⟨by decide, by decide⟩
              have HD := Lib.hid (typ_done hk9 hB (by simp) (by simp) HS.out (a := 0) (m := 1) rfl rfl)
              have b0 := hmg.1.box.c0
              have b1 := hmg.1.box.c1
              have b2 := hmg.1.box.c2
              have e0 := hmg.1.box.free 0
              have e1 := hmg.1.box.free 1
              have e2 := hmg.1.box.free 2
              clear hk9 hmg hrdg HAg
              go_wp2_with fail
              clear b0 b1 b2 e0 e1 e2
              have t0 := HD.out.2.c0
              have t1 := HD.out.2.c1
              have t2 := HD.out.2.c2
              exact bodyPost_ret (v := .tuple #[.agg #[.int .i64 5, .slice Lg 0 lcg, .slice Ag 1 dg], .bool false]) (by simp [results, Try.results60, go_sem, t0, t1, t2]) rfl HD.out.1
          | none =>
            rw [hoe] at HRe
            simp only [Option.isSome_none, Option.getD_none] at HRe
            have HOe := Lib.hid hoe
            clear hoe
            go_wp2_with fail
            refine HRe.out.mono ?_
            rintro e ve ⟨rfl, hse, hfe⟩
            have HMe := Lib.hid (HMd.out.call hse hfe)
            clear hse hfe HRe
            clear r5e r6e r8e
            have HS : Hid (Rr (rd (d + 1) r n) (.node ⟨0, []⟩ []) r (n + 1) false) := Lib.hid (.inr ⟨rfl, by rw [rd_40 hn HOa.out HOb.out HOc.out HOd.out, HOe.out]; rfl⟩)
            have hk9 := HMe.out
            have HD := Lib.hid (typ_done hk9 hB (by simp) (by simp) HS.out (a := 0) (m := 0) rfl rfl)
            have b0 := HMe.out.1.box.c0
            have b1 := HMe.out.1.box.c1
            have b2 := HMe.out.1.box.c2
            have e0 := HMe.out.1.box.free 0
            have e1 := HMe.out.1.box.free 1
            have e2 := HMe.out.1.box.free 2
            clear hk9
            go_wp2_with fail
            clear b0 b1 b2 e0 e1 e2
            have t0 := HD.out.2.c0
            have t1 := HD.out.2.c1
            have t2 := HD.out.2.c2
            exact bodyPost_ret (v := .tuple #[.agg #[.int .i64 0, .slice none 0 0, .slice none 0 0], .bool false]) (by simp [results, Try.results60, go_sem, t0, t1, t2]) rfl HD.out.1
end Go.Proofs.Ytffaggiblglcbaa
