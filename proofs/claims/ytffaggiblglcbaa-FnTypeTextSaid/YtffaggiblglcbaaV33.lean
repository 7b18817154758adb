/-
  Merged by program: TyDrawW.
-/
import Derived.Test.YtffaggiblglcbaaV13

/-
  The draws of types: l3Draw.
-/
namespace Go.Proofs.Ytffaggiblglcbaa
open Go.RowKit

theorem leaf_own (w : World) (q : Int) (h1 : -9223372036854775808 ≤ q) (h2 : q ≤ 9223372036854775807) : OTy w (.node ⟨q, []⟩ []) [.int .i64 q, .slice none 0 0, .slice none 0 0] [] :=
  OTy.node ⟨q, []⟩ [] none none 0 0 [] (fun _ => []) ⟨h1, h2, by simp, by simp⟩ ⟨rfl, .inl ⟨rfl, rfl⟩⟩ (by simp) ⟨rfl, .inl ⟨rfl, rfl⟩⟩ (fun j t hj => by simp at hj) (by simp [blk])
theorem draw_leaf {b B : Nat} {w w' : World} {q : Int} (h1 : -9223372036854775808 ≤ q) (h2 : q ≤ 9223372036854775807) (hc : Cur w' b) (hg : w.grownBy w' (some b)) : DrawTy b B w (.returned (.agg #[.int .i64 q, .slice none 0 0, .slice none 0 0])) w' :=
  ⟨.node ⟨q, []⟩ [], none, none, 0, 0, [], rfl, leaf_own w' q h1 h2, by simp, by simp [wt_node, wtA, wtK, total], hc, hg⟩
theorem tB_le : ∀ D, D ≤ 10 → tB D ≤ 100000 := by
  intro D hD
  match D, hD with
  | 0, _ | 1, _ | 2, _ | 3, _ | 4, _ | 5, _ | 6, _ | 7, _ | 8, _ | 9, _ | 10, _ => decide
/-- a result that was made new, stored into the block G behind the cursor -/
theorem draw_made {b B : Nat} {w w2 w3 U : World} {t : Ty} {e : Ending} {G : Nat} (h : MadeT t w2 e w3) (hB : wt t ≤ B) (hc : Cur w2 b) (hg : w.grownBy w2 (some b)) (hb : b < w.heap.size) (hG : w.heap.size ≤ G) (hG2 : G < w2.heap.size) (hU : w3.grownBy U (some G)) :
    ∃ (L A : Option Addr) (c d : Nat), e = .returned (.agg #[.int .i64 t.top.kind, .slice L t.top.labels.length c, .slice A t.kids.length d]) ∧
      DrawTy b B w (.returned (.agg #[.int .i64 t.top.kind, .slice L t.top.labels.length c, .slice A t.kids.length d])) U := by
  obtain ⟨L, A, c, d, fp, rfl, hot, hfp, hb3⟩ := h
  have hs := hg.size
  have hs3 := hb3.size
  have hsU := hU.size
  have hc3 := hc.below hb3
  refine ⟨L, A, c, d, rfl, t, L, A, c, d, fp, rfl, hot.keep hU (fun x hx e => by injection e with e; have := (hfp x hx).1; omega), fun x hx => ?_, hB, hc3.grownNew hU (fun g hgg => by injection hgg with hgg; omega), ?_⟩
  · have := hfp x hx
    omega
  · exact grown_new (grown_trans_row hg (grown_of_below hb3)) hU (fun g hgg => by injection hgg with hgg; omega)

def abc : List ByteArray := [⟨#[97]⟩, ⟨#[98]⟩, ⟨#[99]⟩]
theorem abc_bd : ∀ x ∈ abc, x.size ≤ 4 := by decide
/-- what the loop keeps -/
def DRel (b B n : Nat) (w : World) (l a i : Value) (wr : World) : Prop :=
  ∃ (k : Nat) (ls : List ByteArray) (ts : List Ty) (L A : Option Addr) (lc d : Nat) (xs : List Value) (fs : Nat → List Nat), k ≤ n ∧ i = .int .i64 k ∧ l = .slice L k lc ∧ a = .slice A k d ∧ DI b B w k k ls ts L A lc d xs fs wr
theorem sum_le_mul {ts : List Ty} {B : Nat} (h : ∀ t ∈ ts, wt t ≤ B) : (ts.map wt).sum ≤ ts.length * B := by
  induction ts with
  | nil => simp
  | cons t r ih =>
    have h1 := h t (by simp)
    have h2 := ih (fun s hs => h s (by simp [hs]))
    simp only [List.map_cons, List.sum_cons, List.length_cons, Nat.succ_mul]
    omega
theorem total_le_mul {ls : List ByteArray} (h : ∀ x ∈ ls, x.size ≤ 4) : total ls ≤ ls.length * 4 := by
  induction ls with
  | nil => simp [total]
  | cons t r ih =>
    have h1 := h t (by simp)
    have h2 := ih (fun s hs => h s (by simp [hs]))
    have e : total (t :: r) = t.size + total r := by simp [total]
    rw [e, List.length_cons]
    omega

set_option maxHeartbeats 1600000 in
set_option maxRecDepth 100000 in
theorem l3Draw_step (b D : Nat) (hD : D + 1 ≤ 10) (ih : D ≠ 0 → ∀ w : World, Cur w b → Calls Try.prog 44 #[.pointer (some ⟨b, 0, none⟩), .int .i64 (D : Int)] w (DrawTy b (tB D) w)) (w : World) (hcur : Cur w b) :
    Calls Try.prog 44 #[.pointer (some ⟨b, 0, none⟩), .int .i64 ((D + 1 : Nat) : Int)] w (DrawTy b (tB (D + 1)) w) := by
  obtain ⟨W1, hW1⟩ : ∃ W1, w.alloc (.cells #[.int .i64 0, .slice none 0 0, .slice none 0 0] 27) = W1 := ⟨_, rfl⟩
  obtain ⟨H, hH⟩ : ∃ H, w.heap.size = H := ⟨_, rfl⟩
  have b0 : Box3 W1 H 27 (.int .i64 0) (.slice none 0 0) (.slice none 0 0) := by rw [← hW1, ← hH]; exact Box3.new w _ _ _ _
  have hb1 : Below w.heap.size w W1 := by rw [← hW1]; exact (Below.refl _ _).alloc (Nat.le_refl _) _
  have hz : W1.heap.size = H + 1 := by rw [← hW1, ← hH]; simp
  have HZ := Lib.hid hz
  have HB0 := Lib.hid b0
  have HB1 := Lib.hid hb1
  have HC1 := Lib.hid (hcur.below hb1)
  have HBL := Lib.hid hcur.lt
  have HI := Lib.hid ih
  have HW1 := Lib.hid hW1
  have HH := Lib.hid hH
  clear b0 hb1 hcur ih hW1 hz
  go_enter Try.func44, Try.ntmps44
  go_upto_region 1 with (fail)
  rw [HW1.out]
  go_cut [14] from 9 to 14 (fun s wx => ∃ y : Bool, s = .bool y ∧ Cur wx b ∧ W1.grownBy wx (some b) ∧ (D = 0 → y = true))
  case first =>
    by_cases h2 : D = 0
    · have hlt : ((D + 1 : Nat) : Int) < 2 := by omega
      have HR : Hid (Cur W1 b ∧ W1.grownBy W1 (some b)) := ⟨HC1.out, World.grownBy.refl _ _⟩
      go_wp2_with fail
      go_meet
      case rel => exact ⟨true, rfl, HR.out.1, HR.out.2, fun _ => rfl⟩
    · have hlt : ¬ ((D + 1 : Nat) : Int) < 2 := by omega
      have HO := Lib.hid (l1Once_any b 3 W1 HC1.out (by omega) (by omega))
      go_wp2_with fail
      refine HO.out.mono ?_
      rintro e w2 ⟨y, rfl, hc2, hg2⟩
      have HR : Hid (Cur w2 b ∧ W1.grownBy w2 (some b)) := ⟨hc2, hg2⟩
      clear hc2 hg2
      go_wp2_with fail
      go_meet
      case rel => exact ⟨_, rfl, HR.out.1, HR.out.2, fun h => absurd h h2⟩
  case rest =>
    obtain ⟨y, rfl, hc2, hg2, hy⟩ := hcut
    have hzz := HZ.out
    have hsz2 := hg2.size
    have hbl := HBL.out
    have HX : Hid (w.grownBy wc (some b)) := grown_trans_row (grown_of_below HB1.out) hg2
    have HBX : Hid (Box3 wc H 27 (.int .i64 0) (.slice none 0 0) (.slice none 0 0)) := HB0.out.grown hg2 (fun e => by injection e with e; have := HH.out; omega)
    have HC2 := Lib.hid hc2
    cases y
    · have hD0 : D ≠ 0 := fun h => by have := hy h; cases this
      have HO := Lib.hid (l1Once_any b 2 wc hc2 (by omega) (by omega))
      clear hc2 hg2 hy
      go_wp2_with fail
      refine HO.out.mono ?_
      rintro e w3 ⟨y, rfl, hc3, hg3⟩
      have hs3 := hg3.size
      have HX3 : Hid (w.grownBy w3 (some b)) := grown_trans_row HX.out hg3
      have HBX3 : Hid (Box3 w3 H 27 (.int .i64 0) (.slice none 0 0) (.slice none 0 0)) := HBX.out.grown hg3 (fun e => by injection e with e; have := HH.out; omega)
      have HC3 := Lib.hid hc3
      clear hc3 hg3
      cases y
      · obtain ⟨i0, hi, hz0, hz1, hz2⟩ := info_parts infoStr
        obtain ⟨i1, hi1, hy0, hy1, hy2⟩ := info_parts infoTy
        have hw3 : Below w3.heap.size w3 ((w3.alloc (.cells #[] 9)).alloc (.cells #[] 27)) := ((Below.refl _ _).alloc (Nat.le_refl _) _).alloc (by simp) _
        have HBE := Lib.hid (l1Below_any b 2 ((w3.alloc (.cells #[] 9)).alloc (.cells #[] 27)) (HC3.out.below hw3) (by omega) (by omega))
        have o1 : ((w3.alloc (.cells #[] 9)).alloc (.cells #[] 27)).ownsRow w3.heap.size 9 1 (.slice (some ⟨w3.heap.size, 0, none⟩) 0 0) 0 [] := (World.ownsRow_made (base := w3.heap.size) (size := 1) (e := 9) w3 #[] 0 (Nat.le_refl _) (by unfold maxLen; omega) (by simp)).alloc _
        have o2 : ((w3.alloc (.cells #[] 9)).alloc (.cells #[] 27)).ownsRow w3.heap.size 27 3 (.slice (some ⟨w3.heap.size + 1, 0, none⟩) 0 0) 0 [] := by
          have := World.ownsRow_made (base := w3.heap.size) (size := 3) (e := 27) (w3.alloc (.cells #[] 9)) #[] 0 (by simp) (by unfold maxLen; omega) (by simp)
          simpa using this
        have HO1 := Lib.hid o1
        have HO2 := Lib.hid o2
        have HW3 := Lib.hid hw3
        have hbl3 : b < w3.heap.size := HC3.out.lt
        clear o1 o2 hw3
        go_wp2_with fail
        refine HBE.out.mono ?_
        rintro e w4 ⟨x, rfl, hx0, hx1, hc4, hg4⟩
        obtain ⟨n, rfl⟩ : ∃ n : Nat, x = (n : Int) := ⟨x.toNat, by omega⟩
        have hdi : DI b (tB D) w3 0 0 [] [] (some ⟨w3.heap.size, 0, none⟩) (some ⟨w3.heap.size + 1, 0, none⟩) 0 0 [] (fun _ => []) w4 :=
          DI.quiet (wr := (w3.alloc (.cells #[] 9)).alloc (.cells #[] 27)) ⟨rfl, rfl, by simp, by simp, HO1.out, HO2.out, fun j t hj => by simp at hj, by simp [blk], fun x hx => by simp [blk] at hx; rcases hx with rfl | rfl <;> exact ⟨by omega, by rw [World.size_alloc, World.size_alloc]; omega⟩, HC3.out.below HW3.out, grown_of_below HW3.out, hbl3⟩ hg4 (.inr rfl) hc4
        have HDI := Lib.hid hdi
        clear hdi hc4 hg4
        go_wp2_with fail
        go_loopw [5, 6, 8] (fun l a i wr => DRel b (tB D) (n + 1) w3 l a i wr) (fun _ _ i _ => n + 1 - (intOf i).toNat)
        case atStart => exact ⟨0, [], [], _, _, 0, 0, [], fun _ => [], Nat.zero_le _, rfl, rfl, rfl, HDI.out⟩
        case round =>
          obtain ⟨k, ls, ts, L, A, lc, d, xs, fs, hk, rfl, rfl, rfl, hdi⟩ := hrel
          have HD := Lib.hid hdi
          clear hdi
          by_cases hlt : k < n + 1
          · have hk3 : (k : Int) < 3 := by omega
            have hk0 : k ≤ 2 := by omega
            obtain ⟨x, hx, hcell⟩ : ∃ x ∈ abc, (wr.alloc (.cells #[.string ⟨#[97]⟩, .string ⟨#[98]⟩, .string ⟨#[99]⟩] 9)).cell? ⟨wr.heap.size, k, none⟩ = some (.string x) := by
              rw [cell_of_row _ _ k _ _ _ (heap_alloc_new wr _)]
              match k, hk0 with
              | 0, _ => exact ⟨⟨#[97]⟩, by simp [abc], rfl⟩
              | 1, _ => exact ⟨⟨#[98]⟩, by simp [abc], rfl⟩
              | 2, _ => exact ⟨⟨#[99]⟩, by simp [abc], rfl⟩
            have hx4 := abc_bd x hx
            have hba : Below wr.heap.size wr ((wr.alloc (.cells #[.string ⟨#[97]⟩, .string ⟨#[98]⟩, .string ⟨#[99]⟩] 9)).alloc (.cells #[.string x] 9)) := ((Below.refl _ _).alloc (Nat.le_refl _) _).alloc (by simp) _
            have H2 := Lib.hid (HD.out.quiet (row := none) (grown_of_below hba) (.inl rfl) (HD.out.cur.below hba))
            have hn1 := HD.out.n1
            clear hba hx
            go_wp2_with (at_builtin; refine wpList_append_sl _ rfl (.tmp 36) (.tmp 41) 24 rfl w3.heap.size 9 i0 _ 16 Try.underlying24 hi hz0 hz1 hz2 rfl (.slice L k lc) k (ls.map Value.string) rfl H2.out.r1 (some ⟨wr.heap.size + 1, 0, none⟩) 1 1 [.string x] rfl rfl (by have := sl_one (wr.alloc (.cells #[.string ⟨#[97]⟩, .string ⟨#[98]⟩, .string ⟨#[99]⟩] 9)) (.string x) 9; rw [World.size_alloc] at this; exact this) (strs_oneCell [x]) (by unfold maxLen; omega) (by omega) (H2.out.gr.size) ?_; intro v5 w5 hown5 hg5 hor5; obtain ⟨L5, lc5, rfl⟩ := own_shape hown5; have H5 := Lib.hid (H2.out.label hx4 hown5 hg5 hor5); clear hown5 hg5 hor5)
            refine (HI.out hD0 w5 H5.out.cur).mono ?_
            rintro e w6 ⟨t, L6, A6, c6, d6, fp, rfl, hot, hfp, hwt, hc6, hg6⟩
            have H6 := Lib.hid (H5.out.quiet hg6 (.inr rfl) hc6)
            have hbb : Below w6.heap.size w6 (w6.alloc (.cells #[.int .i64 t.top.kind, .slice L6 t.top.labels.length c6, .slice A6 t.kids.length d6] 27)) := (Below.refl _ _).alloc (Nat.le_refl _) _
            have H7 := Lib.hid (H6.out.quiet (row := none) (grown_of_below hbb) (.inl rfl) (hc6.below hbb))
            have HOT := Lib.hid (hot.under hbb)
            have HWT := Lib.hid hwt
            have HFP : Hid (∀ x ∈ fp, w3.heap.size ≤ x ∧ x < (w6.alloc (.cells #[.int .i64 t.top.kind, .slice L6 t.top.labels.length c6, .slice A6 t.kids.length d6] 27)).heap.size) := fun x hx => by
              have h1 := hfp x hx
              have h2 := H5.out.gr.size
              rw [World.size_alloc]
              omega
            have HAP : Hid (∀ x ∈ fp, x ∉ blk L5 ++ blk A ++ (List.range k).flatMap fs) := fun x hx hm => by
              have h1 := hfp x hx
              have h2 := (H5.out.bd x hm).2
              omega
            have HNW := Lib.hid (news3 w6 (.int .i64 t.top.kind) (.slice L6 t.top.labels.length c6) (.slice A6 t.kids.length d6) 27)
            clear hot hfp hwt hc6 hg6 hbb hcell
            go_wp2_with (at_builtin; refine wpList_append_own_at _ rfl (.tmp 43) (.tmp 48) 25 rfl w3.heap.size 27 i1 _ 3 56 Try.underlying25 hi1 hy0 hy1 hy2 rfl (by omega) (.slice A k d) k xs rfl H7.out.r2 ⟨w6.heap.size, 0, none⟩ 1 1 [.int .i64 t.top.kind, .slice L6 t.top.labels.length c6, .slice A6 t.kids.length d6] rfl rfl HNW.out (one3 _ _ _ _ _ _ _) (by unfold maxLen; omega) (by omega) (H7.out.gr.size) ?_; intro v8 w8 hown8 hg8 _ hor8; obtain ⟨A8, d8, rfl⟩ := own_shape3 hown8; have H8 := Lib.hid (H7.out.part HWT.out HOT.out HFP.out HAP.out hown8 hg8 hor8); clear hown8 hg8 hor8)
            go_roundw
            case rel => exact ⟨k + 1, _, _, _, _, _, _, _, _, hlt, by go_num, rfl, rfl, H8.out⟩
            case measure => simp [intOf]; omega
          · have hkn : k = n + 1 := by omega
            have hn1 := HD.out.n1
            have hn2 := HD.out.n2
            have hs3w := HD.out.gr.size
            have HX9 : Hid (w.grownBy wr (some b)) := grown_trans_row HX3.out HD.out.gr
            have HBX9 : Hid (Box3 wr H 27 (.int .i64 0) (.slice none 0 0) (.slice none 0 0)) := HBX3.out.grown HD.out.gr (fun e => by injection e with e; have := HH.out; omega)
            have htb := tB_le D (by omega)
            have hrec := l3Rec_any L A lc d ls ts wr (Sl.of_own HD.out.r1) (by omega) (fun x hx => Nat.le_trans (HD.out.b1 x hx) (by omega)) HD.out.kids (by omega) (fun t ht => Nat.le_trans (HD.out.b2 t ht) (by omega))
            rw [hn1, hn2] at hrec
            have HREC := Lib.hid hrec
            have HWT : Hid (wt (.node ⟨3, ls⟩ ts) ≤ tB (D + 1)) := Lib.hid (by
              rw [wt_node]
              show ls.length + total ls + (ts.length + (ts.map wt).sum) ≤ 2 * tB D + 20
              have h1 := total_le_mul HD.out.b1
              have h2 := sum_le_mul HD.out.b2
              have h3 : ts.length * tB D ≤ 2 * tB D := Nat.mul_le_mul_right _ (by omega)
              omega)
            have HC9 := Lib.hid HD.out.cur
            have HN1 := Lib.hid hn1
            have HN2 := Lib.hid hn2
            clear hrec htb hkn hn1 hn2
            go_wp2_with fail
            refine HREC.out.mono ?_
            rintro e w5 hmade
            have hb5 : Below wr.heap.size wr w5 := by
              obtain ⟨_, _, _, _, _, _, _, _, hb3⟩ := hmade
              exact hb3
            have HBX5 := Lib.hid (HBX9.out.under hb5 HBX9.out.lt)
            have HM := Lib.hid (fun (U : World) (hU : w5.grownBy U (some H)) => draw_made (b := b) (B := tB (D + 1)) (w := w) (U := U) hmade HWT.out HC9.out HX9.out HBL.out (by have := HH.out; omega) (by omega) hU)
            obtain ⟨LL, AA, lc9, dd, _, rfl, _⟩ := hmade
            have HM2 : Hid (∀ U : World, w5.grownBy U (some H) → DrawTy b (tB (D + 1)) w (.returned (.agg #[.int .i64 3, .slice LL k lc9, .slice AA k dd])) U) := Lib.hid (by
              intro U hU
              obtain ⟨L9, A9, c9, d9, e9, h9⟩ := HM.out U hU
              rw [← e9] at h9
              have e1 : (Tr.node (⟨3, ls⟩ : TyA) ts).top.labels.length = k := HN1.out
              have e2 : (Tr.node (⟨3, ls⟩ : TyA) ts).kids.length = k := HN2.out
              rw [e1, e2] at h9
              exact h9)
            have r0 := HBX5.out.c0
            have r1 := HBX5.out.c1
            have r2 := HBX5.out.c2
            have s0 := HBX5.out.free 0
            have s1 := HBX5.out.free 1
            have s2 := HBX5.out.free 2
            have e30 : (Tr.node (⟨3, ls⟩ : TyA) ts).top.kind = 3 := rfl
            have e31 : (Tr.node (⟨3, ls⟩ : TyA) ts).top.labels.length = k := HN1.out
            have e32 : (Tr.node (⟨3, ls⟩ : TyA) ts).kids.length = k := HN2.out
            rw [e30, e31, e32]
            clear HM hb5 e30 e31 e32
            go_wp2_with fail
            generalize hU : ((w5.setCell ⟨H, 0, none⟩ (.int .i64 3)).setCell ⟨H, 1, none⟩ (.slice LL k lc9)).setCell ⟨H, 2, none⟩ (.slice AA k dd) = U
            have hgU : w5.grownBy U (some H) := by rw [← hU]; exact grown_set (grown_set (grown_set (World.grownBy.refl _ _) _) _) _
            have u1 : Box3 U H 27 (.int .i64 3) (.slice LL k lc9) (.slice AA k dd) := by
              rw [← hU]
              exact ((HBX5.out.set0 _).set1 _).set2 _
            have HRR := Lib.hid (HM2.out U hgU)
            have t0 := u1.c0
            have t1 := u1.c1
            have t2 := u1.c2
            clear hU hgU u1 r0 r1 r2 s0 s1 s2
            exact bodyPost_ret (v := .agg #[.int .i64 3, .slice LL k lc9, .slice AA k dd]) (by simp [results, Try.results44, go_sem, t0, t1, t2]) rfl HRR.out
      · have HCI := Lib.hid (HI.out hD0 w3 HC3.out)
        go_wp2_with fail
        refine HCI.out.mono ?_
        rintro e w4 ⟨t, L4, A4, c4, d4, fp, rfl, hot, hfp, hwt, hc4, hg4⟩
        have hwt2 : wt t ≤ 1048576 := Nat.le_trans hwt (Nat.le_trans (tB_le D (by omega)) (by decide))
        have HBG := Lib.hid (l3Bag_any t w4 _ hot.reads hwt2)
        have hs4 := hg4.size
        have HX4 : Hid (w.grownBy w4 (some b)) := grown_trans_row HX3.out hg4
        have HBX4 : Hid (Box3 w4 H 27 (.int .i64 0) (.slice none 0 0) (.slice none 0 0)) := HBX3.out.grown hg4 (fun e => by injection e with e; have := HH.out; omega)
        have HC4 := Lib.hid hc4
        have HWT : Hid (wt (.node ⟨4, []⟩ [t]) ≤ tB (D + 1)) := Lib.hid (by
          rw [wt_node]
          show 0 + total [] + (1 + ([t].map wt).sum) ≤ 2 * tB D + 20
          simp [total]
          omega)
        clear hot hfp hc4 hg4
        go_wp2_with fail
        refine HBG.out.mono ?_
        rintro e w5 hmade
        have hb5 : Below w4.heap.size w4 w5 := by
          obtain ⟨_, _, _, _, _, _, _, _, hb3⟩ := hmade
          exact hb3
        have HBX5 := Lib.hid (HBX4.out.under hb5 HBX4.out.lt)
        have HM := Lib.hid (fun (U : World) (hU : w5.grownBy U (some H)) => draw_made (b := b) (B := tB (D + 1)) (w := w) (U := U) hmade HWT.out HC4.out HX4.out HBL.out (by have := HH.out; omega) (by omega) hU)
        obtain ⟨LL, AA, lc, dd, _, rfl, _⟩ := hmade
        have HM2 : Hid (∀ U : World, w5.grownBy U (some H) → DrawTy b (tB (D + 1)) w (.returned (.agg #[.int .i64 4, .slice LL 0 lc, .slice AA 1 dd])) U) := Lib.hid (by
          intro U hU
          obtain ⟨L9, A9, c9, d9, e9, h9⟩ := HM.out U hU
          rw [← e9] at h9
          exact h9)
        have r0 := HBX5.out.c0
        have r1 := HBX5.out.c1
        have r2 := HBX5.out.c2
        have s0 := HBX5.out.free 0
        have s1 := HBX5.out.free 1
        have s2 := HBX5.out.free 2
        clear HM hb5
        have e40 : (Tr.node (⟨4, []⟩ : TyA) [t]).top.kind = 4 := rfl
        have e41 : (Tr.node (⟨4, []⟩ : TyA) [t]).top.labels.length = 0 := rfl
        have e42 : (Tr.node (⟨4, []⟩ : TyA) [t]).kids.length = 1 := rfl
        rw [e40, e41, e42]
        go_wp2_with fail
        generalize hU : ((w5.setCell ⟨H, 0, none⟩ (.int .i64 4)).setCell ⟨H, 1, none⟩ (.slice LL 0 lc)).setCell ⟨H, 2, none⟩ (.slice AA 1 dd) = U
        have hgU : w5.grownBy U (some H) := by rw [← hU]; exact grown_set (grown_set (grown_set (World.grownBy.refl _ _) _) _) _
        have u1 : Box3 U H 27 (.int .i64 4) (.slice LL 0 lc) (.slice AA 1 dd) := by
          rw [← hU]
          exact ((HBX5.out.set0 _).set1 _).set2 _
        have HRR := Lib.hid (HM2.out U hgU)
        have t0 := u1.c0
        have t1 := u1.c1
        have t2 := u1.c2
        clear hU hgU u1 r0 r1 r2 s0 s1 s2
        exact bodyPost_ret (v := .agg #[.int .i64 4, .slice LL 0 lc, .slice AA 1 dd]) (by simp [results, Try.results44, go_sem, t0, t1, t2]) rfl HRR.out
    · have hbn : Below wc.heap.size wc (wc.alloc (.cells #[.int .i64 1, .int .i64 2, .int .i64 1] 3)) := (Below.refl _ _).alloc (Nat.le_refl _) _
      have HPK := Lib.hid (l1PickInt_any b wc.heap.size 3 [1, 2, 1] (wc.alloc (.cells #[.int .i64 1, .int .i64 2, .int .i64 1] 3)) (HC2.out.below hbn) (sl_new wc #[.int .i64 1, .int .i64 2, .int .i64 1] 3) (by have := HC2.out.lt; omega) (by decide) (by decide))
      have HBN := Lib.hid hbn
      clear hbn hc2 hg2 hy
      go_wp2_with fail
      refine HPK.out.mono ?_
      rintro e w3 ⟨u, hu, rfl, hc3, hg3⟩
      have hq : ∃ q : Int, u = .int .i64 q ∧ -9223372036854775808 ≤ q ∧ q ≤ 9223372036854775807 := by
        simp at hu
        rcases hu with rfl | rfl | rfl
        · exact ⟨1, rfl, by decide, by decide⟩
        · exact ⟨2, rfl, by decide, by decide⟩
        · exact ⟨1, rfl, by decide, by decide⟩
      obtain ⟨q, rfl, q1, q2⟩ := hq
      have hs3 := hg3.size
      have HX3 : Hid (w.grownBy w3 (some b)) := grown_trans_row (grown_trans_row HX.out (grown_of_below HBN.out)) hg3
      have HBX3 : Hid (Box3 w3 H 27 (.int .i64 0) (.slice none 0 0) (.slice none 0 0)) := (HBX.out.under HBN.out HBX.out.lt).grown hg3 (fun e => by injection e with e; have := HH.out; omega)
      have HC3 := Lib.hid hc3
      clear hc3 hg3 hu
      have r0 := HBX3.out.c0
      have r1 := HBX3.out.c1
      have r2 := HBX3.out.c2
      have s0 := HBX3.out.free 0
      have s1 := HBX3.out.free 1
      have s2 := HBX3.out.free 2
      go_wp2_with fail
      generalize hU : ((w3.setCell ⟨H, 0, none⟩ (.int .i64 q)).setCell ⟨H, 1, none⟩ (.slice none 0 0)).setCell ⟨H, 2, none⟩ (.slice none 0 0) = U
      have hgU : w3.grownBy U (some H) := by rw [← hU]; exact grown_set (grown_set (grown_set (World.grownBy.refl _ _) _) _) _
      have u1 : Box3 U H 27 (.int .i64 q) (.slice none 0 0) (.slice none 0 0) := by
        rw [← hU]
        exact ((HBX3.out.set0 _).set1 _).set2 _
      have HRR : Hid (DrawTy b (tB (D + 1)) w (.returned (.agg #[.int .i64 q, .slice none 0 0, .slice none 0 0])) U) :=
        draw_leaf q1 q2 (HC3.out.grownNew hgU (fun g hgg => by injection hgg with hgg; have := HH.out; omega)) (grown_new HX3.out hgU (fun g hgg => by injection hgg with hgg; have := HH.out; omega))
      have t0 := u1.c0
      have t1 := u1.c1
      have t2 := u1.c2
      clear hU hgU u1 r0 r1 r2 s0 s1 s2
      exact bodyPost_ret (v := .agg #[.int .i64 q, .slice none 0 0, .slice none 0 0]) (by simp [results, Try.results44, go_sem, t0, t1, t2]) rfl HRR.out

/-- a drawn data type of at most the depth D + 1 -/
theorem l3Draw_any (b : Nat) : ∀ (D : Nat), D + 1 ≤ 10 → ∀ w : World, Cur w b → Calls Try.prog 44 #[.pointer (some ⟨b, 0, none⟩), .int .i64 ((D + 1 : Nat) : Int)] w (DrawTy b (tB (D + 1)) w)
  | 0, h => l3Draw_step b 0 h (fun h => absurd rfl h)
  | D + 1, h => l3Draw_step b (D + 1) h (fun _ w hc => l3Draw_any b D (by omega) w hc)
end Go.Proofs.Ytffaggiblglcbaa
