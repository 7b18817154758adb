/-
  Merged by program: RowsS, CdbS, SchS, VaHasL, TyData.
-/
import Derived.Test.YtlikmgkjilmjpaaGreatI27
import Derived.Test.YtlikmgkjilmjpaaGreatI8
import Derived.Test.YtlikmgkjilmjpaaGreatI11
import Derived.Test.YtlikmgkjilmjpaaGreatI26
import Derived.Test.YtlikmgkjilmjpaaGreatI16
import Derived.Test.YtlikmgkjilmjpaaGreatI9
import Derived.Deep.RegionLaw
import Derived.Test.YtlikmgkjilmjpaaGreatI18
import Derived.Test.YtlikmgkjilmjpaaGreatI17
import Derived.Test.YtlikmgkjilmjpaaGreatI1
import Derived.Test.YtlikmgkjilmjpaaGreatI5

/-
  The model's l9Values, RowsOf.
-/
namespace Go.Proofs.YtlikmgkjilmjpaaGreat
open Go.RowKit

set_option maxRecDepth 100000 in
set_option maxHeartbeats 3200000 in
theorem l9Values_any (ts : List Va) (w : World) (A : Option Addr) (d : Nat) (hp : RVas w A ts) (hw : wL wv ts ≤ 1048576) : Calls Tryz.prog 50 #[.slice A ts.length d] w (MadeL' kVa 47 ts w) := by
  obtain ⟨i1, hi1, hy0, hy1, hy2⟩ := info_parts infoVa
  have hlen : ts.length ≤ 1048576 := by unfold wL at hw; omega
  obtain ⟨W1, hW1⟩ : ∃ W1, w.alloc (.cells #[] 47) = W1 := ⟨_, rfl⟩
  obtain ⟨H, hH⟩ : ∃ H, w.heap.size = H := ⟨_, rfl⟩
  have ho1 : W1.ownsRow w.heap.size 47 4 (.slice (some ⟨H, 0, none⟩) 0 0) 0 [] := by
    rw [← hW1, ← hH]
    exact World.ownsRow_made (base := w.heap.size) (size := 4) (e := 47) w #[] 0 (Nat.le_refl _) (by unfold maxLen; omega) (by simp)
  have hb1 : Below w.heap.size w W1 := by rw [← hW1]; exact (Below.refl _ _).alloc (Nat.le_refl _) _
  have HI0 : Hid (ApInv kVa 47 ts w (.slice (some ⟨H, 0, none⟩) 0 0) (.int .i64 0) W1) := Lib.hid (apinv_zero kVa _ ts ho1 (Nat.le_refl _) hb1)
  have HP := Lib.hid hp
  have HW := Lib.hid hw
  have HW1 := Lib.hid hW1
  clear hp hW1 ho1 hb1 hw
  go_enter Tryz.func50, Tryz.ntmps50
  go_wp2_with fail
  rw [HW1.out]
  go_loopw [3, 4] (fun v i wr => ApInv kVa 47 ts w v i wr) (fun _ i _ => ts.length - (intOf i).toNat)
  case atStart => exact HI0.out
  case round =>
    obtain ⟨k, A', d', cells, fs, fp, hk, rfl, rfl, hol, hfp, hb⟩ := hrel
    by_cases hlt : k < ts.length
    · obtain ⟨ad, p, c0, c1, c2, c3, rfl, hpe, hr, q0, q1, q2, q3⟩ := vid_at HP.out hb hlt
      have hwk := (wL_le hlt HW.out).1
      have HC := Lib.hid (l5Copy_any ts[k] wr _ hr hwk)
      have hcl : (ts.take k).length = k := by rw [List.length_take]; omega
      have hrow := hol.row
      rw [hcl] at hrow
      obtain ⟨x0, hx0⟩ : ∃ x0, ts[k].top.kind = x0 := ⟨_, rfl⟩
      obtain ⟨x1, hx1⟩ : ∃ x1, ts[k].top.num = x1 := ⟨_, rfl⟩
      obtain ⟨x2, hx2⟩ : ∃ x2, ts[k].top.labels.length = x2 := ⟨_, rfl⟩
      obtain ⟨x3, hx3⟩ : ∃ x3, ts[k].kids.length = x3 := ⟨_, rfl⟩
      have HCD : Hid (∀ (e : Ending) (w2 : World), MadeV ts[k] wr e w2 → ∃ (L2 A2 : Option Addr) (l2 d2 : Nat), e = .returned (.agg #[.int .i64 x0, .int .i64 x1, .slice L2 x2 l2, .slice A2 x3 d2]) ∧
          (w2.alloc (.cells #[.int .i64 x0, .int .i64 x1, .slice L2 x2 l2, .slice A2 x3 d2] 47)).ownsRow 0 47 4 (.slice A' k d') k cells ∧
          ∀ (i : Value) (A4 : Option Addr) (d4 : Nat) (w4 : World), i = .int .i64 ((k + 1 : Nat) : Int) → w4.ownsRow 0 47 4 (.slice A4 (k + 1) d4) (k + 1) (cells ++ [.int .i64 x0, .int .i64 x1, .slice L2 x2 l2, .slice A2 x3 d2]) →
          (w2.alloc (.cells #[.int .i64 x0, .int .i64 x1, .slice L2 x2 l2, .slice A2 x3 d2] 47)).grownBy w4 (Value.slice A' k d').ownBlock → ((Value.slice A4 (k + 1) d4).ownBlock = (Value.slice A' k d').ownBlock ∨ (Value.slice A4 (k + 1) d4).ownBlock = some (w2.alloc (.cells #[.int .i64 x0, .int .i64 x1, .slice L2 x2 l2, .slice A2 x3 d2] 47)).heap.size) →
          ApInv kVa 47 ts w (.slice A4 (k + 1) d4) i w4) := Lib.hid (by
        rintro e w2 ⟨L2, A2, l2, d2, fx, rfl, hot, hfx, hb2⟩
        rw [hx0, hx1, hx2, hx3] at hot ⊢
        refine ⟨L2, A2, l2, d2, rfl, own_keep hrow (row := none) (grown_none (hb2.alloc hb2.size _)) (fun b _ => by simp), fun i A4 d4 w4 hii h1 h2 h3 => ?_⟩
        exact apinv_more (a := kVa) hlt (by omega) hii hol hfp hb hb2 hot hfx _ h1 h2 h3)
      clear hr hwk hol hfp hb hk hrow hcl hx0 hx1 hx2 hx3
      go_wp2_with fail
      refine HC.out.mono ?_
      rintro e w2 hmade
      obtain ⟨L2, A2, l2, d2, rfl, hrw, hnx⟩ := HCD.out _ _ hmade
      have HRW := Lib.hid hrw
      have HNX := Lib.hid hnx
      have HNW := Lib.hid (news4 w2 (.int .i64 x0) (.int .i64 x1) (.slice L2 x2 l2) (.slice A2 x3 d2) 47)
      clear hmade hrw hnx q0 q1 q2 q3 HC HCD
      go_wp2_with (at_builtin; refine wpList_append_at _ rfl (.tmp 12) (.tmp 18) 45 rfl 0 47 i1 _ 4 64 Tryz.underlying45 hi1 hy0 hy1 hy2 rfl (by omega) (.slice A' k d') k cells rfl HRW.out ⟨w2.heap.size, 0, none⟩ 1 1 [.int .i64 x0, .int .i64 x1, .slice L2 x2 l2, .slice A2 x3 d2] rfl rfl HNW.out (one4 _ _ _ _ _ _ _ _) (by unfold maxLen; omega) (by omega) (Nat.zero_le _) ?_; intro A4 d4 w4 hown4 hgr4 hor4; have HMM := Lib.hid (fun i hi => HNX.out i A4 d4 w4 hi hown4 hgr4 hor4); clear hown4 hgr4 hor4)
      go_roundw
      case rel => exact HMM.out _ (by go_num)
      case measure => simp [intOf]; omega
    · have he : k = ts.length := by omega
      subst he
      have HR := Lib.hid (apinv_done hol hfp hb)
      clear hol hfp hb hk
      go_wp2_with fail
      go_ret
      exact HR.out
/-- the rows of the first table with a name -/
def rowsD (ds : Db) (nm : ByteArray) : List Va :=
  match ds.find? (fun d => decide (d.1 = nm)) with
  | some d => d.2
  | none => []
theorem rowsD_some {ds : Db} {nm : ByteArray} {d : Dd} (h : ds.find? (fun d => decide (d.1 = nm)) = some d) : rowsD ds nm = d.2 := by unfold rowsD; rw [h]
theorem rowsD_none {ds : Db} {nm : ByteArray} (h : ds.find? (fun d => decide (d.1 = nm)) = none) : rowsD ds nm = [] := by unfold rowsD; rw [h]
theorem dd_bounds {t : Db} {k : Nat} (hk : k < t.length) (hw : wDb t ≤ 1048576) : t[k].1.size ≤ 1048576 ∧ wL wv t[k].2 ≤ 1048576 ∧ t.length ≤ 1048576 := by
  have h := wL_le (f := wDd) hk hw
  have h1 : wDd t[k] = t[k].1.size + wL wv t[k].2 := rfl
  omega
theorem rowsD_w (ds : Db) (nm : ByteArray) : wL wv (rowsD ds nm) ≤ wDb ds := by
  unfold rowsD
  split
  · rename_i d h
    have hm := List.mem_of_find?_eq_some h
    obtain ⟨j, hj, rfl⟩ := List.getElem_of_mem hm
    have h1 := (wL_le (f := wDd) hj (Nat.le_refl (wDb ds))).1
    have h2 : wDd ds[j] = ds[j].1.size + wL wv ds[j].2 := rfl
    omega
  · simp [wL]
theorem madeL_nil {α : Type} {a : Kd α} {e : TypeId} {w W : World} (hb : Below w.heap.size w W) : MadeL' a e [] w (.returned (.slice (some ⟨W.heap.size, 0, none⟩) 0 0)) (W.alloc (.cells #[] e)) := by
  have ho := World.ownsRow_made (base := w.heap.size) (size := a.n) (e := e) W #[] 0 hb.size (by unfold maxLen; omega) (by simp)
  refine ⟨_, _, [W.heap.size], rfl, (ol_made a e _ (A := some ⟨W.heap.size, 0, none⟩) ho).ol, fun b hm => ?_, hb.alloc hb.size _⟩
  simp at hm
  subst hm
  have := hb.size
  simp
  omega

end Go.Proofs.YtlikmgkjilmjpaaGreat

/-
  The model's l9Copy.
-/
namespace Go.Proofs.YtlikmgkjilmjpaaGreat
open Go.RowKit

theorem cdbS_news (w : World) (a b : Value) (t : TypeId) : ∀ (j : Nat) (u : Value), [a, b][j]? = some u → (w.alloc (.cells #[a, b] t)).cell? ((⟨w.heap.size, 0, none⟩ : Addr).add j) = some u := by
  intro j u hj
  rw [Addr.add_lit, Nat.zero_add, cell_of_row _ _ j #[a, b] t (0, 0) (heap_alloc_new w _)]
  match j, hj with
  | 0, hj => simpa using hj
  | 1, hj => simpa using hj
theorem cdbS_one (s : ByteArray) (A : Option Addr) (n d : Nat) : ∀ u ∈ [Value.string s, .slice A n d], u.oneCell' = true := by
  intro u hu
  simp at hu
  rcases hu with rfl | rfl <;> rfl

set_option maxRecDepth 100000 in
set_option maxHeartbeats 4000000 in
theorem specCopyDb_any (t : Db) (w : World) (cs : List Value) (h : RDb w t cs) (hw : wDb t ≤ 1048576) : Calls Tryz.prog 26 #[.agg cs.toArray] w (MadeDb t w) := by
  obtain ⟨i1, hi1, hy0, hy1, hy2⟩ := info_parts infoDd
  obtain ⟨A, c, rfl, hl, _, hp⟩ := h.open
  have hlen : t.length ≤ 1048576 := Nat.le_trans (len_wDb t) hw
  obtain ⟨W0, hW0⟩ : ∃ W0, (w.alloc (.cells #[.slice A t.length c] 37)).alloc (.cells #[.slice none 0 0] 37) = W0 := ⟨_, rfl⟩
  obtain ⟨W1, hW1⟩ : ∃ W1, W0.alloc (.cells #[.slice none 0 0] 37) = W1 := ⟨_, rfl⟩
  obtain ⟨H, hH⟩ : ∃ H, w.heap.size = H := ⟨_, rfl⟩
  have b0 : Box1 W0 H 37 (.slice A t.length c) := by rw [← hW0, ← hH]; exact (Box1.new w _ _).alloc _
  have b1 : Box1 W0 (H + 1) 37 (.slice none 0 0) := by
    rw [← hW0, ← hH]
    have := Box1.new (w.alloc (.cells #[.slice A t.length c] 37)) 37 (.slice none 0 0)
    simpa using this
  have hs0 : W0.heap.size = H + 1 + 1 := by rw [← hW0, ← hH]; simp
  have b2 : Box1 W1 (H + 1 + 1) 37 (.slice none 0 0) := by rw [← hW1, ← hs0]; exact Box1.new W0 _ _
  have hb0 : Below w.heap.size w W0 := by rw [← hW0]; exact ((Below.refl _ _).alloc (Nat.le_refl _) _).alloc (by simp) _
  have hb01 : Below W0.heap.size W0 W1 := by rw [← hW1]; exact (Below.refl _ _).alloc (Nat.le_refl _) _
  have HA := Lib.hid (fun (W : World) (hB : Below W0.heap.size W0 W) => b0.under hB b0.lt)
  have HR1 := Lib.hid (fun (W : World) (hB : Below W0.heap.size W0 W) => b1.under hB b1.lt)
  have HB0 := Lib.hid hb0
  have HS0 := Lib.hid hs0
  have HH := Lib.hid hH
  have HWT := Lib.hid hw
  have HP := Lib.hid (hp.keep hb0)
  have HW0 := Lib.hid hW0
  have HW1 := Lib.hid hW1
  have x0 := (b0.under hb01 b0.lt).c0
  have HI0 : Hid (ApFInv kDd 66 37 t W0 (H + 1 + 1) (.int .i64 0) W1) := Lib.hid ⟨0, none, 0, [], fun _ => [], [], Nat.zero_le _, rfl, apF_zero kDd _ _ _ b2 (by omega) hb01⟩
  clear h hp hW0 hW1 b0 b1 b2 hb0 hb01 hs0 hw
  go_enter Tryz.func26, Tryz.ntmps26
  go_wp2_with fail
  rw [HW0.out, HW1.out]
  go_wp2_with fail
  go_loopw [4] (fun i wr => ApFInv kDd 66 37 t W0 (H + 1 + 1) i wr) (fun i _ => t.length - (intOf i).toNat)
  case atStart => exact HI0.out
  case round =>
    obtain ⟨k, A', d', cells, fs, fp, hk, rfl, hap⟩ := hrel
    have hb := hap.2.2.2.2
    clear x0
    have x0 := (HA.out wr hb).c0
    have HAP := Lib.hid hap
    by_cases hlt : k < t.length
    · obtain ⟨ad, p, c0, c1, rfl, hpe, hr, q0, q1⟩ := rl_at2 kDd_n HP.out hb hlt
      obtain ⟨TA, ta, td, hcs, hs, hy⟩ := kDd_open hr
      simp only [List.cons.injEq, and_true] at hcs
      obtain ⟨rfl, rfl⟩ := hcs
      obtain ⟨rfl, _, _, hrv⟩ := kVas_slice hy
      obtain ⟨_, k1, _⟩ := dd_bounds hlt HWT.out
      have hdr : Below wr.heap.size wr wr.drew := (Below.refl _ _).drew
      have bg5 : Box1 wr (H + 1 + 1) 37 (.slice A' k d') := hap.1
      have HCP := Lib.hid (l9Values_any t[k].2 wr.drew TA td (hrv.keep hdr) k1)
      have HAFT : Hid (∀ w6 : World, Below wr.drew.heap.size wr.drew w6 → w6.cell? ⟨H, 0, none⟩ = some (.slice (some ad) t.length c) ∧ w6.cell? p = some (.string t[k].1) ∧ w6.cell? ⟨p.block, p.off + 1, none⟩ = some (.slice TA t[k].2.length td) ∧ w6.cell? ⟨H + 1 + 1, 0, none⟩ = some (.slice A' k d')) := Lib.hid (fun w6 h6 => by
        have up : ∀ (q : Addr) (u : Value), wr.cell? q = some u → w6.cell? q = some u := fun q u h => (h6.cell (World.block_lt_of_cell? wr.drew _ h)).trans h
        exact ⟨up _ _ x0, up _ _ q0, up _ _ q1, up _ _ bg5.c0⟩)
      have HNX : Hid (∀ (w6 : World) (A5 : Option Addr) (d5 : Nat) (f5 : List Nat), OL kVa 47 w6 t[k].2 (.slice A5 t[k].2.length d5) f5 → (∀ b ∈ f5, wr.drew.heap.size ≤ b ∧ b < w6.heap.size) → Below wr.drew.heap.size wr.drew w6 →
          (w6.alloc (.cells #[.string t[k].1, .slice A5 t[k].2.length d5] 66)).ownsRow 0 66 2 (.slice A' k d') k cells ∧ Box1 (w6.alloc (.cells #[.string t[k].1, .slice A5 t[k].2.length d5] 66)) (H + 1 + 1) 37 (.slice A' k d') ∧
          ∀ (i : Value) (A4 : Option Addr) (d4 : Nat) (w4 : World), i = .int .i64 ((k + 1 : Nat) : Int) → w4.ownsRow 0 66 2 (.slice A4 (k + 1) d4) (k + 1) (cells ++ [.string t[k].1, .slice A5 t[k].2.length d5]) →
            (w6.alloc (.cells #[.string t[k].1, .slice A5 t[k].2.length d5] 66)).grownBy w4 (Value.slice A' k d').ownBlock → ((Value.slice A4 (k + 1) d4).ownBlock = (Value.slice A' k d').ownBlock ∨ (Value.slice A4 (k + 1) d4).ownBlock = some (w6.alloc (.cells #[.string t[k].1, .slice A5 t[k].2.length d5] 66)).heap.size) →
            ApFInv kDd 66 37 t W0 (H + 1 + 1) i (w4.setCell ⟨H + 1 + 1, 0, none⟩ (.slice A4 (k + 1) d4))) := Lib.hid (fun w6 A5 d5 f5 ho5 hf5 hb6 => by
        have hb56 : Below wr.heap.size wr w6 := hdr.trans (hb6.mono hdr.size)
        have hg6 : wr.grownBy (w6.alloc (.cells #[.string t[k].1, .slice A5 t[k].2.length d5] 66)) none := grown_none (hb56.alloc hb56.size _)
        refine ⟨own_keep (hap.row (Nat.le_of_lt hlt)) (row := none) hg6 (fun b _ => by simp), (hap.1.under hb56 hap.1.lt).alloc _, fun i A4 d4 w4 hii h1 h2 h3 => ?_⟩
        exact apF_more (a := kDd) (w2 := w6) (fx := f5) hlt (by omega) hii hap hb56 (kDd_omake hs ⟨_, rfl, ho5⟩) (fun b hm => by have := hf5 b hm; have := hdr.size; omega) _ h1 h2 h3)
      have HAPT := Lib.hid hap.apart
      have g5 := bg5.c0
      generalize t[k].1 = nm at *
      generalize t[k].2 = vs at *
      clear hr hs hy hrv hk hap hb hdr bg5 k1
      go_wp2_with fail
      go_region_law (first
        | (go_simp; refine HCP.out.mono ?_; rintro e w6 hm; obtain ⟨A5, d5, f5, rfl, ho5, hf5, hb6⟩ := hm; have hn5 := HNX.out w6 A5 d5 f5 ho5 hf5 hb6; have HROW := Lib.hid hn5.1; have HBOX := Lib.hid hn5.2.1; have HNXT := Lib.hid hn5.2.2; have HNW := Lib.hid (cdbS_news w6 (.string nm) (.slice A5 vs.length d5) 66); obtain ⟨u0, u1, u2, u3⟩ := HAFT.out w6 hb6; have v0 := World.new_ne w6 _ u0; have v1 := World.new_ne w6 _ u1; have v3 := hn5.2.1.c0; clear ho5 hf5 hn5 hb6)
        | (refine step_append_at (by rfl) (.tmp 14) (.tmp 29) 35 (by rfl) 0 66 i1 _ 2 40 Tryz.underlying35 hi1 hy0 hy1 hy2 (by rfl) (by omega) (.slice A' k d') k cells (by rfl) HROW.out ⟨w6.heap.size, 0, none⟩ 1 1 [.string nm, .slice A5 vs.length d5] (by rfl) (by rfl) HNW.out (cdbS_one _ _ _ _) (by unfold maxLen; omega) (by omega) (Nat.zero_le _) ?_; intro A4 d4 w4 hown4 hgr4 hor4; have bx4 := HBOX.out.grown hgr4 HAPT.out; have g4 := bx4.c0; have f4 := bx4.free 0; have HNW4 := Lib.hid (fun i hi => HNXT.out i A4 d4 w4 hi hown4 hgr4 (by simpa using hor4)); clear hown4 hgr4 hor4 bx4))
      all_goals go_wp2_with fail
      all_goals go_roundw
      all_goals first
        | exact HNW4.out _ (by go_num)
        | (simp [intOf]; omega)
    · have he : k = t.length := by omega
      subst he
      have bg := hap.1
      have g0 := bg.c0
      have br := HR1.out wr hb
      have r0 := br.c0
      have s0 := br.free 0
      have BR := Lib.hid br
      clear hb hk hap bg br
      go_wp2_with fail
      generalize hU : wr.setCell ⟨H + 1, 0, none⟩ (.slice A' t.length d') = U
      have hgU : wr.grownBy U (some (H + 1)) := by rw [← hU]; exact grown_set (World.grownBy.refl _ _) _
      have u1 : Box1 U (H + 1) 37 (.slice A' t.length d') := by
        rw [← hU]
        exact BR.out.set0 _
      have HRR : Hid (MadeDb t w (.returned (.agg #[.slice A' t.length d'])) U) := Lib.hid (by
        obtain ⟨fp', h1, h2, h3⟩ := apF_done (w := w) HAP.out HB0.out (by have := HS0.out; omega) (by have := HH.out; omega) hgU
        exact ⟨A', d', fp', rfl, ODb.ol.2 h1, h2, h3⟩)
      have t0 := u1.c0
      clear hU hgU u1 r0 s0 g0
      exact bodyPost_ret (v := .agg #[.slice A' t.length d']) (by simp [results, Tryz.results26, go_sem, t0]) rfl HRR.out
end Go.Proofs.YtlikmgkjilmjpaaGreat

/-
  The model's IsSchema.
-/
namespace Go.Proofs.YtlikmgkjilmjpaaGreat
open Go.RowKit

/-- what the loop keeps -/
def SchInv (xs : Sc) (w : World) (v i : Value) (wr : World) : Prop :=
  ∃ k : Nat, k ≤ xs.length ∧ i = .int .i64 (k : Int) ∧ wr.ownsRow w.heap.size 9 1 v k ((namesOf (xs.take k)).map Value.string) ∧ (xs.take k).all declB = true ∧ Below w.heap.size w wr
theorem dc_bounds {t : Sc} {k : Nat} (hk : k < t.length) (hw : wSc t ≤ 1048576) : t[k].1.size ≤ 1048576 ∧ wt t[k].2 ≤ 1048576 ∧ t.length ≤ 1048576 := by
  have h := wL_le (f := wDc) hk hw
  have h1 : wDc t[k] = t[k].1.size + wt t[k].2 := rfl
  omega

set_option maxRecDepth 100000 in
set_option maxHeartbeats 3200000 in
theorem specSch_any (t : Sc) (w : World) (cs : List Value) (h : RSc w t cs) (hw : wSc t ≤ 1048576) : Calls Tryz.prog 51 #[.agg cs.toArray] w (Truth (schB t) w) := by
  obtain ⟨A, d, rfl, hl, _, hp⟩ := h.open
  obtain ⟨i0, hi, hz0, hz1, hz2⟩ := info_parts infoStr
  have hlen : t.length ≤ 1048576 := Nat.le_trans (len_wSc t) hw
  obtain ⟨W1, hW1⟩ : ∃ W1, w.alloc (.cells #[.slice A t.length d] 42) = W1 := ⟨_, rfl⟩
  obtain ⟨W2, hW2⟩ : ∃ W2, W1.alloc (.cells #[] 9) = W2 := ⟨_, rfl⟩
  obtain ⟨H, hH⟩ : ∃ H, w.heap.size = H := ⟨_, rfl⟩
  have hbox : Box1 W1 H 42 (.slice A t.length d) := by rw [← hW1, ← hH]; exact Box1.new w _ _
  have hb1 : Below w.heap.size w W1 := by rw [← hW1]; exact (Below.refl _ _).alloc (Nat.le_refl _) _
  have hs1 : W1.heap.size = H + 1 := by rw [← hW1, ← hH]; simp
  have hb12 : Below W1.heap.size W1 W2 := by rw [← hW2]; exact (Below.refl _ _).alloc (Nat.le_refl _) _
  have ho2 : W2.ownsRow W1.heap.size 9 1 (.slice (some ⟨H + 1, 0, none⟩) 0 0) 0 [] := by
    rw [← hW2, ← hs1]
    exact World.ownsRow_made (base := W1.heap.size) (size := 1) (e := 9) W1 #[] 0 (Nat.le_refl _) (by unfold maxLen; omega) (by simp)
  have HBOX := Lib.hid (fun (W : World) (hB : Below W1.heap.size W1 W) => hbox.under hB hbox.lt)
  have HB1 := Lib.hid hb1
  have HP := Lib.hid (hp.keep hb1)
  have HW := Lib.hid hw
  have HW1 := Lib.hid hW1
  have HW2 := Lib.hid hW2
  have HS1 := Lib.hid hs1
  have HI0 : Hid (SchInv t W1 (.slice (some ⟨H + 1, 0, none⟩) 0 0) (.int .i64 0) W2) := Lib.hid ⟨0, Nat.zero_le _, rfl, by simpa [namesOf] using ho2, by simp, hb12⟩
  have x0 := (hbox.under hb12 hbox.lt).c0
  clear h hp hl hW1 hW2 hbox hb1 hs1 hb12 ho2 hw
  go_enter Tryz.func51, Tryz.ntmps51
  go_wp2_with fail
  rw [HW1.out, HW2.out]
  go_loopw [3, 4] (fun v i wr => SchInv t W1 v i wr) (fun _ i _ => t.length - (intOf i).toNat)
  case atStart => exact HI0.out
  case round =>
    obtain ⟨k, hk, rfl, hown, hall, hb⟩ := hrel
    obtain ⟨V, lc, rfl⟩ := own_shape hown
    have HO := Lib.hid hown
    have HB := Lib.hid hb
    have HALL := Lib.hid hall
    clear x0
    have x0 := (HBOX.out wr hb).c0
    by_cases hlt : k < t.length
    · obtain ⟨ad, p, c0, c1, c2, c3, rfl, hpe, hr, q0, q1, q2, q3⟩ := rl_at4 kDc_n HP.out hb hlt
      obtain ⟨tk, TL, TA, tl, tc, ta, td, hcs, hs, hy⟩ := kDc_open hr
      obtain ⟨hn1, hn2, _⟩ := dc_bounds hlt HW.out
      injection hcs with e0 hcs
      injection hcs with e1 hcs
      injection hcs with e2 hcs
      injection hcs with e3 hcs
      subst e0 e1 e2 e3
      have HN := Lib.hid (specName_any t[k].1 wr hn1)
      have HRW := Lib.hid (fun (W : World) (hB : Below wr.heap.size wr W) => specRow_any t[k].2 W _ (kTy.keep hy hB) hn2)
      have HNO : Hid (declB t[k] = false → schB t = false) := Lib.hid (fun h => sch_no hlt h)
      have HDB : Hid (declB t[k] = (nameB t[k].1 && rowB t[k].2)) := Lib.hid rfl
      have HBW : Hid (∀ W, Below wr.heap.size wr W → Below w.heap.size w W) := Lib.hid (fun W hB => (HB1.out.trans (hb.mono HB1.out.size)).trans (hB.mono (HB1.out.trans (hb.mono HB1.out.size)).size))
      have HMORE : Hid (declB t[k] = true → ∀ (W : World) (v' i : Value), Below wr.heap.size wr W → ∀ w5 : World, w5.ownsRow W1.heap.size 9 1 v' (k + 1) ((namesOf (t.take k)).map Value.string ++ [.string t[k].1]) → (W.alloc (.cells #[.string t[k].1] 9)).grownBy w5 (Value.slice V k lc).ownBlock → i = .int .i64 ((k + 1 : Nat) : Int) → SchInv t W1 v' i w5) := Lib.hid (by
        intro hd W v' i hB w5 ho hg hi
        refine ⟨k + 1, hlt, hi, by rw [namesOf_take t k hlt]; exact ho, all_take HALL.out hlt hd, ?_⟩
        have hb5 := (HB.out.trans (hB.mono HB.out.size)).alloc (HB.out.trans (hB.mono HB.out.size)).size (.cells #[.string t[k].1] 9)
        exact hb5.grown hg hb5.size (fun q hq => (HO.out.lt q hq).1))
      generalize t[k].2 = ty at HRW HDB
      generalize declB t[k] = dB at HNO HDB HMORE
      generalize t[k].1 = nm at HN HDB HMORE q0 hn1
      clear hr hcs hs hy hn2 hown hall hb hk
      cases hnb : nameB nm
      · have HF := Lib.hid (HNO.out (by rw [HDB.out, hnb]; rfl))
        rw [hnb] at HN
        have HR : Hid (Truth (schB t) w (.returned (.bool false)) wr) := Lib.hid ⟨by rw [HF.out], HBW.out wr (Below.refl _ _)⟩
        clear hnb HRW HMORE
        go_wp2_with (go_at_call 67; refine HN.out.mono ?_; rintro e W ⟨rfl, rfl⟩)
        go_ret
        exact HR.out
      · rw [hnb] at HN
        go_wp2_with (go_at_call 67; refine HN.out.mono ?_; rintro e W ⟨rfl, rfl⟩)
        refine (HRW.out wr (Below.refl _ _)).mono ?_
        rintro e w2 ⟨rfl, hb2⟩
        have HB2 := Lib.hid hb2
        have x2 := (HBOX.out w2 (HB.out.trans (hb2.mono HB.out.size))).c0
        have q02 := (hb2.cell (World.block_lt_of_cell? _ _ q0)).trans q0
        clear hb2 x0 q0 q1 q2 q3
        cases hrb : rowB ty
        · have HF := Lib.hid (HNO.out (by rw [HDB.out, hnb, hrb]; rfl))
          have HR : Hid (Truth (schB t) w (.returned (.bool false)) w2) := Lib.hid ⟨by rw [HF.out], HBW.out w2 HB2.out⟩
          clear hnb hrb HRW HMORE
          go_wp2_with fail
          go_ret
          exact HR.out
        · have HM := Lib.hid (HMORE.out (by rw [HDB.out, hnb, hrb]; rfl) w2)
          have hsl := Lib.hid (sl_one w2 (.string nm) 9)
          have O3 := Lib.hid ((own_below HO.out HB2.out).alloc (.cells #[.string nm] 9))
          have HS3 : Hid (W1.heap.size ≤ (w2.alloc (.cells #[.string nm] 9)).heap.size) := Lib.hid (by have h1 := HB.out.size; have h2 := HB2.out.size; simp; omega)
          have HOC : Hid (∀ u ∈ [Value.string nm], u.oneCell' = true) := Lib.hid (strs_oneCell [nm])
          clear hnb hrb HRW HMORE HNO HDB HN
          go_wp2_with (at_builtin; refine wpList_append_sl _ rfl (.tmp 31) (.tmp 38) 28 rfl W1.heap.size 9 i0 _ 16 Tryz.underlying28 hi hz0 hz1 hz2 rfl (.slice V k lc) k ((namesOf (t.take k)).map Value.string) rfl O3.out (some ⟨w2.heap.size, 0, none⟩) 1 1 [.string nm] rfl rfl hsl.out HOC.out (by unfold maxLen; omega) (by omega) HS3.out ?_; intro v5 w5 hown5 hg5 hor5; have HMM := Lib.hid (fun i hi => HM.out v5 i HB2.out w5 hown5 hg5 hi); clear hown5 hg5 hor5)
          go_roundw
          case rel => exact HMM.out _ (by go_num)
          case measure => simp [intOf]; omega
    · have he : k = t.length := by omega
      subst he
      have hlt : Hid (∀ W, Below wr.heap.size wr W → Below w.heap.size w W) := Lib.hid (fun W hB => (HB1.out.trans (hb.mono HB1.out.size)).trans (hB.mono (HB1.out.trans (hb.mono HB1.out.size)).size))
      have HE := Lib.hid (sch_all HALL.out)
      have hsl : Sl wr V ((namesOf t).map Value.string) := by
        have := Sl.of_own HO.out
        rwa [List.take_length] at this
      have hnl : (namesOf t).length = t.length := by simp [namesOf]
      have HAS := Lib.hid (hnl ▸ specAsc_any V lc (namesOf t) wr hsl (by rw [hnl]; omega))
      have HT : Hid (∀ b (n : Nat), b = (decide (t.length ≤ 4) && ascL (namesOf t)) → Truth (schB t) w (.returned (.bool b)) (wr.drewN n)) := Lib.hid (fun b n hb' => ⟨by rw [HE.out, hb'], hlt.out _ (below_drewN (Below.refl _ _) n)⟩)
      generalize ascL (namesOf t) = asc at HAS HT
      clear hown hall hb hsl hnl hk
      by_cases h4 : (t.length : Int) ≤ 4
      · have HR := Lib.hid (fun n => HT.out asc n (by rw [decide_eq_true (by omega)]; simp))
        go_wp2_with (go_at_call 69; refine HAS.out.mono ?_; rintro e W ⟨rfl, n, rfl⟩)
        go_ret
        exact HR.out n
      · have HR := Lib.hid (HT.out false 0 (by rw [decide_eq_false (by omega)]; rfl))
        go_wp2_with fail
        go_ret
        exact HR.out
end Go.Proofs.YtlikmgkjilmjpaaGreat

/-
  The model's count down by nodes of a value (l5Left).
-/
namespace Go.Proofs.YtlikmgkjilmjpaaGreat
open Go.RowKit

set_option maxHeartbeats 800000 in
theorem l5Left_any : ∀ (t : Va) (w : World) (cs : List Value) (left : Int), RVa w t cs → 0 ≤ left → left ≤ 1048577 → Calls Tryz.prog 71 #[.agg cs.toArray, .int .i64 left] w (Left t.size left w) := by
  refine Tr.ind ?_
  intro a ks ih w cs left h hl0 hl1
  obtain ⟨L, c, A, d, rfl, k1, k2, k3, hp⟩ := h.out
  rw [size_nodeV]
  obtain ⟨W1, hW1⟩ : ∃ W1, w.alloc (.cells #[.int .i64 a.kind, .int .i64 a.num, .slice L a.labels.length c, .slice A ks.length d] 47) = W1 := ⟨_, rfl⟩
  have hb0 : Below w.heap.size w W1 := by rw [← hW1]; exact (Below.refl _ _).alloc (Nat.le_refl _) _
  obtain ⟨H, hH⟩ : ∃ H, w.heap.size = H := ⟨_, rfl⟩
  have b0 : Box4 W1 H 47 (.int .i64 a.kind) (.int .i64 a.num) (.slice L a.labels.length c) (.slice A ks.length d) := by rw [← hW1, ← hH]; exact Box4.new w _ _ _ _ _
  have HP := Lib.hid hp
  have HI := Lib.hid ih
  have HB0 := Lib.hid hb0
  have B0 := Lib.hid b0
  have HW1 := Lib.hid hW1
  clear hp ih hb0 b0 hW1 k1 k2 h
  go_enter Tryz.func71, Tryz.ntmps71
  go_wp2_with fail
  rw [HW1.out]
  go_loopw [1, 5] (fun l i wr => ∃ (k : Nat) (r : Int), k ≤ ks.length ∧ i = .int .i64 k ∧ l = .int .i64 r ∧ -1 ≤ r ∧ r < left ∧ (0 ≤ r → r + 1 + ((ks.take k).map Tr.size).sum = left) ∧ (r < 0 → left < 1 + (((ks.take k).map Tr.size).sum : Nat)) ∧ Below W1.heap.size W1 wr) (fun _ i _ => ks.length - (intOf i).toNat)
  case atStart => exact ⟨0, _, Nat.zero_le _, rfl, rfl, by omega, by omega, by intro _; simp, by intro _; simp; omega, Below.refl _ _⟩
  case round =>
    obtain ⟨k, r, hk, rfl, rfl, hr1, hr2, hr3, hr4, hb⟩ := hrel
    have hbw := HB0.out.trans (hb.mono HB0.out.size)
    have bk := B0.out.under hb B0.out.lt
    have hbx := bk.c3
    by_cases hlt : k < ks.length
    · by_cases hr0 : 0 ≤ r
      · obtain ⟨ad, p, c0, c1, c2, c3, rfl, hpe, hr, q0, q1, q2, q3⟩ := vid_at HP.out hbw hlt
        have hc := HI.out ks[k] (List.getElem_mem hlt) wr [c0, c1, c2, c3] r hr hr0 (by omega)
        have hst := sum_take_succ Tr.size ks k hlt
        have HC := Lib.hid hc
        have HST := Lib.hid hst
        have HR3 := Lib.hid (hr3 hr0)
        clear hc hr hst bk hr3 hr4
        go_wp2_with fail
        refine HC.out.mono ?_
        rintro e w2 ⟨r2, rfl, hq1, hq2, hq3, hq4, hb2⟩
        have hb3 := hb.trans (hb2.mono hb.size)
        have h3 := HR3.out
        have h4 := HST.out
        have HQ3 : Hid (0 ≤ r2 → r2 + 1 + ((ks.take (k + 1)).map Tr.size).sum = left) := fun h => by have := hq3 h; omega
        have HQ4 : Hid (r2 < 0 → left < 1 + (((ks.take (k + 1)).map Tr.size).sum : Nat)) := fun h => by have := hq4 h; omega
        clear hq3 hq4 h3 h4
        go_wp2_with fail
        go_roundw
        case rel => exact ⟨k + 1, r2, hlt, by go_num, rfl, hq1, by omega, HQ3.out, HQ4.out, hb3⟩
        case measure => simp [intOf]; omega
      · have hle := sum_take_le Tr.size ks k
        have HR : Hid (Left (1 + (ks.map Tr.size).sum) left w (.returned (.int .i64 r)) wr) := ⟨r, rfl, hr1, by omega, fun h => absurd h hr0, fun h => by have := hr4 h; omega, hbw⟩
        clear bk hr3 hr4 hle
        go_wp2_with fail
        go_ret
        exact HR.out
    · have he : k = ks.length := by omega
      have HR : Hid (Left (1 + (ks.map Tr.size).sum) left w (.returned (.int .i64 r)) wr) := by
        rw [he, List.take_length] at hr3 hr4
        exact ⟨r, rfl, hr1, by omega, fun h => by have := hr3 h; omega, fun h => by have := hr4 h; omega, hbw⟩
      clear he bk hr3 hr4
      go_wp2_with fail
      go_ret
      exact HR.out
end Go.Proofs.YtlikmgkjilmjpaaGreat

/-
  The model's IsData.
-/
namespace Go.Proofs.YtlikmgkjilmjpaaGreat
open Go.RowKit
set_option maxHeartbeats 800000 in
theorem specData_any (t : Ty) (w : World) (cs : List Value) (h : RTy w t cs) (hw : wt t ≤ 1048576) : Calls Tryz.prog 70 #[.agg cs.toArray] w (Truth (dataB t) w) := by
  obtain ⟨c0, c1, c2, W1, H, rfl, hH, hW1, hbox, hb0⟩ := boxed h
  have HV := Lib.hid (specValid_any t W1 _ (h.keep hb0) hw)
  have HH := Lib.hid (fun W (hB : Below w.heap.size w W) => l3Has_any 5 t W _ (h.keep hB))
  have HW1 := Lib.hid hW1
  have B0 := Lib.hid hbox
  have HB0 := Lib.hid hb0
  have x0 := hbox.c0
  have x1 := hbox.c1
  have x2 := hbox.c2
  clear h hw hW1 hbox hb0
  go_enter Tryz.func70, Tryz.ntmps70
  go_wp2_with fail
  rw [HW1.out]
  go_wp2_with fail
  refine HV.out.mono ?_
  rintro e w1 ⟨rfl, hb1⟩
  have HB1 := Lib.hid (HB0.out.trans (hb1.mono HB0.out.size))
  have b1 := B0.out.under hb1 B0.out.lt
  clear hb1 x0 x1 x2
  have x0 := b1.c0
  have x1 := b1.c1
  have x2 := b1.c2
  clear b1
  cases hv : validB t
  · have HR := Lib.hid (truth_iff (a := dataB t) (b := false) (by unfold dataB; rw [hv]; rfl) HB1.out)
    clear hv
    go_wp2_with fail
    go_ret
    exact HR.out
  · have HE : Hid (dataB t = !(Tr.has 5 t)) := Lib.hid (by unfold dataB; rw [hv]; rfl)
    have HC := Lib.hid (HH.out w1 HB1.out)
    clear hv
    go_wp2_with fail
    refine HC.out.mono ?_
    rintro e w2 ⟨rfl, hb2⟩
    have HR := Lib.hid (truth_iff HE.out (HB1.out.trans (hb2.mono HB1.out.size)))
    clear hb2
    go_wp2_with fail
    go_ret
    exact HR.out
end Go.Proofs.YtlikmgkjilmjpaaGreat
