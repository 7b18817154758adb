/-
  Merged by program: EmpS.
-/
import Derived.Test.YtlcpekpgkllbkaaE29
import Derived.Test.YtlcpekpgkllbkaaE22
import Derived.Test.YtlcpekpgkllbkaaE35
import Derived.Test.YtlcpekpgkllbkaaE36
import Derived.Deep.RegionLaw

/-
  The model's EmptyDB.
-/
namespace Go.Proofs.Ytlcpekpgkllbkaa
open Go.RowKit

def emptyD (xs : Sc) : Db := xs.map fun d => (d.1, [])
theorem emptyD_len (xs : Sc) : (emptyD xs).length = xs.length := by simp [emptyD]
theorem emptyD_at (xs : Sc) (k : Nat) (h : k < xs.length) : (emptyD xs)[k]'(by rw [emptyD_len]; exact h) = (xs[k].1, []) := by simp [emptyD]
theorem vas_zero (e : TypeId) (w : World) : (kVa.list e).O w ([] : List Va) [.slice none 0 0] [] :=
  ⟨_, rfl, none, 0, [], fun _ => [], rfl, by simp, ⟨by simp, .inl ⟨rfl, rfl⟩⟩, fun j x hj => by simp at hj, rfl, by simp⟩
theorem news2 (w : World) (a b : Value) (t : TypeId) : ∀ (j : Nat) (u : Value), [a, b][j]? = some u → (w.alloc (.cells #[a, b] t)).cell? ((⟨w.heap.size, 0, none⟩ : Addr).add j) = some u := by
  intro j u hj
  rw [Addr.add_lit, Nat.zero_add, cell_of_row _ _ j #[a, b] t (0, 0) (heap_alloc_new w _)]
  match j, hj with
  | 0, hj => simpa using hj
  | 1, hj => simpa using hj
theorem one2s (s : ByteArray) (A : Option Addr) (n d : Nat) : ∀ u ∈ [Value.string s, .slice A n d], u.oneCell' = true := by
  intro u hu
  simp at hu
  rcases hu with rfl | rfl <;> rfl

set_option maxRecDepth 100000 in
set_option maxHeartbeats 4000000 in
theorem specEmpty_any (t : Sc) (w : World) (cs : List Value) (h : RSc w t cs) (hw : wSc t ≤ 1048576) : Calls Try.prog 29 #[.agg cs.toArray] w (MadeDb (emptyD t) w) := by
  obtain ⟨i1, hi1, hy0, hy1, hy2⟩ := info_parts infoDd
  obtain ⟨A, c, rfl, hl, _, hp⟩ := h.open
  have hlen : t.length ≤ 1048576 := Nat.le_trans (len_wSc t) hw
  obtain ⟨W0, hW0⟩ : ∃ W0, (w.alloc (.cells #[.slice A t.length c] 29)).alloc (.cells #[.slice none 0 0] 51) = W0 := ⟨_, rfl⟩
  obtain ⟨W1, hW1⟩ : ∃ W1, W0.alloc (.cells #[.slice none 0 0] 51) = W1 := ⟨_, rfl⟩
  obtain ⟨H, hH⟩ : ∃ H, w.heap.size = H := ⟨_, rfl⟩
  have b0 : Box1 W0 H 29 (.slice A t.length c) := by rw [← hW0, ← hH]; exact (Box1.new w _ _).alloc _
  have b1 : Box1 W0 (H + 1) 51 (.slice none 0 0) := by
    rw [← hW0, ← hH]
    have := Box1.new (w.alloc (.cells #[.slice A t.length c] 29)) 51 (.slice none 0 0)
    simpa using this
  have hs0 : W0.heap.size = H + 1 + 1 := by rw [← hW0, ← hH]; simp
  have b2 : Box1 W1 (H + 1 + 1) 51 (.slice none 0 0) := by rw [← hW1, ← hs0]; exact Box1.new W0 _ _
  have hb0 : Below w.heap.size w W0 := by rw [← hW0]; exact ((Below.refl _ _).alloc (Nat.le_refl _) _).alloc (by simp) _
  have hb01 : Below W0.heap.size W0 W1 := by rw [← hW1]; exact (Below.refl _ _).alloc (Nat.le_refl _) _
  have HA := Lib.hid (fun (W : World) (hB : Below W0.heap.size W0 W) => b0.under hB b0.lt)
  have HR1 := Lib.hid (fun (W : World) (hB : Below W0.heap.size W0 W) => b1.under hB b1.lt)
  have HB0 := Lib.hid hb0
  have HS0 := Lib.hid hs0
  have HH := Lib.hid hH
  have HWT := Lib.hid hw
  have HP := Lib.hid (hp.keep hb0)
  have HW0 := Lib.hid hW0
  have HW1 := Lib.hid hW1
  have x0 := (b0.under hb01 b0.lt).c0
  have HI0 : Hid (ApFInv kDd 86 51 (emptyD t) W0 (H + 1 + 1) (.int .i64 0) W1) := Lib.hid ⟨0, none, 0, [], fun _ => [], [], Nat.zero_le _, rfl, apF_zero kDd _ _ _ b2 (by omega) hb01⟩
  clear h hp hW0 hW1 b0 b1 b2 hb0 hb01 hs0 hw
  go_enter Try.func29, Try.ntmps29
  go_wp2_with fail
  rw [HW0.out, HW1.out]
  go_loopw [4] (fun i wr => ApFInv kDd 86 51 (emptyD t) W0 (H + 1 + 1) i wr) (fun i _ => t.length - (intOf i).toNat)
  case atStart => exact HI0.out
  case round =>
    obtain ⟨k, A', d', cells, fs, fp, hk, rfl, hap⟩ := hrel
    rw [emptyD_len] at hk
    have hb := hap.2.2.2.2
    clear x0
    have x0 := (HA.out wr hb).c0
    have HAP := Lib.hid hap
    by_cases hlt : k < t.length
    · obtain ⟨ad, p, c0, c1, c2, c3, rfl, hpe, hr, q0, q1, q2, q3⟩ := rl_at4 kDc_n HP.out hb hlt
      obtain ⟨tk, TL, TA, tl, tc, ta, td, hcs, hs, hy⟩ := kDc_open hr
      simp only [List.cons.injEq, and_true] at hcs
      obtain ⟨rfl, rfl, rfl, rfl⟩ := hcs
      have g0 := hap.1.c0
      have hlt2 : k < (emptyD t).length := by rw [emptyD_len]; exact hlt
      have HROW : Hid ((wr.drew.alloc (.cells #[.string t[k].1, .slice none 0 0] 86)).ownsRow 0 86 2 (.slice A' k d') k cells) := Lib.hid (own_keep (hap.drew.row (Nat.le_of_lt hlt2)) (row := none) (grown_none ((Below.refl _ _).alloc (Nat.le_refl _) _)) (fun b _ => by simp))
      have HBOX : Hid (Box1 (wr.drew.alloc (.cells #[.string t[k].1, .slice none 0 0] 86)) (H + 1 + 1) 51 (.slice A' k d')) := Lib.hid (hap.drew.1.alloc _)
      have HNX : Hid (∀ (i : Value) (A4 : Option Addr) (d4 : Nat) (w4 : World), i = .int .i64 ((k + 1 : Nat) : Int) → w4.ownsRow 0 86 2 (.slice A4 (k + 1) d4) (k + 1) (cells ++ [.string t[k].1, .slice none 0 0]) →
          (wr.drew.alloc (.cells #[.string t[k].1, .slice none 0 0] 86)).grownBy w4 (Value.slice A' k d').ownBlock → ((Value.slice A4 (k + 1) d4).ownBlock = (Value.slice A' k d').ownBlock ∨ (Value.slice A4 (k + 1) d4).ownBlock = some (wr.drew.alloc (.cells #[.string t[k].1, .slice none 0 0] 86)).heap.size) →
          ApFInv kDd 86 51 (emptyD t) W0 (H + 1 + 1) i (w4.setCell ⟨H + 1 + 1, 0, none⟩ (.slice A4 (k + 1) d4))) := Lib.hid (fun i A4 d4 w4 hii h1 h2 h3 => by
        refine apF_more (a := kDd) (w2 := wr.drew) (fx := []) hlt2 (by rw [emptyD_len]; omega) hii hap.drew (Below.refl _ _) ?_ (fun b hm => by simp at hm) _ h1 h2 h3
        rw [emptyD_at t k hlt]
        exact kDd_omake hs (vas_zero _ _))
      have HNW := Lib.hid (news2 wr.drew (.string t[k].1) (.slice none 0 0) 86)
      have HAPT := Lib.hid hap.drew.apart
      have m0 := World.new_ne wr _ g0
      have m1 := World.new_ne wr _ x0
      have m2 := World.new_ne wr _ q0
      have ga : (wr.alloc (.cells #[.string t[k].1, .slice none 0 0] 86)).cell? ⟨H + 1 + 1, 0, none⟩ = some (.slice A' k d') := HBOX.out.c0
      generalize t[k].1 = nm at *
      clear hr hs hy hk hap hb hlt2
      go_wp2_with fail
      go_region_law (first
        | (refine step_append_at (by rfl) (.tmp 14) (.tmp 22) 49 (by rfl) 0 86 i1 _ 2 40 Try.underlying49 hi1 hy0 hy1 hy2 (by rfl) (by omega) (.slice A' k d') k cells (by rfl) HROW.out ⟨wr.heap.size, 0, none⟩ 1 1 [.string nm, .slice none 0 0] (by rfl) (by rfl) HNW.out (one2s _ _ _ _) (by unfold maxLen; omega) (by omega) (Nat.zero_le _) ?_; intro A4 d4 w4 hown4 hgr4 hor4; have bx4 := HBOX.out.grown hgr4 HAPT.out; have g4 := bx4.c0; have f4 := bx4.free 0; have HNW4 := Lib.hid (fun i hi => HNX.out i A4 d4 w4 hi hown4 hgr4 (by simpa using hor4)); clear hown4 hgr4 hor4 bx4))
      all_goals go_wp2_with fail
      all_goals go_roundw
      all_goals first
        | exact HNW4.out _ (by go_num)
        | (simp [intOf]; omega)
    · have he : k = t.length := by omega
      subst he
      have bg := hap.1
      have g0 := bg.c0
      have br := HR1.out wr hb
      have r0 := br.c0
      have s0 := br.free 0
      have BR := Lib.hid br
      clear hb hk hap bg br
      go_wp2_with fail
      generalize hU : wr.setCell ⟨H + 1, 0, none⟩ (.slice A' t.length d') = U
      have hgU : wr.grownBy U (some (H + 1)) := by rw [← hU]; exact grown_set (World.grownBy.refl _ _) _
      have u1 : Box1 U (H + 1) 51 (.slice A' t.length d') := by
        rw [← hU]
        exact BR.out.set0 _
      have HRR : Hid (MadeDb (emptyD t) w (.returned (.agg #[.slice A' t.length d'])) U) := Lib.hid (by
        have hap := HAP.out
        rw [← emptyD_len t] at hap ⊢
        obtain ⟨fp', h1, h2, h3⟩ := apF_done (w := w) hap HB0.out (by have := HS0.out; omega) (by have := HH.out; omega) hgU
        exact ⟨A', d', fp', rfl, ODb.ol.2 h1, h2, h3⟩)
      have t0 := u1.c0
      clear hU hgU u1 r0 s0 g0
      exact bodyPost_ret (v := .agg #[.slice A' t.length d']) (by simp [results, Try.results29, go_sem, t0]) rfl HRR.out
end Go.Proofs.Ytlcpekpgkllbkaa
