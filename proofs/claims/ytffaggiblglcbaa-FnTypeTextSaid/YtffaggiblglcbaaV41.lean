/-
  Merged by program: PrsLaw, JoinI.
-/
import Derived.Test.YtffaggiblglcbaaV37
import Derived.Test.YtffaggiblglcbaaV40
import Derived.Test.YtffaggiblglcbaaV15
import Derived.Test.YtffaggiblglcbaaShelf

/-
  The walk of laws.FnExactParseType.
-/
namespace Go.Proofs.Ytffaggiblglcbaa
open Go.RowKit

theorem cnt_wtP (t : Ty) : t.cnt ≤ wt t + 1 := by
  have : t.cnt ≤ t.sum (fun a => wtA a + 1) := by
    refine Tr.ind (m := fun t => t.cnt ≤ t.sum (fun a => wtA a + 1)) (fun a ks ih => ?_) t
    rw [cnt_node, Tr.sum_node]
    have h := sum_le Tr.cnt (Tr.sum fun a => wtA a + 1) ks ih
    have h2 : cntK ks = (ks.map Tr.cnt).sum := rfl
    have h3 : wtA a = a.labels.length + total a.labels := rfl
    omega
  unfold wt
  omega
theorem prsS_wt (s : ByteArray) (hs : s.size ≤ 1048576) : wt ((prsS s.data.toList).getD zeroT) ≤ 1048576 := by
  cases h : prsS s.data.toList with
  | none => show wt zeroT ≤ _; simp [zeroT, wt, Tr.sum, wtA, total]
  | some t =>
    show wt t ≤ _
    have hq : sq 7 s.data.toList = some (t, []) := by
      unfold prsS at h
      split at h
      · rename_i u hu
        split at h
        · injection h with h; rw [← h]; exact hu
        · cases h
      · cases h
    have := sq_wt _ _ _ _ hq
    rw [size_data] at this
    omega
def Made2P (F : Ty) (f0 : Int) (f1 f2 : Nat) (fb : Bool) (w : World) (e : Ending) (w' : World) : Prop :=
  ∃ (L A : Option Addr) (c d : Nat) (fp : List Nat), e = .returned (.tuple #[.agg #[.int .i64 f0, .slice L f1 c, .slice A f2 d], .bool fb]) ∧ OTy w' F [.int .i64 f0, .slice L f1 c, .slice A f2 d] fp ∧ (∀ b ∈ fp, w.heap.size ≤ b ∧ b < w'.heap.size) ∧ Below w.heap.size w w'

set_option maxRecDepth 100000 in
set_option maxHeartbeats 8000000 in
theorem prs_law (s : ByteArray) (w : World) (hmax : s.size ≤ 9223372036854775807) : Calls Try.prog 5 #[.string s] w (LawYes w) := by
  by_cases hbig : 1048576 < s.size
  · have HY : Hid (LawYes w (.returned (.bool true)) w) := ⟨rfl, Below.refl _ _⟩
    go_enter Try.func5, Try.ntmps5
    go_wp2_with fail
    go_ret
    exact HY.out
  have hxx : ¬ (1048576 : Int) < (s.size : Int) := by omega
  have hs : s.size ≤ 1048576 := by omega
  have HB0 : Hid (Below w.heap.size w w) := Lib.hid (Below.refl _ _)
  have hwF := prsS_wt s hs
  obtain ⟨F, hF⟩ : ∃ F, (prsS s.data.toList).getD zeroT = F := ⟨_, rfl⟩
  obtain ⟨fb, hfb⟩ : ∃ fb, (prsS s.data.toList).isSome = fb := ⟨_, rfl⟩
  rw [hF] at hwF
  have HCF : Hid ((1 : Int) + F.cnt ≤ 1000000000000) := Lib.hid (by have := cnt_wtP F; omega)
  obtain ⟨f0, hf0⟩ : ∃ f0, F.top.kind = f0 := ⟨_, rfl⟩
  obtain ⟨f1, hf1⟩ : ∃ f1, F.top.labels.length = f1 := ⟨_, rfl⟩
  obtain ⟨f2, hf2⟩ : ∃ f2, F.kids.length = f2 := ⟨_, rfl⟩
  have SPF : Hid (∀ (W : World), Calls Try.prog 14 #[.string s] W (Made2P F f0 f1 f2 fb W)) := Lib.hid (fun W => by
    refine (specParse_any s W hs).mono ?_
    rintro e w' hm
    unfold PrsP at hm
    rw [hF, hfb, hf0, hf1, hf2] at hm
    exact hm)
  have IMF : Hid (∀ (W : World), Calls Try.prog 9 #[.string s] W (Made2P F f0 f1 f2 fb W)) := Lib.hid (fun W => by
    refine (implParse_spec s W hs).mono ?_
    rintro e w' hm
    unfold PrsP at hm
    rw [hF, hfb, hf0, hf1, hf2] at hm
    exact hm)
  clear hF hfb hf0 hf1 hf2 hwF hbig hs
  go_enter Try.func5, Try.ntmps5
  go_wp2_with fail
  refine (SPF.out w).mono ?_
  rintro e a1 ⟨LW, AW, lW, dW, fpW, rfl, ho, hf, hb⟩
  obtain ⟨a2, ha2⟩ : ∃ a2, a1.alloc (.cells #[.int .i64 f0, .slice LW f1 lW, .slice AW f2 dW] 27) = a2 := ⟨_, rfl⟩
  obtain ⟨P, hP⟩ : ∃ P, a1.heap.size = P := ⟨_, rfl⟩
  have hza2 : a2.heap.size = P + 1 := by rw [← ha2, ← hP]; simp
  have hal : Below a1.heap.size a1 a2 := by rw [← ha2]; exact (Below.refl _ _).alloc (Nat.le_refl _) _
  have hbx : Box3 a2 P 27 (.int .i64 f0) (.slice LW f1 lW) (.slice AW f2 dW) := by rw [← ha2, ← hP]; exact Box3.new a1 _ _ _ _
  have hb' := hb.trans (hal.mono hb.size)
  have HB1 := Lib.hid (HB0.out.trans (hb'.mono HB0.out.size))
  clear HB0
  have BP1 := Lib.hid hbx
  have TW1 := Lib.hid (ho.under hal)
  have NW : Hid (∀ b ∈ fpW, w.heap.size ≤ b ∧ b < P) := Lib.hid (fun b hm => by have := hf b hm; omega)
  have NUM3 : Hid (w.heap.size ≤ P ∧ P < a2.heap.size) := Lib.hid (by have := hb.size; omega)
  have HWn := Lib.hid ha2
  clear ho hf hb hb' hal hbx hza2 ha2
  go_wp2_with fail
  rw [HWn.out]
  refine (IMF.out a2).mono ?_
  rintro e a3 ⟨LG, AG, lG, dG, fpG, rfl, ho, hf, hb⟩
  clear HWn
  obtain ⟨a4, ha4⟩ : ∃ a4, a3.alloc (.cells #[.int .i64 f0, .slice LG f1 lG, .slice AG f2 dG] 27) = a4 := ⟨_, rfl⟩
  obtain ⟨G, hG⟩ : ∃ G, a3.heap.size = G := ⟨_, rfl⟩
  have hza4 : a4.heap.size = G + 1 := by rw [← ha4, ← hG]; simp
  have hal : Below a3.heap.size a3 a4 := by rw [← ha4]; exact (Below.refl _ _).alloc (Nat.le_refl _) _
  have hbx : Box3 a4 G 27 (.int .i64 f0) (.slice LG f1 lG) (.slice AG f2 dG) := by rw [← ha4, ← hG]; exact Box3.new a3 _ _ _ _
  have hb' := hb.trans (hal.mono hb.size)
  have HB2 := Lib.hid (HB1.out.trans (hb'.mono HB1.out.size))
  have BP2 := Lib.hid (BP1.out.under hb' BP1.out.lt)
  have TW2 := Lib.hid (TW1.out.under hb')
  clear HB1 BP1 TW1
  have BG2 := Lib.hid hbx
  have TZ2 := Lib.hid (ho.under hal)
  have NZ : Hid (∀ b ∈ fpG, P < b ∧ b < G) := Lib.hid (fun b hm => by have := hf b hm; have := NUM3.out; omega)
  have NUM : Hid (w.heap.size ≤ P ∧ P < G ∧ G < a4.heap.size) := Lib.hid (by have := NUM3.out; have := hb.size; omega)
  have HWn := Lib.hid ha4
  clear ho hf hb hb' hal hbx hza4 ha4 NUM3
  have rr := BG2.out
  rw [← HWn.out] at rr
  have rG0 := rr.c0
  have rG1 := rr.c1
  have rG2 := rr.c2
  clear rr
  have rr := BP2.out
  rw [← HWn.out] at rr
  have rP0 := rr.c0
  have rP1 := rr.c1
  have rP2 := rr.c2
  clear rr
  have HC := Lib.hid (eqType_same F a4 _ _ TZ2.out.reads TW2.out.reads)
  go_wp2_with fail
  rw [HWn.out]
  refine HC.out.mono ?_
  rintro e a5 ⟨rfl, hb⟩
  clear rG0 rG1 rG2 rP0 rP1 rP2
  have HB3 := Lib.hid (HB2.out.trans (hb.mono HB2.out.size))
  have BP3 := Lib.hid (BP2.out.under hb BP2.out.lt)
  have BG3 := Lib.hid (BG2.out.under hb BG2.out.lt)
  have TW3 := Lib.hid (TW2.out.under hb)
  have TZ3 := Lib.hid (TZ2.out.under hb)
  clear HB2 BP2 BG2 TW2 TZ2
  clear HC hb HWn
  have rG0 := BG3.out.c0
  have rG1 := BG3.out.c1
  have rG2 := BG3.out.c2
  go_wp2_with fail
  refine (markType_any F a5 _ fpG 1 TZ3.out (by decide) HCF.out).mono ?_
  rintro e a6 ⟨Fm, k2, rfl, k2p, k2b, hot, hheld, ho⟩
  clear rG0 rG1 rG2
  have HB4 := Lib.hid (HB3.out.trans (ho.below HB3.out.size (fun x hx => by have := NUM.out; have := NZ.out x hx; omega)))
  have BP4 := Lib.hid (box_only BP3.out ho (fun hm => by have := NUM.out; have := NZ.out P hm; omega))
  have BG4 := Lib.hid (box_only BG3.out ho (fun hm => by have := NUM.out; have := NZ.out G hm; omega))
  have TW4 := Lib.hid (TW3.out.only ho (fun b hb hm => by have := NUM.out; have := NW.out b hb; have := NZ.out b hm; omega))
  have TZ4 := Lib.hid hot
  clear HB3 BP3 BG3 TW3 TZ3
  have HLD := Lib.hid hheld
  clear ho hot hheld
  have k2n : ¬ k2 < 0 := by omega
  have rG0 := BG4.out.c0
  have rG1 := BG4.out.c1
  have rG2 := BG4.out.c2
  have HC := Lib.hid (heldType_any Fm a6 _ 1 k2 TZ4.out.reads HLD.out (by decide) k2b)
  go_wp2_with fail
  refine HC.out.mono ?_
  rintro e a7 ⟨rfl, hb⟩
  clear rG0 rG1 rG2
  have HB5 := Lib.hid (HB4.out.trans (hb.mono HB4.out.size))
  have BP5 := Lib.hid (BP4.out.under hb BP4.out.lt)
  have BG5 := Lib.hid (BG4.out.under hb BG4.out.lt)
  have TW5 := Lib.hid (TW4.out.under hb)
  have TZ5 := Lib.hid (TZ4.out.under hb)
  clear HB4 BP4 BG4 TW4 TZ4
  clear HC hb
  go_wp2_with fail
  refine (IMF.out a7).mono ?_
  rintro e a8 ⟨LQ, AQ, lQ, dQ, fpQ, rfl, ho, hf, hb⟩
  obtain ⟨a9, ha9⟩ : ∃ a9, a8.alloc (.cells #[.int .i64 f0, .slice LQ f1 lQ, .slice AQ f2 dQ] 27) = a9 := ⟨_, rfl⟩
  obtain ⟨Q, hQ⟩ : ∃ Q, a8.heap.size = Q := ⟨_, rfl⟩
  have hza9 : a9.heap.size = Q + 1 := by rw [← ha9, ← hQ]; simp
  have hal : Below a8.heap.size a8 a9 := by rw [← ha9]; exact (Below.refl _ _).alloc (Nat.le_refl _) _
  have hbx : Box3 a9 Q 27 (.int .i64 f0) (.slice LQ f1 lQ) (.slice AQ f2 dQ) := by rw [← ha9, ← hQ]; exact Box3.new a8 _ _ _ _
  have hb' := hb.trans (hal.mono hb.size)
  have HB6 := Lib.hid (HB5.out.trans (hb'.mono HB5.out.size))
  have BP6 := Lib.hid (BP5.out.under hb' BP5.out.lt)
  have BG6 := Lib.hid (BG5.out.under hb' BG5.out.lt)
  have TW6 := Lib.hid (TW5.out.under hb')
  have TZ6 := Lib.hid (TZ5.out.under hb')
  clear HB5 BP5 BG5 TW5 TZ5
  have BQ6 := Lib.hid hbx
  have TQ := Lib.hid (ho.under hal)
  have HWn := Lib.hid ha9
  clear ho hf hb hb' hal hbx hza9 ha9
  have HC := Lib.hid (eqType_same F a9 _ _ TQ.out.reads TW6.out.reads)
  have rr := BQ6.out
  rw [← HWn.out] at rr
  have rG0 := rr.c0
  have rG1 := rr.c1
  have rG2 := rr.c2
  clear rr
  have rr := BP6.out
  rw [← HWn.out] at rr
  have rP0 := rr.c0
  have rP1 := rr.c1
  have rP2 := rr.c2
  clear rr
  go_wp2_with fail
  rw [HWn.out]
  refine HC.out.mono ?_
  rintro e a10 ⟨rfl, hb⟩
  clear rG0 rG1 rG2 rP0 rP1 rP2
  have HB7 := Lib.hid (HB6.out.trans (hb.mono HB6.out.size))
  have BP7 := Lib.hid (BP6.out.under hb BP6.out.lt)
  have BG7 := Lib.hid (BG6.out.under hb BG6.out.lt)
  have BQ7 := Lib.hid (BQ6.out.under hb BQ6.out.lt)
  have TW7 := Lib.hid (TW6.out.under hb)
  have TZ7 := Lib.hid (TZ6.out.under hb)
  clear HB6 BP6 BG6 BQ6 TW6 TZ6
  clear HC hb HWn
  have rG0 := BG7.out.c0
  have rG1 := BG7.out.c1
  have rG2 := BG7.out.c2
  have HC := Lib.hid (heldType_any Fm a10 _ 1 k2 TZ7.out.reads HLD.out (by decide) k2b)
  go_wp2_with fail
  refine HC.out.mono ?_
  rintro e a11 ⟨rfl, hb⟩
  clear rG0 rG1 rG2
  have HY : Hid (LawYes w (.returned (.bool true)) a11) := ⟨rfl, HB7.out.trans (hb.mono HB7.out.size)⟩
  clear HC hb
  go_wp2_with fail
  go_ret
  exact HY.out
end Go.Proofs.Ytffaggiblglcbaa

/-
  The program's Join, by the library's contract.
-/
namespace Go.Proofs.Ytffaggiblglcbaa
open Go.RowKit

set_option maxHeartbeats 400000 in
theorem implJoin_any (g c : Nat) (xs : List ByteArray) (sp : ByteArray) (w : World) (h : Sl w (some ⟨g, 0, none⟩) (xs.map Value.string)) (hc : xs.length ≤ c) (hn : xs.length ≤ 1048576)
    (hsz : xs.length * sp.size + total xs ≤ 35184372088832) :
    Calls Try.prog 53 #[.slice (some ⟨g, 0, none⟩) xs.length c, .string sp] w (Text (jn xs sp) w) := by
  have hl := jn_len xs sp
  rcases Nat.eq_zero_or_pos xs.length with h0 | h0
  · obtain rfl : xs = [] := List.eq_nil_of_length_eq_zero h0
    go_enter Try.func53, Try.ntmps53
    go_wp2_with (go_at_call 77; refine (Try.strings_Join_none _ _ _ _).mono ?_; rintro e w' ⟨rfl, rfl⟩)
    go_ret
    exact ⟨rfl, Below.refl _ _⟩
  · have hcells : ∀ (j : Nat) x, xs[j]? = some x → w.cell? ⟨g, 0 + j, none⟩ = some (.string x) := by
      intro j x hj
      obtain ⟨ad, e, hcc⟩ := h j (.string x) (by simp [hj])
      injection e with e
      subst e
      rwa [Addr.add_lit] at hcc
    have hbk : g < w.heap.size := World.block_lt_of_cell? w _ (hcells 0 xs[0] (List.getElem?_eq_getElem h0))
    have HC := Lib.hid hcells
    clear hcells h
    go_enter Try.func53, Try.ntmps53
    go_wp2_with (go_at_call 77; refine (Try.strings_Join g 0 c xs sp _ HC.out hbk (by omega) hc (by show (jn xs sp).length ≤ _; omega)).mono ?_; rintro e w' ⟨rfl, hb⟩)
    go_ret
    exact ⟨rfl, hb⟩

end Go.Proofs.Ytffaggiblglcbaa
