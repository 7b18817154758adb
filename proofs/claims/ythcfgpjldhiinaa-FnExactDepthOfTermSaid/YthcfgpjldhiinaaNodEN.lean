/-
  The program's nodesOfTerm, SizeOfTerm, DepthOfTerm.
-/
import Derived.Test.YthcfgpjldhiinaaNodEI
import Derived.Test.YthcfgpjldhiinaaCntEI
namespace Go.Proofs.Ythcfgpjldhiinaa
open Go.RowKit Go.Shelf

theorem bool_of_iff {a b : Bool} (h : a = true ↔ b = true) : a = b := by cases a <;> cases b <;> simp_all
def NodesE (c0 c1 c2 c3 c4 c5 c6 c7 : Value) (w : World) (e : Ending) (w' : World) : Prop :=
  e = .returned (.func (.func 57) #[] #[.pointer (some ⟨w.heap.size, 0, none⟩), .pointer (some ⟨w.heap.size + 1, 0, none⟩)]) ∧ w' = (w.alloc (.cells #[c0, c1, c2, c3, c4, c5, c6, c7] 38)).alloc (.cells #[.func (.func 40) #[] #[]] 60)
set_option maxHeartbeats 800000 in
theorem nodesE_any (c0 c1 c2 c3 c4 c5 c6 c7 : Value) (w : World) : Calls Try.prog 49 #[.agg #[c0, c1, c2, c3, c4, c5, c6, c7], .func (.func 40) #[] #[]] w (NodesE c0 c1 c2 c3 c4 c5 c6 c7 w) := by
  have hR : Hid (NodesE c0 c1 c2 c3 c4 c5 c6 c7 w (.returned (.func (.func 57) #[] #[.pointer (some ⟨w.heap.size, 0, none⟩), .pointer (some ⟨w.heap.size + 1, 0, none⟩)])) ((w.alloc (.cells #[c0, c1, c2, c3, c4, c5, c6, c7] 38)).alloc (.cells #[.func (.func 40) #[] #[]] 60))) := ⟨rfl, rfl⟩
  go_enter Try.func49, Try.ntmps49
  go_wp2_with fail
  go_ret
  exact hR.out
/-- the iterator over a term's nodes, as a value in a world that has it -/
def IterE (w0 : World) (t : Te) (w : World) (e : Ending) (w' : World) : Prop :=
  ∃ Bx, e = .returned (.func (.func 57) #[] #[.pointer (some ⟨Bx, 0, none⟩), .pointer (some ⟨Bx + 1, 0, none⟩)]) ∧ Below w.heap.size w w' ∧ w.heap.size ≤ Bx ∧ Bx + 1 < w'.heap.size ∧
    ∀ (n : Nat) (Keep : Nat → Prop) (W : World), 2 ≤ n → (∀ b, b < w0.heap.size → Keep b) → Keep Bx → Keep (Bx + 1) → (∀ b, Keep b → b < W.heap.size) → Held Keep w' W →
      GivesN Fence.wide n Try.prog 57 #[.pointer (some ⟨Bx, 0, none⟩), .pointer (some ⟨Bx + 1, 0, none⟩)] (t.pre 1).length (NRd (RTe w0) t) (fun _ => True) Keep W
set_option maxHeartbeats 800000 in
theorem nodesOfE_any (w0 : World) (t : Te) (w : World) (cs : List Value) (h : RTe w0 t cs) (hw0 : Below w0.heap.size w0 w) (hs : t.size ≤ 1048577) : Calls Try.prog 32 #[.agg cs.toArray] w (IterE w0 t w) := by
  obtain ⟨c0, c1, c2, c3, c4, c5, c6, c7, rfl⟩ := h.eight
  obtain ⟨W1, hW1⟩ : ∃ W1, w.alloc (.cells #[c0, c1, c2, c3, c4, c5, c6, c7] 38) = W1 := ⟨_, rfl⟩
  obtain ⟨H, hH⟩ : ∃ H, w.heap.size = H := ⟨_, rfl⟩
  have hb1 : Below w.heap.size w W1 := by rw [← hW1]; exact (Below.refl _ _).alloc (Nat.le_refl _) _
  have hz1 : W1.heap.size = H + 1 := by rw [← hW1, ← hH]; simp
  have hbx : Box8 W1 H 38 c0 c1 c2 c3 c4 c5 c6 c7 := by rw [← hW1, ← hH]; exact Box8.new w _ _ _ _ _ _ _ _ _
  have HN := Lib.hid (nodesE_any c0 c1 c2 c3 c4 c5 c6 c7 W1)
  have HR : Hid (∀ w', w' = (W1.alloc (.cells #[c0, c1, c2, c3, c4, c5, c6, c7] 38)).alloc (.cells #[.func (.func 40) #[] #[]] 60) →
      IterE w0 t w (.returned (.func (.func 57) #[] #[.pointer (some ⟨W1.heap.size, 0, none⟩), .pointer (some ⟨W1.heap.size + 1, 0, none⟩)])) w') := Lib.hid (by
    rintro w' rfl
    have hb2 : Below W1.heap.size W1 (W1.alloc (.cells #[c0, c1, c2, c3, c4, c5, c6, c7] 38)) := (Below.refl _ _).alloc (Nat.le_refl _) _
    have hb3 : Below W1.heap.size W1 ((W1.alloc (.cells #[c0, c1, c2, c3, c4, c5, c6, c7] 38)).alloc (.cells #[.func (.func 40) #[] #[]] 60)) := hb2.alloc hb2.size _
    refine ⟨W1.heap.size, rfl, hb1.trans (hb3.mono hb1.size), by omega, by simp, fun n Keep W hn hk0 hkx hky hkW hh => ?_⟩
    have y1 := (Box8.new W1 38 c0 c1 c2 c3 c4 c5 c6 c7).alloc (.cells #[.func (.func 40) #[] #[]] 60)
    have y2 := Boxed.new (W1.alloc (.cells #[c0, c1, c2, c3, c4, c5, c6, c7] 38)) 60 (.func (.func 40) #[] #[])
    rw [World.size_alloc] at y2
    have hbw := (hw0.trans ((hb1.trans (hb3.mono hb1.size)).mono hw0.size)).trans (hh.below (Nat.le_trans hw0.size (hb1.trans (hb3.mono hb1.size)).size) hk0)
    exact nodes1E_gives w0 t c0 c1 c2 c3 c4 c5 c6 c7 h hs n W1.heap.size hn Keep hk0 hky W hkW hbw ((hh.block _ (by simp only [World.size_alloc]; omega) hkx).trans y1) ((hh.block _ (by simp only [World.size_alloc]; omega) hky).trans y2))
  have HW1 := Lib.hid hW1
  have HZ1 := Lib.hid hz1
  have x0 := hbx.c0
  have x1 := hbx.c1
  have x2 := hbx.c2
  have x3 := hbx.c3
  have x4 := hbx.c4
  have x5 := hbx.c5
  have x6 := hbx.c6
  have x7 := hbx.c7
  clear h hs hW1 hb1 hz1 hbx hw0
  go_enter Try.func32, Try.ntmps32
  go_wp2_with fail
  rw [HW1.out]
  go_wp2_with fail
  refine HN.out.mono ?_
  rintro e w2 ⟨rfl, hw2⟩
  have HF := Lib.hid (HR.out w2 hw2)
  clear hw2
  go_wp2_with fail
  go_ret
  exact HF.out

/-- the depth of the k-th node -/
def depAt {α : Type} (t : Tr α) (k : Nat) : Nat := (((t.pre 1)[k]?).map Prod.fst).getD 0
theorem NRd.dep {α : Type} {R : Tr α → List Value → Prop} {t : Tr α} {k : Nat} {v : Array Value} (h : NRd R t k v) : DRd (depAt t) k v := by
  obtain ⟨d, x, cs, hat, rfl, _⟩ := h
  refine ⟨.agg cs.toArray, ?_⟩
  have e : depAt t k = d := by unfold depAt; rw [hat]; rfl
  rw [e]
theorem topTo_dep {α : Type} (t : Tr α) (k : Nat) (hk : k < (t.pre 1).length) : topTo t (k + 1) = max (topTo t k) (depAt t k) := by
  have e := List.getElem?_eq_getElem hk
  rw [topTo_succ t e]
  unfold depAt
  rw [e]
  rfl
theorem IterE.gives {w0 : World} {t : Te} {w w' : World} {e : Ending} (h : IterE w0 t w e w') (hw0 : w0.heap.size ≤ w.heap.size) : ∃ lb, e = .returned (.func (.func 57) #[] lb) ∧ Below w.heap.size w w' ∧ ∀ W, Below w'.heap.size w' W →
    GivesN Fence.wide (9 - 1) Try.prog 57 lb (t.pre 1).length (NRd (RTe w0) t) (fun _ => True) (fun b => b < w'.heap.size) W := by
  obtain ⟨Bx, rfl, hb, h1, h2, h3⟩ := h
  exact ⟨_, rfl, hb, fun W hW => h3 _ _ W (by decide) (fun b hb' => by have := hb.size; omega) (by omega) (by omega) (fun b hb' => by have := hW.size; omega) (Held.of_below hW fun i hi _ => hi)⟩

set_option maxHeartbeats 800000 in
theorem implSizeE_any (t : Te) (w : World) (cs : List Value) (h : RTe w t cs) (hs : t.size ≤ 1048577) : Calls Try.prog 13 #[.agg cs.toArray] w (Counts t.size w) := by
  obtain ⟨c0, c1, c2, c3, c4, c5, c6, c7, rfl⟩ := h.eight
  obtain ⟨W1, hW1⟩ : ∃ W1, w.alloc (.cells #[c0, c1, c2, c3, c4, c5, c6, c7] 38) = W1 := ⟨_, rfl⟩
  obtain ⟨H, hH⟩ : ∃ H, w.heap.size = H := ⟨_, rfl⟩
  have hb1 : Below w.heap.size w W1 := by rw [← hW1]; exact (Below.refl _ _).alloc (Nat.le_refl _) _
  have hbx : Box8 W1 H 38 c0 c1 c2 c3 c4 c5 c6 c7 := by rw [← hW1, ← hH]; exact Box8.new w _ _ _ _ _ _ _ _ _
  have HI := Lib.hid (nodesOfE_any W1 t W1 _ (h.keep hb1) (Below.refl _ _) hs)
  have HN : Hid ((t.pre 1).length = t.size) := Lib.hid (pre_len t 1)
  have HS := Lib.hid hs
  have HW1 := Lib.hid hW1
  have HB1 := Lib.hid hb1
  have x0 := hbx.c0
  have x1 := hbx.c1
  have x2 := hbx.c2
  have x3 := hbx.c3
  have x4 := hbx.c4
  have x5 := hbx.c5
  have x6 := hbx.c6
  have x7 := hbx.c7
  clear h hs hW1 hb1 hbx
  go_enter Try.func13, Try.ntmps13
  go_wp2_with fail
  rw [HW1.out]
  go_wp2_with fail
  refine HI.out.mono ?_
  rintro e w2 hi
  obtain ⟨lb, rfl, hb2, hg⟩ := hi.gives (Nat.le_refl _)
  have HC := Lib.hid (countE_any _ lb (enters_of Try.func57 (by kernel_rfl) rfl) w2 (t.pre 1).length (depAt t) (by rw [HN.out]; exact HS.out) (fun W hW => (hg W hW).weaken fun _ _ h => h.dep))
  rw [HN.out] at HC
  have HB2 := Lib.hid (HB1.out.trans (hb2.mono HB1.out.size))
  clear hi hb2 hg x0 x1 x2 x3 x4 x5 x6 x7
  go_wp2_with fail
  refine HC.out.mono ?_
  rintro e w3 ⟨rfl, hb3⟩
  have HF : Hid (Counts t.size w (.returned (.int .i64 (t.size : Int))) w3) := Lib.hid ⟨rfl, HB2.out.trans (hb3.mono HB2.out.size)⟩
  clear hb3
  go_wp2_with fail
  go_ret
  exact HF.out
set_option maxHeartbeats 800000 in
theorem implDepthE_any (t : Te) (w : World) (cs : List Value) (h : RTe w t cs) (hs : t.size ≤ 1048577) : Calls Try.prog 16 #[.agg cs.toArray] w (Counts t.deep w) := by
  obtain ⟨c0, c1, c2, c3, c4, c5, c6, c7, rfl⟩ := h.eight
  obtain ⟨W1, hW1⟩ : ∃ W1, w.alloc (.cells #[c0, c1, c2, c3, c4, c5, c6, c7] 38) = W1 := ⟨_, rfl⟩
  obtain ⟨H, hH⟩ : ∃ H, w.heap.size = H := ⟨_, rfl⟩
  have hb1 : Below w.heap.size w W1 := by rw [← hW1]; exact (Below.refl _ _).alloc (Nat.le_refl _) _
  have hbx : Box8 W1 H 38 c0 c1 c2 c3 c4 c5 c6 c7 := by rw [← hW1, ← hH]; exact Box8.new w _ _ _ _ _ _ _ _ _
  have HI := Lib.hid (nodesOfE_any W1 t W1 _ (h.keep hb1) (Below.refl _ _) hs)
  have HN : Hid (topTo t (t.pre 1).length = t.deep) := Lib.hid (topTo_all t)
  have HW1 := Lib.hid hW1
  have HB1 := Lib.hid hb1
  have x0 := hbx.c0
  have x1 := hbx.c1
  have x2 := hbx.c2
  have x3 := hbx.c3
  have x4 := hbx.c4
  have x5 := hbx.c5
  have x6 := hbx.c6
  have x7 := hbx.c7
  clear h hs hW1 hb1 hbx
  go_enter Try.func16, Try.ntmps16
  go_wp2_with fail
  rw [HW1.out]
  go_wp2_with fail
  refine HI.out.mono ?_
  rintro e w2 hi
  obtain ⟨lb, rfl, hb2, hg⟩ := hi.gives (Nat.le_refl _)
  have HC := Lib.hid (greatE_any _ lb (enters_of Try.func57 (by kernel_rfl) rfl) w2 (t.pre 1).length (depAt t) (topTo t) (topTo_zero t) (fun k hk => topTo_dep t k hk) (fun W hW => (hg W hW).weaken fun _ _ h => h.dep))
  rw [HN.out] at HC
  have HB2 := Lib.hid (HB1.out.trans (hb2.mono HB1.out.size))
  clear hi hb2 hg x0 x1 x2 x3 x4 x5 x6 x7
  go_wp2_with fail
  refine HC.out.mono ?_
  rintro e w3 ⟨rfl, hb3⟩
  have HF : Hid (Counts t.deep w (.returned (.int .i64 (t.deep : Int))) w3) := Lib.hid ⟨rfl, HB2.out.trans (hb3.mono HB2.out.size)⟩
  clear hb3
  go_wp2_with fail
  go_ret
  exact HF.out
end Go.Proofs.Ythcfgpjldhiinaa
