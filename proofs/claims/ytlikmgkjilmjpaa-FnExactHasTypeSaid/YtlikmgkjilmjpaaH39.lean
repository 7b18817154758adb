/-
  Merged by program: NodC, NodDep, NonT.
-/
import Derived.Test.YtlikmgkjilmjpaaH28
import Derived.Test.YtlikmgkjilmjpaaH2
import Derived.Test.YtlikmgkjilmjpaaH3
import Derived.Test.YtlikmgkjilmjpaaH38

/-
  What clients of an iterator over nodes keep. Hangs on no program (but for the type of a counter).
-/
namespace Go.Proofs.Ytlikmgkjilmjpaa
open Go.RowKit

/-- the first of the k-th pair is ds k -/
def DRd (ds : Nat → Nat) (k : Nat) (v : Array Value) : Prop := ∃ u, v = #[.int .i64 (ds k : Int), u]
theorem DRd.size {ds : Nat → Nat} {k : Nat} {v : Array Value} (h : DRd ds k v) : v.size = 2 := by
  obtain ⟨u, rfl⟩ := h
  rfl
theorem GivesN.weaken {N : Fence} {n : Nat} {P : Program} {g : Nat} {lb : Array Value} {M : Nat} {Rd Rd' : Nat → Array Value → Prop} {On Keep : Nat → Prop} {W : World} (h : GivesN N n P g lb M Rd On Keep W) (hR : ∀ k v, Rd k v → Rd' k v) : GivesN N n P g lb M Rd' On Keep W :=
  fun l J Jx hJ hB hY h0 => h l J Jx hJ hB (fun k v F W1 hk hj hr => hY k v F W1 hk hj (hR k v hr)) h0
/-- a variable in block H holds f k; nothing below has changed -/
def NumI (w : World) (H : Nat) (f : Nat → Nat) (N k : Nat) (F : Nat → Prop) (W : World) : Prop := k ≤ N ∧ F = (fun b => b = H) ∧ Boxed W H 3 (.int .i64 (f k : Int)) ∧ Below w.heap.size w W
theorem NumI.keep {w A C : World} {H : Nat} {f : Nat → Nat} {N k : Nat} {F : Nat → Prop} {D : Nat} (h : NumI w H f N k F A) (hh : Held (fun i => i < D ∨ F i) A C) (hD : w.heap.size ≤ D := by omega) : NumI w H f N k F C := by
  obtain ⟨h1, rfl, h3, h4⟩ := h
  exact ⟨h1, rfl, (hh.block H h3.lt (.inr rfl)).trans h3, h4.trans (hh.below h4.size fun i hi => .inl (by omega))⟩
theorem NumI.bnd {w A : World} {H : Nat} {f : Nat → Nat} {N k : Nat} {F : Nat → Prop} (h : NumI w H f N k F A) (hH : w.heap.size = H) : ∀ b, F b → ¬ b < w.heap.size ∧ b < A.heap.size := by
  obtain ⟨_, rfl, h3, _⟩ := h
  rintro b rfl
  exact ⟨by omega, h3.lt⟩
end Go.Proofs.Ytlikmgkjilmjpaa

/-
  The depth of the k-th node. Hangs on no program.
-/
namespace Go.Proofs.Ytlikmgkjilmjpaa
open Go.RowKit

/-- the depth of the k-th node -/
def depAt {α : Type} (t : Tr α) (k : Nat) : Nat := (((t.pre 1)[k]?).map Prod.fst).getD 0
theorem NRd.dep {α : Type} {R : Tr α → List Value → Prop} {t : Tr α} {k : Nat} {v : Array Value} (h : NRd R t k v) : DRd (depAt t) k v := by
  obtain ⟨d, x, cs, hat, rfl, _⟩ := h
  refine ⟨.agg cs.toArray, ?_⟩
  have e : depAt t k = d := by unfold depAt; rw [hat]; rfl
  rw [e]
theorem topTo_dep {α : Type} (t : Tr α) (k : Nat) (hk : k < (t.pre 1).length) : topTo t (k + 1) = max (topTo t k) (depAt t k) := by
  have e := List.getElem?_eq_getElem hk
  rw [topTo_succ t e]
  unfold depAt
  rw [e]
  rfl
theorem topTo_mono {α : Type} (t : Tr α) (k : Nat) : topTo t k ≤ topTo t (t.pre 1).length := by
  rw [topTo_all]
  exact topTo_le t k
end Go.Proofs.Ytlikmgkjilmjpaa

/-
  The program's nodesOfType.
-/
namespace Go.Proofs.Ytlikmgkjilmjpaa
open Go.RowKit Go.Shelf

def NodesT (c0 c1 c2 : Value) (w : World) (e : Ending) (w' : World) : Prop :=
  e = .returned (.func (.func 128) #[] #[.pointer (some ⟨w.heap.size, 0, none⟩), .pointer (some ⟨w.heap.size + 1, 0, none⟩)]) ∧ w' = (w.alloc (.cells #[c0, c1, c2] 41)).alloc (.cells #[.func (.func 120) #[] #[]] 145)
set_option maxHeartbeats 800000 in
theorem nodesT_any (c0 c1 c2 : Value) (w : World) : Calls Try.prog 119 #[.agg #[c0, c1, c2], .func (.func 120) #[] #[]] w (NodesT c0 c1 c2 w) := by
  have hR : Hid (NodesT c0 c1 c2 w (.returned (.func (.func 128) #[] #[.pointer (some ⟨w.heap.size, 0, none⟩), .pointer (some ⟨w.heap.size + 1, 0, none⟩)])) ((w.alloc (.cells #[c0, c1, c2] 41)).alloc (.cells #[.func (.func 120) #[] #[]] 145))) := ⟨rfl, rfl⟩
  go_enter Try.func119, Try.ntmps119
  go_wp2_with fail
  go_ret
  exact hR.out
/-- the iterator over a term's nodes, as a value in a world that has it -/
def IterT (w0 : World) (t : Ty) (w : World) (e : Ending) (w' : World) : Prop :=
  ∃ Bx, e = .returned (.func (.func 128) #[] #[.pointer (some ⟨Bx, 0, none⟩), .pointer (some ⟨Bx + 1, 0, none⟩)]) ∧ Below w.heap.size w w' ∧ w.heap.size ≤ Bx ∧ Bx + 1 < w'.heap.size ∧
    ∀ (n : Nat) (Keep : Nat → Prop) (W : World), 2 ≤ n → (∀ b, b < w0.heap.size → Keep b) → Keep Bx → Keep (Bx + 1) → (∀ b, Keep b → b < W.heap.size) → Held Keep w' W →
      GivesN Fence.wide n Try.prog 128 #[.pointer (some ⟨Bx, 0, none⟩), .pointer (some ⟨Bx + 1, 0, none⟩)] (t.pre 1).length (NRd (RTy w0) t) (fun _ => True) Keep W
set_option maxHeartbeats 800000 in
theorem nodesOfT_any (w0 : World) (t : Ty) (w : World) (cs : List Value) (h : RTy w0 t cs) (hw0 : Below w0.heap.size w0 w) (hs : t.size ≤ 1048577) : Calls Try.prog 101 #[.agg cs.toArray] w (IterT w0 t w) := by
  obtain ⟨c0, c1, c2, rfl⟩ := h.three
  obtain ⟨W1, hW1⟩ : ∃ W1, w.alloc (.cells #[c0, c1, c2] 41) = W1 := ⟨_, rfl⟩
  obtain ⟨H, hH⟩ : ∃ H, w.heap.size = H := ⟨_, rfl⟩
  have hb1 : Below w.heap.size w W1 := by rw [← hW1]; exact (Below.refl _ _).alloc (Nat.le_refl _) _
  have hz1 : W1.heap.size = H + 1 := by rw [← hW1, ← hH]; simp
  have hbx : Box3 W1 H 41 c0 c1 c2 := by rw [← hW1, ← hH]; exact Box3.new w _ _ _ _
  have HN := Lib.hid (nodesT_any c0 c1 c2 W1)
  have HR : Hid (∀ w', w' = (W1.alloc (.cells #[c0, c1, c2] 41)).alloc (.cells #[.func (.func 120) #[] #[]] 145) →
      IterT w0 t w (.returned (.func (.func 128) #[] #[.pointer (some ⟨W1.heap.size, 0, none⟩), .pointer (some ⟨W1.heap.size + 1, 0, none⟩)])) w') := Lib.hid (by
    rintro w' rfl
    have hb2 : Below W1.heap.size W1 (W1.alloc (.cells #[c0, c1, c2] 41)) := (Below.refl _ _).alloc (Nat.le_refl _) _
    have hb3 : Below W1.heap.size W1 ((W1.alloc (.cells #[c0, c1, c2] 41)).alloc (.cells #[.func (.func 120) #[] #[]] 145)) := hb2.alloc hb2.size _
    refine ⟨W1.heap.size, rfl, hb1.trans (hb3.mono hb1.size), by omega, by simp, fun n Keep W hn hk0 hkx hky hkW hh => ?_⟩
    have y1 := (Box3.new W1 41 c0 c1 c2).alloc (.cells #[.func (.func 120) #[] #[]] 145)
    have y2 := Boxed.new (W1.alloc (.cells #[c0, c1, c2] 41)) 145 (.func (.func 120) #[] #[])
    rw [World.size_alloc] at y2
    have hbw := (hw0.trans ((hb1.trans (hb3.mono hb1.size)).mono hw0.size)).trans (hh.below (Nat.le_trans hw0.size (hb1.trans (hb3.mono hb1.size)).size) hk0)
    exact nodes1T_gives w0 t c0 c1 c2 h hs n W1.heap.size hn Keep hk0 hky W hkW hbw ((hh.block _ (by simp only [World.size_alloc]; omega) hkx).trans y1) ((hh.block _ (by simp only [World.size_alloc]; omega) hky).trans y2))
  have HW1 := Lib.hid hW1
  have HZ1 := Lib.hid hz1
  have x0 := hbx.c0
  have x1 := hbx.c1
  have x2 := hbx.c2
  clear h hs hW1 hb1 hz1 hbx hw0
  go_enter Try.func101, Try.ntmps101
  go_wp2_with fail
  rw [HW1.out]
  go_wp2_with fail
  refine HN.out.mono ?_
  rintro e w2 ⟨rfl, hw2⟩
  have HF := Lib.hid (HR.out w2 hw2)
  clear hw2
  go_wp2_with fail
  go_ret
  exact HF.out

theorem IterT.gives {w0 : World} {t : Ty} {w w' : World} {e : Ending} (h : IterT w0 t w e w') (hw0 : w0.heap.size ≤ w.heap.size) : ∃ lb, e = .returned (.func (.func 128) #[] lb) ∧ Below w.heap.size w w' ∧ ∀ W, Below w'.heap.size w' W →
    GivesN Fence.wide (9 - 1) Try.prog 128 lb (t.pre 1).length (NRd (RTy w0) t) (fun _ => True) (fun b => b < w'.heap.size) W := by
  obtain ⟨Bx, rfl, hb, h1, h2, h3⟩ := h
  exact ⟨_, rfl, hb, fun W hW => h3 _ _ W (by decide) (fun b hb' => by have := hb.size; omega) (by omega) (by omega) (fun b hb' => by have := hW.size; omega) (Held.of_below hW fun i hi _ => hi)⟩
end Go.Proofs.Ytlikmgkjilmjpaa
