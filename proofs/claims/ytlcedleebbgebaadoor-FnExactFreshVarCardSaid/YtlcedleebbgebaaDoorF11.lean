/-
  Merged by program: CntM.
-/
import Derived.Test.YtlcedleebbgebaaDoorF10
import Derived.Test.YtlcedleebbgebaaDoorF3

/-
  The program's map that counts how often it has met a text: a look-up, a store.
-/
namespace Go.Proofs.YtlcedleebbgebaaDoor
open Go.RowKit Go.Maps

/-- the block is a map that holds, for each text of the list, how often it stands there -/
def CntM (w : World) (b n : Nat) (xs : List ByteArray) : Prop :=
  ∃ D : DataW Unit, w.ownsMap Tryd.prog 9 (plainElem Tryd.prog 3) b n D ∧ IsMap D ∧ ∀ s, D.atKey (lit s) (.lit (.int .i64 0)) = .lit (.int .i64 (cntB xs s : Int))
theorem CntM.made (w : World) : CntM (w.alloc (.map #[] 0)) w.heap.size 0 [] :=
  ⟨.map [], World.ownsMap_made _ _ _ _, isMap_empty, fun _ => rfl⟩
theorem CntM.kept {w w' : World} {b n : Nat} {xs : List ByteArray} {row : Option Nat} (h : CntM w b n xs) (hg : w.grownBy w' row) (hne : some b ≠ row) : CntM w' b n xs := by
  obtain ⟨D, h1, h2⟩ := h
  exact ⟨D, h1.kept hg hne, h2⟩
theorem CntM.lt {w : World} {b n : Nat} {xs : List ByteArray} (h : CntM w b n xs) : b < w.heap.size := by
  obtain ⟨D, h1, _⟩ := h
  exact h1.lt
theorem CntM.below {w w' : World} {b n : Nat} {xs : List ByteArray} (h : CntM w b n xs) (hb : Below w.heap.size w w') : CntM w' b n xs :=
  h.kept (row := none) ⟨hb.os, hb.tape, hb.output, hb.size, fun i hi _ => hb.block i hi⟩ (by simp)
set_option maxRecDepth 100000 in
theorem CntM.look {w : World} {b n : Nat} {xs : List ByteArray} (h : CntM w b n xs) {s : ByteArray} (hs : s.size ≤ maxLen) :
    (Instr.lookup 30 (.map (some b)) (.string s) false).run Tryd.prog w = .ok (.int .i64 (cntB xs s : Int)) w := by
  obtain ⟨D, h1, _, h3⟩ := h
  obtain ⟨v, ps, hrun, hv⟩ := h1.lookup keyStr Tryd.underlying30 (zeroInt w) (plainElem_int (a := 0) Tryd.underlying3 (by decide)) (lit_key hs)
  obtain ⟨c, rfl, hc, _⟩ := plainElem_int_inv Tryd.underlying3 hv
  simp only [Prod.mk.injEq] at hc
  rw [h3 s] at hc
  have := hc.1
  simp only [DataW.lit.injEq, Lit.int.injEq, true_and] at this
  rw [this]
  exact hrun
set_option maxRecDepth 100000 in
theorem CntM.step {w : World} {b n : Nat} {xs : List ByteArray} (h : CntM w b n xs) (hl : xs.length < 1048576) (hn : n < maxLen) {s : ByteArray} (hsz : s.size ≤ maxLen) :
    ∃ w', (Instr.mapUpdate 30 (.map (some b)) (.string s) (.int .i64 ((cntB xs s : Int) + 1))).run Tryd.prog w = .ok () w' ∧ CntM w' b (n + 1) (xs ++ [s]) ∧ w.grownBy w' (some b) := by
  obtain ⟨D, h1, h2, h3⟩ := h
  have hc := cntB_le xs s
  obtain ⟨w', hrun, hown, hg⟩ := h1.update keyStr Tryd.underlying30 hn (lit_key hsz) (plainElem_int (a := ((cntB xs s + 1 : Nat) : Int)) Tryd.underlying3 (wf_nat (cntB xs s + 1) (by omega)))
  refine ⟨w', by simpa using hrun, ⟨_, hown, h2.put _ _, fun y => ?_⟩, hg⟩
  rw [cntB_app]
  by_cases e : s = y
  · subst e
    rw [if_pos rfl]
    exact atKey_put_same (k := lit s) h2 trivial _ _
  · rw [if_neg e, atKey_put_other (fun e' => e (lit_inj e').symm)]
    exact h3 y
end Go.Proofs.YtlcedleebbgebaaDoor
