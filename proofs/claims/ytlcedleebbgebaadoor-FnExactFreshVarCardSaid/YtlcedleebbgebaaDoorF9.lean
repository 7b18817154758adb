/-
  Merged by program: Seen.
-/
import Derived.Test.YtlcedleebbgebaaDoorF8
import Derived.Test.YtlcedleebbgebaaDoorProg
import Derived.Maps.OwnSet
import Derived.WalkKit

/-
  The program's map of the texts that it has met, told by the list of them: a look-up, a store.
-/
namespace Go.Proofs.YtlcedleebbgebaaDoor
open Go.RowKit Go.Maps

theorem keyStr : Keyed Tryd.prog 9 := string_keyed Tryd.underlying9
theorem zeroBool (w : World) : (zeroValue 4).run Tryd.prog w = .ok (.bool false) w := by kernel_rfl
def lit (s : ByteArray) : Lit := .string s.data.toList
theorem lit_inj {a b : ByteArray} (h : lit a = lit b) : a = b := by
  injection h with h
  exact ByteArray.ext (Array.toList_inj.1 h)
theorem lit_key {s : ByteArray} (h : s.size ≤ maxLen) : keyOf Tryd.prog 9 (.string s) = some (lit s) := WideMaps.keyOf_string_mk Tryd.underlying9 h

/-- the block is a map that holds true at just the texts of the list -/
def Seen (w : World) (b n : Nat) (o : List ByteArray) : Prop :=
  ∃ D : DataW Unit, w.ownsMap Tryd.prog 9 (plainElem Tryd.prog 4) b n D ∧ IsMap D ∧ (∀ s ∈ o, D.atKey (lit s) (.lit (.bool false)) = .lit (.bool true)) ∧ ∀ s, ¬ s ∈ o → D.atKey (lit s) (.lit (.bool false)) = .lit (.bool false)
theorem Seen.made (w : World) : Seen (w.alloc (.map #[] 0)) w.heap.size 0 [] :=
  ⟨.map [], World.ownsMap_made _ _ _ _, isMap_empty, fun s h => by simp at h, fun s _ => rfl⟩
theorem Seen.mono {w : World} {b n n' : Nat} {o : List ByteArray} (h : Seen w b n o) (hn : n ≤ n') : Seen w b n' o := by
  obtain ⟨D, h1, h2⟩ := h
  exact ⟨D, h1.mono hn, h2⟩
theorem Seen.kept {w w' : World} {b n : Nat} {o : List ByteArray} {row : Option Nat} (h : Seen w b n o) (hg : w.grownBy w' row) (hne : some b ≠ row) : Seen w' b n o := by
  obtain ⟨D, h1, h2⟩ := h
  exact ⟨D, h1.kept hg hne, h2⟩
theorem Seen.lt {w : World} {b n : Nat} {o : List ByteArray} (h : Seen w b n o) : b < w.heap.size := by
  obtain ⟨D, h1, _⟩ := h
  exact h1.lt
theorem Seen.below {w w' : World} {b n : Nat} {o : List ByteArray} (h : Seen w b n o) (hb : Below w.heap.size w w') : Seen w' b n o :=
  h.kept (row := none) ⟨hb.os, hb.tape, hb.output, hb.size, fun i hi _ => hb.block i hi⟩ (by simp)
set_option maxRecDepth 100000 in
theorem plainElem_bool_inv {v : Value} {z : DataW Unit × List MemPlace} (h : plainElem Tryd.prog 4 v = some z) : ∃ x, v = .bool x ∧ z = (.lit (.bool x), []) := by
  unfold plainElem at h
  rw [Tryd.underlying4] at h
  cases v <;> simp at h
  exact ⟨_, rfl, h.symm⟩
theorem Seen.put {w : World} {b n : Nat} {o : List ByteArray} {D : DataW Unit} (h1 : IsMap D) (h3 : ∀ s ∈ o, D.atKey (lit s) (.lit (.bool false)) = .lit (.bool true)) (h4 : ∀ s, ¬ s ∈ o → D.atKey (lit s) (.lit (.bool false)) = .lit (.bool false)) {s : ByteArray}
    (h : w.ownsMap Tryd.prog 9 (plainElem Tryd.prog 4) b n (D.put (lit s) (.lit (.bool true)))) : Seen w b n (o ++ [s]) := by
  refine ⟨_, h, h1.put _ _, fun y hy => ?_, fun y hy => ?_⟩
  · by_cases e : y = s
    · subst e
      exact atKey_put_same (k := lit y) h1 trivial _ _
    · rw [atKey_put_other (fun e' => e (lit_inj e'))]
      exact h3 y (by simpa [e] using hy)
  · have e : y ≠ s := fun e => hy (by simp [e])
    rw [atKey_put_other (fun e' => e (lit_inj e'))]
    exact h4 y (fun hm => hy (by simp [hm]))
end Go.Proofs.YtlcedleebbgebaaDoor
