/-
  Merged by program: Plc.
-/
import Derived.Test.YtlcedleebbgebaaDoorF9

/-
  The program's map of the places of names: each name's first place from k on.
-/
namespace Go.Proofs.YtlcedleebbgebaaDoor
open Go.RowKit Go.Maps

/-- the first place of a text -/
def idxN : List ByteArray → ByteArray → Option Nat
  | [], _ => none
  | n :: ns, s => if n = s then some 0 else (idxN ns s).map (· + 1)
def plc (ns : List ByteArray) (k : Nat) (s : ByteArray) : Option Nat := (idxN (ns.drop k) s).map (· + k)
theorem plc_end (ns : List ByteArray) (s : ByteArray) : plc ns ns.length s = none := by unfold plc; rw [List.drop_length]; rfl
theorem plc_zero (ns : List ByteArray) (s : ByteArray) : plc ns 0 s = idxN ns s := by
  unfold plc
  rw [List.drop_zero]
  cases idxN ns s <;> rfl
theorem plc_step {ns : List ByteArray} {k : Nat} (hk : k < ns.length) (s : ByteArray) : plc ns k s = if ns[k] = s then some k else plc ns (k + 1) s := by
  unfold plc
  rw [List.drop_eq_getElem_cons hk, idxN]
  split
  · simp
  · rw [Option.map_map]
    congr 1
    funext x
    show x + 1 + k = x + (k + 1)
    omega
theorem idxN_find {β : Type} (t : List (ByteArray × β)) (nm : ByteArray) : (∀ j, idxN (t.map fun d => d.1) nm = some j → ∃ h : j < t.length, t[j].1 = nm ∧ t.find? (fun d => decide (d.1 = nm)) = some t[j]) ∧ (idxN (t.map fun d => d.1) nm = none → t.find? (fun d => decide (d.1 = nm)) = none) := by
  induction t with
  | nil => exact ⟨fun j h => by simp [idxN] at h, fun _ => rfl⟩
  | cons d t ih =>
    rw [List.map_cons, idxN]
    by_cases e : d.1 = nm
    · rw [if_pos e, List.find?_cons_of_pos (by simp [e])]
      refine ⟨fun j h => ?_, fun h => by cases h⟩
      injection h with h
      subst h
      exact ⟨by simp, e, rfl⟩
    · rw [if_neg e, List.find?_cons_of_neg (by simp [e])]
      refine ⟨fun j h => ?_, fun h => ?_⟩
      · cases hi : idxN (t.map fun d => d.1) nm with
        | none => rw [hi] at h; cases h
        | some i =>
          rw [hi] at h
          injection h with h
          subst h
          obtain ⟨h1, h2, h3⟩ := ih.1 i hi
          exact ⟨by simpa using h1, by simpa using h2, by rw [h3]; simp⟩
      · cases hi : idxN (t.map fun d => d.1) nm with
        | none => exact ih.2 hi
        | some i => rw [hi] at h; cases h

theorem zeroInt (w : World) : (zeroValue 3).run Tryd.prog w = .ok (.int .i64 0) w := by kernel_rfl
theorem wf_nat (k : Nat) (h : k ≤ 1048576) : (Lit.int .i64 (k : Int)).wf = true := by
  show (decide (IntKind.i64.min ≤ (k : Int)) && decide ((k : Int) ≤ IntKind.i64.max)) = true
  rw [decide_eq_true (show IntKind.i64.min ≤ (k : Int) by show (-9223372036854775808 : Int) ≤ _; omega), decide_eq_true (show (k : Int) ≤ IntKind.i64.max by show _ ≤ (9223372036854775807 : Int); omega)]
  rfl
def PlcAt (D : DataW Unit) (s : ByteArray) (o : Option Nat) : Prop :=
  match o with
  | some j => ∀ z, D.atKey (lit s) z = .lit (.int .i64 (j : Int))
  | none => ∀ z, D.atKey (lit s) z = z
/-- the block is a map from the names' texts to their first places from k on -/
def Plc (w : World) (b n : Nat) (ns : List ByteArray) (k : Nat) : Prop :=
  ∃ D : DataW Unit, w.ownsMap Tryd.prog 9 (plainElem Tryd.prog 3) b n D ∧ IsMap D ∧ ∀ s, PlcAt D s (plc ns k s)
theorem Plc.made (w : World) (ns : List ByteArray) : Plc (w.alloc (.map #[] 0)) w.heap.size 0 ns ns.length :=
  ⟨.map [], World.ownsMap_made _ _ _ _, isMap_empty, fun s => by rw [plc_end]; exact fun z => rfl⟩
theorem Plc.at {w w' : World} {b n : Nat} {ns : List ByteArray} {k : Nat} (h : Plc w b n ns k) (he : w'.heap[b]? = w.heap[b]?) : Plc w' b n ns k := by
  obtain ⟨D, ⟨es, clock, hb, F, hs, hD⟩, h2⟩ := h
  exact ⟨D, ⟨es, clock, he.trans hb, F, hs, hD⟩, h2⟩
theorem Plc.lt {w : World} {b n : Nat} {ns : List ByteArray} {k : Nat} (h : Plc w b n ns k) : b < w.heap.size := by
  obtain ⟨D, h1, _⟩ := h
  exact h1.lt
set_option maxRecDepth 100000 in
theorem Plc.step {w : World} {b n : Nat} {ns : List ByteArray} {k : Nat} (h : Plc w b n ns (k + 1)) (hk : k < ns.length) (hl : ns.length ≤ 1048576) (hn : n < maxLen) {s : ByteArray} (hs : ns[k] = s) (hsz : s.size ≤ maxLen) :
    ∃ w', (Instr.mapUpdate 30 (.map (some b)) (.string s) (.int .i64 (k : Int))).run Tryd.prog w = .ok () w' ∧ Plc w' b (n + 1) ns k ∧ w.grownBy w' (some b) := by
  obtain ⟨D, h1, h2, h3⟩ := h
  obtain ⟨w', hrun, hown, hg⟩ := h1.update keyStr Tryd.underlying30 hn (lit_key hsz) (plainElem_int (a := (k : Int)) Tryd.underlying3 (wf_nat k (by omega)))
  refine ⟨w', hrun, ⟨_, hown, h2.put _ _, fun y => ?_⟩, hg⟩
  rw [plc_step hk]
  by_cases e : ns[k] = y
  · rw [if_pos e]
    have e2 : s = y := hs.symm.trans e
    subst e2
    exact fun z => atKey_put_same (k := lit s) h2 trivial _ _
  · rw [if_neg e]
    have hne : lit y ≠ lit s := fun e' => e (by rw [hs, lit_inj e'])
    have h4 := h3 y
    unfold PlcAt at h4 ⊢
    split
    · rename_i j hj
      rw [hj] at h4
      exact fun z => by rw [atKey_put_other hne]; exact h4 z
    · rename_i hj
      rw [hj] at h4
      exact fun z => by rw [atKey_put_other hne]; exact h4 z
set_option maxRecDepth 100000 in
/-- a look-up that asks whether there is one -/
theorem Plc.look {w : World} {b n : Nat} {ns : List ByteArray} {k : Nat} (h : Plc w b n ns k) {s : ByteArray} (hs : s.size ≤ maxLen) :
    ∃ c, (Instr.lookup 30 (.map (some b)) (.string s) true).run Tryd.prog w = .ok (.tuple #[.int .i64 c, .bool (plc ns k s).isSome]) w ∧ ∀ j, plc ns k s = some j → c = (j : Int) := by
  obtain ⟨D, h1, _, h3⟩ := h
  obtain ⟨v, ps, hrun, hv⟩ := h1.look_ok keyStr Tryd.underlying30 (zeroInt w) (plainElem_int (a := 0) Tryd.underlying3 (by decide)) (lit_key hs)
  obtain ⟨c, rfl, hc, _⟩ := plainElem_int_inv Tryd.underlying3 hv
  simp only [Prod.mk.injEq] at hc
  have h4 := h3 s
  unfold PlcAt at h4
  cases hp : plc ns k s with
  | none =>
    rw [hp] at h4
    rw [has_false_of_atKey h4] at hrun
    exact ⟨c, hrun, fun j hj => by cases hj⟩
  | some j =>
    rw [hp] at h4
    simp only at h4
    rw [has_true_of_atKey h4] at hrun
    refine ⟨c, hrun, fun j' hj => ?_⟩
    injection hj with hj
    subst hj
    rw [h4] at hc
    have := hc.1
    simp only [DataW.lit.injEq, Lit.int.injEq, true_and] at this
    exact this.symm
/-- the map of the first places -/
def PlcOf (ns : List ByteArray) (w : World) (e : Ending) (w' : World) : Prop := ∃ (b n : Nat), e = .returned (.map (some b)) ∧ Plc w' b n ns 0 ∧ Below w.heap.size w w'
end Go.Proofs.YtlcedleebbgebaaDoor
