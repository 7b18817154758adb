/-
  Merged by program: FrsD.
-/
import Derived.Test.YtlcedleebbgebaaDoorF2

/-
  New names: 'v' and a number's digits; the first one that is not in a list, and how far one has to look for it. Hangs on no function of the program.
-/
namespace Go.Proofs.YtlcedleebbgebaaDoor
open Go.RowKit

def digVal (l : List UInt8) : Nat := l.foldl (fun a d => 10 * a + (d.toNat - 48)) 0
theorem digVal_app (l : List UInt8) (d : UInt8) : digVal (l ++ [d]) = 10 * digVal l + (d.toNat - 48) := by unfold digVal; rw [List.foldl_append]; rfl
theorem digVal_digs : ∀ u : Nat, digVal (digs u) = u := by
  intro u
  induction u using Nat.strongRecOn with
  | ind u ih =>
    by_cases h : u = 0
    · subst h; rfl
    · rw [digs_step u h, digVal_app, ih (u / 10) (by omega)]
      have : (UInt8.ofNat (48 + u % 10)).toNat = 48 + u % 10 := by
        rw [UInt8.toNat_ofNat']
        omega
      rw [this]
      omega
theorem digs_inj {a b : Nat} (h : digs a = digs b) : a = b := by rw [← digVal_digs a, h, digVal_digs b]
/-- the name of a number -/
def fvb (k : Nat) : ByteArray := (⟨#[118]⟩ : ByteArray) ++ ⟨(Lib.itoa (k : Int)).toArray⟩
theorem fvb_eq (k : Nat) : fvb k = ⟨(118 :: Lib.itoa (k : Int)).toArray⟩ := push_front _ _
theorem fvb_inj {a b : Nat} (ha : 1 ≤ a) (hb : 1 ≤ b) (h : fvb a = fvb b) : a = b := by
  rw [fvb_eq, fvb_eq, itoa_pos _ (by omega), itoa_pos _ (by omega)] at h
  have h2 := congrArg (fun x : ByteArray => x.data.toList) h
  simp only [List.cons.injEq, true_and] at h2
  have := digs_inj h2
  omega
theorem fvb_size (k : Nat) (h1 : 1 ≤ k) (h : k ≤ 1048578) : (fvb k).size ≤ 20 := by
  rw [fvb_eq, itoa_pos _ (by omega)]
  have h2 := digs_len ((k : Int).natAbs) (by omega)
  show (118 :: digs ((k : Int).natAbs)).toArray.size ≤ 20
  simp only [List.size_toArray, List.length_cons]
  omega
/-- all names of numbers under k stand in the list -/
def AllTo (xs : List ByteArray) (k : Nat) : Prop := ∀ j, 1 ≤ j → j < k → fvb j ∈ xs
theorem allTo_one (xs : List ByteArray) : AllTo xs 1 := fun j h1 h2 => by omega
theorem allTo_succ {xs : List ByteArray} {k : Nat} (h : AllTo xs k) (hk : fvb k ∈ xs) : AllTo xs (k + 1) := fun j h1 h2 => by
  by_cases e : j = k
  · subst e; exact hk
  · exact h j h1 (by omega)
theorem nodup_len {α : Type} [BEq α] [LawfulBEq α] : ∀ (ys xs : List α), ys.Nodup → (∀ y ∈ ys, y ∈ xs) → ys.length ≤ xs.length := by
  intro ys
  induction ys with
  | nil => intro xs _ _; simp
  | cons y ys ih =>
    intro xs hn hs
    obtain ⟨h1, h2⟩ := List.nodup_cons.1 hn
    have hy := hs y (by simp)
    have h3 := ih (xs.erase y) h2 (fun z hz => (List.mem_erase_of_ne (fun e => by subst e; exact h1 hz)).2 (hs z (by simp [hz])))
    rw [List.length_erase_of_mem hy] at h3
    have : 0 < xs.length := List.length_pos_of_mem hy
    simp only [List.length_cons]
    omega
theorem allTo_le {xs : List ByteArray} {k : Nat} (h : AllTo xs k) : k ≤ xs.length + 1 := by
  have h1 : ((List.range (k - 1)).map fun j => (fvb (j + 1)).data.toList).length ≤ (xs.map fun x => x.data.toList).length := by
    refine nodup_len _ _ ?_ ?_
    · rw [List.nodup_iff_pairwise_ne, List.pairwise_map]
      refine List.Pairwise.imp ?_ (List.nodup_iff_pairwise_ne.1 List.nodup_range)
      intro a b hne e
      refine hne ?_
      have := fvb_inj (by omega) (by omega) (ByteArray.ext (Array.toList_inj.1 e))
      omega
    · intro y hy
      obtain ⟨j, hj, rfl⟩ := List.mem_map.1 hy
      exact List.mem_map.2 ⟨_, h (j + 1) (by omega) (by have := List.mem_range.1 hj; omega), rfl⟩
  simp only [List.length_map, List.length_range] at h1
  omega
/-- k is the number of the first name that is not in the list -/
def IsFresh (xs : List ByteArray) (k : Nat) : Prop := 1 ≤ k ∧ AllTo xs k ∧ ¬ fvb k ∈ xs
theorem fresh_uniq {xs : List ByteArray} {a b : Nat} (ha : IsFresh xs a) (hb : IsFresh xs b) : a = b := by
  obtain ⟨a1, a2, a3⟩ := ha
  obtain ⟨b1, b2, b3⟩ := hb
  rcases Nat.lt_trichotomy a b with h | h | h
  · exact absurd (b2 a a1 h) a3
  · exact h
  · exact absurd (a2 b b1 h) b3
/-- the text of the first new name -/
def FreshPost (xs : List ByteArray) (w : World) (e : Ending) (w' : World) : Prop := ∃ k, IsFresh xs k ∧ k ≤ xs.length + 1 ∧ e = .returned (.string (fvb k)) ∧ Below w.heap.size w w'
/-- how often a text stands in a list -/
def cntB (xs : List ByteArray) (s : ByteArray) : Nat := (xs.filter fun x => decide (x = s)).length
theorem cntB_nil (s : ByteArray) : cntB [] s = 0 := rfl
theorem cntB_app (xs : List ByteArray) (x s : ByteArray) : cntB (xs ++ [x]) s = if x = s then cntB xs s + 1 else cntB xs s := by
  unfold cntB
  rw [List.filter_append, List.length_append]
  by_cases e : x = s
  · rw [if_pos e]; simp [e]
  · rw [if_neg e]; simp [e]
theorem cntB_zero {xs : List ByteArray} {s : ByteArray} : cntB xs s = 0 ↔ ¬ s ∈ xs := by
  unfold cntB
  rw [List.length_eq_zero_iff, List.filter_eq_nil_iff]
  constructor
  · intro h hm
    exact h s hm (by simp)
  · intro h a ha e
    have e2 : a = s := by simpa using e
    exact h (e2 ▸ ha)
theorem cntB_le (xs : List ByteArray) (s : ByteArray) : cntB xs s ≤ xs.length := List.length_filter_le _ _
end Go.Proofs.YtlcedleebbgebaaDoor
