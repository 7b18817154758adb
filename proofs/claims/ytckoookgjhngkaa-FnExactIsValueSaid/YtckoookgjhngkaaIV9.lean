/-
  Merged by program: JoinA, TySz.
-/
import Derived.Test.YtckoookgjhngkaaIV1
import Derived.Test.YtckoookgjhngkaaProg
import Derived.Test.YtckoookgjhngkaaIV3

/-
  The size of a list of strings, as the laws reckon it: 'szStringS'.
-/
namespace Go.Proofs.Ytckoookgjhngkaa
open Go.RowKit

/-- what szStringS leaves: where its answer is not negative, what is left over is the rest -/
def SzPost (n : Nat) (xs : List ByteArray) (left : Int) (w : World) (e : Ending) (w' : World) : Prop :=
  ∃ r : Int, e = .returned (.int .i64 r) ∧ r ≤ left ∧ -1 ≤ r ∧ (0 ≤ r → r + n + total xs = left) ∧ w = w'

set_option maxHeartbeats 400000 in
theorem szStringS_any (A : Option Addr) (c : Nat) (xs : List ByteArray) (left : Int) (w : World) (h : Sl w A (xs.map Value.string)) (hn : xs.length ≤ 9223372036854775807)
    (hx : ∀ x ∈ xs, x.size ≤ 9223372036854775807) (h0 : 0 ≤ left) (h1 : left ≤ 1048576) :
    Calls Try.prog 9 #[.slice A xs.length c, .int .i64 left] w (SzPost xs.length xs left w) := by
  go_enter Try.func9, Try.ntmps9
  by_cases hneg : left - xs.length < 0
  · go_wp2
    go_ret
    exact ⟨-1, rfl, by omega, by omega, by omega, rfl⟩
  · go_wp2
    go_loop [1, 5] (fun l i => ∃ k : Nat, k ≤ xs.length ∧ i = .int .i64 k ∧ ∃ r : Int, l = .int .i64 r ∧ 0 ≤ r ∧ r + xs.length + total (xs.take k) = left) (fun _ i => xs.length - (intOf i).toNat)
    case atStart => exact ⟨0, Nat.zero_le _, rfl, _, rfl, by omega, by simp [total]⟩
    case round =>
      obtain ⟨k, hk, rfl, r, rfl, hr0, hr⟩ := hrel
      by_cases hlt : k < xs.length
      · have hs := total_take_succ xs k xs[k] (List.getElem?_eq_getElem hlt)
        obtain ⟨ad, rfl, hc⟩ := h k (.string xs[k]) (by simp [hlt])
        have hxk := hx xs[k] (List.getElem_mem hlt)
        have HS := Lib.hid hs
        have HR := Lib.hid hr
        clear hs hr
        have hr1 : r ≤ 1048576 := by have := HR.out; omega
        by_cases hz : r - (xs[k].size : Int) < 0
        · go_wp2
          go_ret
          exact ⟨-1, rfl, by omega, by omega, by omega, rfl⟩
        · go_wp2
          go_round
          case rel => exact ⟨k + 1, by omega, by go_num, _, rfl, by omega, by have := HS.out; have := HR.out; omega⟩
          case measure => simp [intOf]; omega
      · have he : k = xs.length := by omega
        have htk : xs.take k = xs := by rw [he]; exact List.take_length
        have HR := Lib.hid hr
        have HT := Lib.hid htk
        clear hr htk he
        go_wp2
        go_ret
        exact ⟨r, rfl, by have := HR.out; omega, by omega, fun _ => by have := HR.out; rw [HT.out] at this; omega, rfl⟩
end Go.Proofs.Ytckoookgjhngkaa

/-
  How great a type is, as the laws reckon it: 'szType', 'szTypeS'.
-/
namespace Go.Proofs.Ytckoookgjhngkaa
open Go.RowKit

/-- the laws' own types, which mirror the program's -/
def wtA (a : TyA) : Nat := a.labels.length + total a.labels
/-- what a type takes of the laws' bound -/
def wt (t : Ty) : Nat := t.sum (fun a => wtA a + 1) - 1
def wtK (ks : List Ty) : Nat := ks.length + (ks.map wt).sum
theorem wt_pos (t : Ty) : 1 ≤ t.sum (fun a => wtA a + 1) := by
  cases t with
  | node a ks => rw [Tr.sum_node]; omega
theorem wt_sum (ks : List Ty) : (ks.map (Tr.sum fun a => wtA a + 1)).sum = wtK ks := by
  unfold wtK
  induction ks with
  | nil => rfl
  | cons t r ih =>
    have := wt_pos t
    simp only [List.map_cons, List.sum_cons, List.length_cons, ih]
    unfold wt
    omega
theorem wt_node (a : TyA) (ks : List Ty) : wt (.node a ks) = wtA a + wtK ks := by
  unfold wt
  rw [Tr.sum_node, wt_sum]
  omega
theorem sum_le {β : Type} (f g : β → Nat) : ∀ (xs : List β), (∀ x ∈ xs, f x ≤ g x) → (xs.map f).sum ≤ (xs.map g).sum
  | [], _ => by simp
  | x :: r, h => by
    have h1 := h x (by simp)
    have h2 := sum_le f g r (fun y hy => h y (by simp [hy]))
    simp only [List.map_cons, List.sum_cons]
    omega
theorem size_wt (t : Ty) : t.size ≤ wt t + 1 := by
  have : t.size ≤ t.sum (fun a => wtA a + 1) := by
    refine Tr.ind (m := fun t => t.size ≤ t.sum (fun a => wtA a + 1)) (fun a ks ih => ?_) t
    rw [size_node, Tr.sum_node]
    have h := sum_le Tr.size (Tr.sum fun a => wtA a + 1) ks ih
    omega
  unfold wt
  omega

/-- where the answer is not negative, what is left over is the rest -/
def SzT (n : Nat) (left : Int) (w : World) (e : Ending) (w' : World) : Prop := ∃ r : Int, e = .returned (.int .i64 r) ∧ r ≤ left ∧ -1 ≤ r ∧ (0 ≤ r → r + n = left) ∧ Below w.heap.size w w'

end Go.Proofs.Ytckoookgjhngkaa
