/-
  Merged by program: Mark.
-/
import Derived.Test.YtlikmgkjilmjpaaH14
import Derived.OwnWalk
import Derived.RegionTactic
import Derived.Deep.RegionHeld3

/-
  The marks that a law writes into a result to see whose memory it is: a text for each number; writing them into a list of strings; reading them back.
-/
namespace Go.Proofs.Ytlikmgkjilmjpaa
open Go.RowKit

def mtext (k : Int) : List UInt8 := 109 :: digs k.natAbs

set_option maxRecDepth 100000 in
set_option maxHeartbeats 1600000 in
theorem markText_any (n : Int) (hpos : 0 < n) (h1 : n ≤ 1000000000000) (w : World) : Calls Try.prog 93 #[.int .i64 n] w (Text (mtext n) w) := by
  have hle : ¬ n ≤ 0 := by omega
  go_enter Try.func93, Try.ntmps93
  go_wp2
  go_loopw [0, 3] (fun v o wr => FInv n w v o wr) (fun v _ _ => (intOf v).natAbs)
  case atStart => exact ⟨n, [], rfl, rfl, by omega, by omega, fun h => by omega, fun h => by omega, by simp, Below.refl _ _⟩
  case round =>
    obtain ⟨m, l, rfl, rfl, hm0, hm1, hs1, hs2, hd, hb⟩ := hrel
    have hm2 : 0 ≤ m := hs2 hpos
    have hl : l.length ≤ 19 := by
      have h2 := digs_len n.natAbs (by omega)
      rw [hd, List.length_append] at h2
      omega
    have HD := Lib.hid hd
    clear hd hs1 hs2
    by_cases hm : 0 < m
    · have hcv := run_text_one wr
      have HT := Lib.hid (tmod_pos m hm)
      go_wp2
      go_roundw
      case rel => exact finv_pos hpos hm1 hm HD.out (hb.alloc hb.size _) rfl _ rfl
      case measure => have := HT.out.2; simp only [intOf]; omega
    · have he : m = 0 := by omega
      subst he
      have HF : Hid (Ending.returned (.string (⟨#[109]⟩ ++ ⟨l.toArray⟩)) = Ending.returned (.string ⟨(mtext n).toArray⟩)) := by
        have e : l = digs n.natAbs := by rw [HD.out]; rfl
        rw [push_front, e]; rfl
      go_wp2
      go_ret
      exact ⟨HF.out, hb⟩

/-- the marks from k on -/
def marks (k : Int) (n : Nat) : List Value := (List.range n).map fun (j : Nat) => Value.string ⟨(mtext (k + (j : Int))).toArray⟩
theorem marks_at (k : Int) (n j : Nat) (h : j < n) : (marks k n)[j]? = some (.string ⟨(mtext (k + j)).toArray⟩) := by simp [marks, h]
theorem marks_len (k : Int) (n : Nat) : (marks k n).length = n := by simp [marks]
theorem over_step (ms xs : List Value) (j : Nat) (u : Value) (hl : ms.length = xs.length) (h : ms[j]? = some u) : (ms.take j ++ xs.drop j).set j u = ms.take (j + 1) ++ xs.drop (j + 1) := by
  have hj : j < ms.length := (List.getElem?_eq_some_iff.1 h).1
  rw [List.set_append_right _ _ (by rw [List.length_take]; omega), List.take_add_one, h]
  have e2 : j - (ms.take j).length = 0 := by rw [List.length_take]; omega
  have e3 : xs.drop j = xs[j] :: xs.drop (j + 1) := List.drop_eq_getElem_cons (by omega)
  rw [e2, e3, List.set_cons_zero]
  simp

def MarkPost (e : TypeId) (g n cap : Nat) (base : Nat) (k : Int) (w : World) (en : Ending) (w' : World) : Prop :=
  en = .returned (.int .i64 (k + n)) ∧ w'.ownsRow base e 1 (.slice (some ⟨g, 0, none⟩) n cap) n (marks k n) ∧ w.grownBy w' (some g)

set_option maxHeartbeats 1600000 in
theorem markStringS_any (g n cap base : Nat) (k : Int) (xs : List Value) (w : World) (hown0 : w.ownsRow base 9 1 (.slice (some ⟨g, 0, none⟩) n cap) n xs) (hx : ∀ u ∈ xs, ∃ s, u = .string s) (hk : 0 < k) (hk1 : k + n ≤ 1000000000000) :
    Calls Try.prog 60 #[.slice (some ⟨g, 0, none⟩) n cap, .int .i64 k] w (MarkPost 9 g n cap base k w) := by
  have hxl : xs.length = n := by simpa using hown0.1
  have HX := Lib.hid hxl
  have hw0 : w.grownBy w (some g) := ⟨rfl, rfl, rfl, Nat.le_refl _, fun _ _ _ => rfl⟩
  clear hxl
  go_enter Try.func60, Try.ntmps60
  go_wp2_with fail
  go_loopw [1, 5] (fun q i wr => ∃ j : Nat, j ≤ n ∧ i = .int .i64 j ∧ q = .int .i64 (k + j) ∧ wr.ownsRow base 9 1 (.slice (some ⟨g, 0, none⟩) n cap) n ((marks k n).take j ++ xs.drop j) ∧ w.grownBy wr (some g)) (fun _ i _ => n - (intOf i).toNat)
  case atStart => exact ⟨0, Nat.zero_le _, rfl, by simp, by simpa using hown0, hw0⟩
  case round =>
    obtain ⟨j, hj, rfl, rfl, hown, hgr⟩ := hrel
    by_cases hlt : j < n
    · have HO := Lib.hid hown
      clear hown
      go_wp2_with fail
      refine (markText_any (k + j) (by omega) (by omega) wr).mono ?_
      rintro e w1 ⟨rfl, hb1⟩
      have hown1 := own_below HO.out hb1
      have hfr : w1.frozen? ⟨g, j, none⟩ = false := hown1.frozenAt j
      obtain ⟨s0, hat⟩ : ∃ s0, w1.cell? ⟨g, j, none⟩ = some (.string s0) := by
        rw [hown1.cellAt j (by omega)]
        have e1 : ((marks k n).take j ++ xs.drop j)[j]? = xs[j]? := by
          rw [List.getElem?_append_right (by rw [List.length_take, marks_len]; omega), List.length_take, marks_len, Nat.min_eq_left (by omega), Nat.sub_self, List.getElem?_drop, Nat.add_zero]
        rw [e1]
        have hl : j < xs.length := by rw [HX.out]; exact hlt
        rw [List.getElem?_eq_getElem hl]
        obtain ⟨s, hs⟩ := hx xs[j] (List.getElem_mem hl)
        exact ⟨s, by rw [hs]⟩
      have hst := (hown1.stored j (.string ⟨(mtext (k + j)).toArray⟩)).1
      rw [over_step (marks k n) xs j _ (by rw [marks_len, HX.out]) (marks_at k n j hlt)] at hst
      have HS := Lib.hid hst
      have hg1 := grown_below hgr hb1
      have HG := Lib.hid (grown_set (j := j) hg1 (.string ⟨(mtext (k + j)).toArray⟩))
      clear hst hown1 hg1
      go_wp2_with fail
      go_roundw
      case rel => exact ⟨j + 1, by omega, by go_num, by go_num, HS.out, HG.out⟩
      case measure => simp [intOf]; omega
    · have hje : j = n := by omega
      subst hje
      have e1 : (marks k j).take j ++ xs.drop j = marks k j := by
        rw [List.take_of_length_le (by rw [marks_len]; omega), List.drop_of_length_le (by rw [HX.out]; omega), List.append_nil]
      rw [e1] at hown
      have HO := Lib.hid hown
      clear hown e1
      go_wp2_with fail
      go_ret
      exact ⟨rfl, HO.out, hgr⟩

def HeldPost (n : Nat) (k : Int) (w : World) (en : Ending) (w' : World) : Prop := en = .returned (.int .i64 (k + n)) ∧ Below w.heap.size w w'

set_option maxHeartbeats 1600000 in
theorem heldStringS_any (A : Option Addr) (n cap : Nat) (k : Int) (w : World) (h : Sl w A (marks k n)) (hk : 0 < k) (hk1 : k + n ≤ 1000000000000) :
    Calls Try.prog 62 #[.slice A n cap, .int .i64 k] w (HeldPost n k w) := by
  go_enter Try.func62, Try.ntmps62
  go_wp2_with fail
  go_loopw [1, 5] (fun q i wr => ∃ j : Nat, j ≤ n ∧ i = .int .i64 j ∧ q = .int .i64 (k + j) ∧ Below w.heap.size w wr) (fun _ i _ => n - (intOf i).toNat)
  case atStart => exact ⟨0, Nat.zero_le _, rfl, by simp, Below.refl _ _⟩
  case round =>
    obtain ⟨j, hj, rfl, rfl, hb⟩ := hrel
    by_cases hlt : j < n
    · obtain ⟨ad, rfl, hc0⟩ := h j _ (marks_at k n j hlt)
      have hblk := World.block_lt_of_cell? w _ hc0
      have hc : wr.cell? (ad.add j) = some (.string ⟨(mtext (k + j)).toArray⟩) := (hb.cell hblk).trans hc0
      clear hc0
      have hwb : (ad.add j).block < wr.heap.size := World.block_lt_of_cell? wr _ hc
      have h0 : 0 < k + j := by omega
      have h1 : k + j ≤ 1000000000000 := by omega
      have HB := Lib.hid hb
      clear hblk h hb
      go_wp2_with fail
      go_region_held3 (fun w' => w'.cell? (ad.add j) = some (.string ⟨(mtext (k + j)).toArray⟩)) (assumption)
        ((go_at_call 93; refine (markText_any _ h0 h1 _).mono ?_; rintro e w1 ⟨rfl, hb1⟩; have hc1 : w1.cell? (ad.add j) = some (.string ⟨(mtext (k + j)).toArray⟩) := (hb1.cell (by exact hwb)).trans hc))
      all_goals
        have hb2 := HB.out.drew.trans (hb1.mono (by have := HB.out.size; simpa using this))
        have HB2 := Lib.hid hb2
        clear hb2 hb1 hc1 hc
        go_wp2_with fail
        go_roundw
        case rel => exact ⟨j + 1, by omega, by go_num, by go_num, HB2.out⟩
        case measure => simp [intOf]; omega
    · go_wp2_with fail
      have hje : j = n := by omega
      subst hje
      go_ret
      exact ⟨rfl, hb⟩
end Go.Proofs.Ytlikmgkjilmjpaa
