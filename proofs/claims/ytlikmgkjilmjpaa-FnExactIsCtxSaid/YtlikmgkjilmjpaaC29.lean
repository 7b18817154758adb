/-
  Merged by program: SchD, TgD, CtxS.
-/
import Derived.Test.YtlikmgkjilmjpaaC18
import Derived.Test.YtlikmgkjilmjpaaC22
import Derived.Test.YtlikmgkjilmjpaaC28
import Derived.Test.YtlikmgkjilmjpaaC26
import Derived.Test.YtlikmgkjilmjpaaC14
import Derived.Test.YtlikmgkjilmjpaaC25

/-
  Schemas and databases as lists: what the document's chapter 9 asks of them, in plain words. Hangs on no function of the program.
-/
namespace Go.Proofs.Ytlikmgkjilmjpaa
open Go.RowKit

def declB (d : Dc) : Bool := nameB d.1 && rowB d.2
def namesOf (xs : Sc) : List ByteArray := xs.map fun d => d.1
def schB (xs : Sc) : Bool := xs.all declB && (decide (xs.length ≤ 4) && ascL (namesOf xs))
theorem all_take {α : Type} {f : α → Bool} {xs : List α} {k : Nat} (h : (xs.take k).all f = true) (hk : k < xs.length) (hf : f xs[k] = true) : (xs.take (k + 1)).all f = true := by
  rw [List.take_add_one, List.getElem?_eq_getElem hk, List.all_append, h]
  simp [hf]
theorem all_no {α : Type} {f : α → Bool} {xs : List α} {k : Nat} (hk : k < xs.length) (hf : f xs[k] = false) : xs.all f = false := by
  rw [List.all_eq_false]
  exact ⟨xs[k], List.getElem_mem hk, by simp [hf]⟩
theorem sch_no {xs : Sc} {k : Nat} (hk : k < xs.length) (hf : declB xs[k] = false) : schB xs = false := by unfold schB; rw [all_no hk hf]; rfl
theorem sch_all {xs : Sc} (h : (xs.take xs.length).all declB = true) : schB xs = (decide (xs.length ≤ 4) && ascL (namesOf xs)) := by
  rw [List.take_length] at h
  unfold schB
  rw [h]
  rfl
theorem namesOf_take (xs : Sc) (k : Nat) (hk : k < xs.length) : (namesOf (xs.take (k + 1))).map Value.string = (namesOf (xs.take k)).map Value.string ++ [.string xs[k].1] := by
  unfold namesOf
  rw [List.take_add_one, List.getElem?_eq_getElem hk, List.map_append, List.map_append]
  rfl
noncomputable def sameDc (a b : Dc) : Bool := decide (a.1 = b.1) && same a.2 b.2
def allPairs {α β : Type} (f : α → β → Bool) (xs : List α) (ys : List β) : Bool := (xs.zip ys).all fun p => f p.1 p.2
theorem pairs_no {α β : Type} {f : α → β → Bool} {xs : List α} {ys : List β} {k : Nat} (h1 : k < xs.length) (h2 : k < ys.length) (hf : f xs[k] ys[k] = false) : allPairs f xs ys = false := by
  unfold allPairs
  have hk : k < (xs.zip ys).length := by rw [List.length_zip]; omega
  exact all_no hk (by rw [List.getElem_zip]; exact hf)
def PairsTo {α β : Type} (f : α → β → Bool) (xs : List α) (ys : List β) (k : Nat) : Prop := ((xs.zip ys).take k).all (fun p => f p.1 p.2) = true
theorem pairsTo_zero {α β : Type} (f : α → β → Bool) (xs : List α) (ys : List β) : PairsTo f xs ys 0 := by simp [PairsTo]
theorem pairsTo_more {α β : Type} {f : α → β → Bool} {xs : List α} {ys : List β} {k : Nat} (h : PairsTo f xs ys k) (h1 : k < xs.length) (h2 : k < ys.length) (hf : f xs[k] ys[k] = true) : PairsTo f xs ys (k + 1) := by
  have hk : k < (xs.zip ys).length := by rw [List.length_zip]; omega
  exact all_take h hk (by rw [List.getElem_zip]; exact hf)
theorem pairsTo_all {α β : Type} {f : α → β → Bool} {xs : List α} {ys : List β} (h : PairsTo f xs ys xs.length) : allPairs f xs ys = true := by
  unfold PairsTo at h
  rw [List.take_of_length_le (by rw [List.length_zip]; omega)] at h
  exact h
noncomputable def eqScB (a b : Sc) : Bool := decide (a.length = b.length) && allPairs sameDc a b
end Go.Proofs.Ytlikmgkjilmjpaa

/-
  Contexts, in plain words.
-/
namespace Go.Proofs.Ytlikmgkjilmjpaa
open Go.RowKit

abbrev Cx := List Tg
def tgB (d : Tg) : Bool := nameB d.1 && validB d.2
def ctxB (c : Cx) : Bool := decide (c.length ≤ 16) && c.all tgB
theorem tg_bounds {t : Cx} {k : Nat} (hk : k < t.length) (hw : wL wTg t ≤ 1048576) : t[k].1.size ≤ 1048576 ∧ wt t[k].2 ≤ 1048576 ∧ t.length ≤ 1048576 := by
  have h := wL_le (f := wTg) hk hw
  have h1 : wTg t[k] = t[k].1.size + wt t[k].2 := rfl
  omega
theorem ol_rl {α : Type} {a : Kd α} {e : TypeId} {w : World} {xs : List α} {A : Option Addr} {n d : Nat} {fp : List Nat} (h : OL a e w xs (.slice A n d) fp) : RL a w A xs := by
  obtain ⟨A', d', h1, _, _, h2⟩ := h.reads
  injection h1 with h1 _ _
  subst h1
  exact h2
end Go.Proofs.Ytlikmgkjilmjpaa

/-
  The model's IsCtx.
-/
namespace Go.Proofs.Ytlikmgkjilmjpaa
open Go.RowKit

set_option maxRecDepth 100000 in
set_option maxHeartbeats 3200000 in
theorem specCtx_any (t : Cx) (w : World) (A : Option Addr) (d : Nat) (hp : RL kTg w A t) (hw : wL wTg t ≤ 1048576) : Calls Try.prog 31 #[.slice A t.length d] w (Truth (ctxB t) w) := by
  have hlen : t.length ≤ 1048576 := by unfold wL at hw; omega
  have HP := Lib.hid hp
  have HW := Lib.hid hw
  have HD : Hid (ctxB t = (decide (t.length ≤ 16) && t.all tgB)) := Lib.hid rfl
  clear hp hw
  generalize ctxB t = cb at HD ⊢
  go_enter Try.func31, Try.ntmps31
  go_wp2_with fail
  go_loopw [3] (fun i wr => ∃ k : Nat, k ≤ t.length ∧ i = .int .i64 k ∧ (t.take k).all tgB = true ∧ Below w.heap.size w wr) (fun i _ => t.length - (intOf i).toNat)
  case atStart => exact ⟨0, Nat.zero_le _, rfl, by simp, Below.refl _ _⟩
  case round =>
    obtain ⟨k, hk, rfl, hto, hb⟩ := hrel
    have HTO := Lib.hid hto
    have HB := Lib.hid hb
    clear hto
    by_cases hlt : k < t.length
    · obtain ⟨ad, p, c0, c1, c2, c3, rfl, hpe, hr, q0, q1, q2, q3⟩ := rl_at4 kTg_n HP.out hb hlt
      obtain ⟨tk, TL, TA, tl, tc, ta, td, hcs, hs, hy⟩ := kTg_open hr
      obtain ⟨hn1, hn2, _⟩ := tg_bounds hlt HW.out
      injection hcs with e0 hcs
      injection hcs with e1 hcs
      injection hcs with e2 hcs
      injection hcs with e3 hcs
      subst e0 e1 e2 e3
      have HN := Lib.hid (fun (W : World) => specName_any t[k].1 W hn1)
      have HRW := Lib.hid (fun (W : World) (hB : Below wr.heap.size wr W) => specValid_any t[k].2 W _ (kTy.keep hy hB) hn2)
      have HS := Lib.hid (fun hf => all_take (f := tgB) HTO.out hlt hf)
      have HNO := Lib.hid (fun hf => all_no (f := tgB) hlt hf)
      have HDB : Hid (tgB t[k] = (nameB t[k].1 && validB t[k].2)) := Lib.hid rfl
      generalize t[k].2 = ty at HRW HDB
      generalize tgB t[k] = dB at HS HNO HDB
      generalize t[k].1 = nm at HN HDB q0 hn1
      clear hr hcs hs hy hn2 hk
      cases hnb : nameB nm
      · have HF : Hid (cb = false) := Lib.hid (by rw [HD.out, HNO.out (by rw [HDB.out, hnb]; rfl)]; simp)
        rw [hnb] at HN
        have HR : Hid (Truth cb w (.returned (.bool false)) wr) := Lib.hid ⟨by rw [HF.out], HB.out⟩
        clear hnb HRW hb
        go_wp2_with (go_at_call 66; refine (HN.out _).mono ?_; rintro e W ⟨rfl, rfl⟩)
        go_ret
        exact HR.out
      · rw [hnb] at HN
        clear hb
        go_wp2_with (go_at_call 66; refine (HN.out _).mono ?_; rintro e W ⟨rfl, rfl⟩)
        refine (HRW.out wr (Below.refl _ _)).mono ?_
        rintro e w2 ⟨rfl, hb2⟩
        have HB2 := Lib.hid (HB.out.trans (hb2.mono HB.out.size))
        clear hb2 q0 q1 q2 q3
        cases hrb : validB ty
        · have HF : Hid (cb = false) := Lib.hid (by rw [HD.out, HNO.out (by rw [HDB.out, hnb, hrb]; rfl)]; simp)
          have HR : Hid (Truth cb w (.returned (.bool false)) w2) := Lib.hid ⟨by rw [HF.out], HB2.out⟩
          clear hnb hrb HRW
          go_wp2_with fail
          go_ret
          exact HR.out
        · have HT := Lib.hid (HS.out (by rw [HDB.out, hnb, hrb]; rfl))
          clear hnb hrb HRW HS HNO HDB
          go_wp2_with fail
          go_roundw
          case rel => exact ⟨k + 1, hlt, by go_num, HT.out, HB2.out⟩
          case measure => simp [intOf]; omega
    · have he : k = t.length := by omega
      have h1 := HTO.out
      rw [he, List.take_length] at h1
      have HF : Hid (Truth cb w (.returned (.bool (decide ((t.length : Int) ≤ 16)))) wr) := by
        have e1 : decide ((t.length : Int) ≤ 16) = decide (t.length ≤ 16) := by rw [decide_eq_decide]; omega
        rw [HD.out, h1, e1]
        exact ⟨by simp, HB.out⟩
      clear he hb h1
      go_wp2_with fail
      go_ret
      exact HF.out
end Go.Proofs.Ytlikmgkjilmjpaa
