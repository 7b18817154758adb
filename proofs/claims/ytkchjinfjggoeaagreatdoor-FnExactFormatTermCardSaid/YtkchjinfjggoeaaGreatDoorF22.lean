/-
  Merged by program: TAr, ArI, TArR.
-/
import Derived.Test.YtkchjinfjggoeaaGreatDoorF21
import Derived.Test.YtkchjinfjggoeaaGreatDoorF3
import Derived.Test.YtkchjinfjggoeaaGreatDoorF15
import Derived.Lib.OthersKept
import Derived.Lib.Builder

/-
  What stands around the parts of a term's text, and that woven with the parts' texts it is the text. Hangs on no function of the program.
-/
namespace Go.Proofs.YtkchjinfjggoeaaGreatDoor
open Go.RowKit

def fieldsY : UInt8 → List ByteArray → List (List UInt8)
  | _, [] => [[125]]
  | m, l :: r => (m :: (l.data.toList ++ [61])) :: fieldsY 44 r
theorem fieldsY_len : ∀ (m : UInt8) (ls : List ByteArray), (fieldsY m ls).length = ls.length + 1
  | _, [] => rfl
  | m, l :: r => by rw [fieldsY, List.length_cons, fieldsY_len 44 r, List.length_cons]
def opY (nm : List UInt8) (one : Bool) : List (List UInt8) := if one then [40 :: nm, [41]] else [[40], nm, [41]]
/-- what stands around the parts of a node -/
def arY (a : TeA) : List (List UInt8) :=
  if a.kind = 1 then [a.name.data.toList] else if a.kind = 2 then [Lib.itoa a.num] else if a.kind = 3 then [[35, if a.num = 1 then 116 else 102]]
  else if a.kind = 4 then opY a.name.data.toList (decide (arB a.name = 1))
  else if a.kind = 5 then fieldsY 123 a.labels else if a.kind = 6 then [[], 46 :: a.name.data.toList] else if a.kind = 7 then [91 :: 58 :: (a.type.txt ++ [93])] else if a.kind = 8 then [[91], [93]]
  else if a.kind = 9 then [[40], [43, 43], [41]] else if a.kind = 10 then [40 :: 102 :: 111 :: 114 :: 32 :: (a.name.data.toList ++ [60, 45]), [32], [41]]
  else if a.kind = 11 then [[40, 105, 102, 32], [32], [32], [41]] else if a.kind = 12 then [64 :: a.name.data.toList] else if a.kind = 13 then [40 :: 92 :: (a.name.data.toList ++ 58 :: (a.type.txt ++ [46])), [41]]
  else if a.kind = 14 then [[40], [32], [41]] else if a.kind = 15 then [[40, 101, 109, 112, 116, 121, 32], [41]] else [[40, 99, 111, 117, 110, 116, 32], [41]]
/-- the text up to the part k -/
def wvTo (zs ts : List (List UInt8)) : Nat → List UInt8
  | 0 => zs.getD 0 []
  | k + 1 => wvTo zs ts k ++ (ts.getD k [] ++ zs.getD (k + 1) [])
theorem wvTo_cons (a t : List UInt8) (zs ts : List (List UInt8)) : ∀ k, wvTo (a :: zs) (t :: ts) (k + 1) = a ++ (t ++ wvTo zs ts k)
  | 0 => by simp [wvTo]
  | k + 1 => by
    rw [wvTo, wvTo_cons a t zs ts k, wvTo]
    simp [List.append_assoc]
theorem wv_rec : ∀ (ls : List ByteArray) (ks : List Te) (m : UInt8), ls.length = ks.length → 1 ≤ ks.length → wvTo (fieldsY m ls) (ks.map Tr.ttx) ks.length = m :: recE ls ks []
  | [], _, _, h, h1 => by simp at h; omega
  | _ :: _, [], _, _, h1 => by simp at h1
  | [l], [t], m, _, _ => by simp [fieldsY, wvTo, recE]
  | [l], _ :: _ :: _, _, h, _ => by simp at h
  | _ :: _ :: _, [t], _, h, _ => by simp at h
  | l :: l2 :: ls, t :: t2 :: ts, m, h, _ => by
    have ih := wv_rec (l2 :: ls) (t2 :: ts) 44 (by simpa using h) (by simp)
    rw [fieldsY, List.map_cons, List.length_cons, wvTo_cons, ih]
    simp [recE]
theorem wv_prefix (zs ts : List (List UInt8)) : ∀ k n, k ≤ n → (wvTo zs ts k).length ≤ (wvTo zs ts n).length
  | k, 0, h => by obtain rfl : k = 0 := (by omega); exact Nat.le_refl _
  | k, n + 1, h => by
    rcases Nat.lt_or_ge k (n + 1) with h1 | h1
    · have := wv_prefix zs ts k n (by omega)
      rw [show wvTo zs ts (n + 1) = wvTo zs ts n ++ (ts.getD n [] ++ zs.getD (n + 1) []) from rfl, List.length_append]
      omega
    · obtain rfl : k = n + 1 := (by omega)
      exact Nat.le_refl _
theorem wv_all {a : TeA} {ks : List Te} (h : Form a ks.length) : wvTo (arY a) (ks.map Tr.ttx) ks.length = Tr.ttx (.node a ks) ∧ (arY a).length = ks.length + 1 := by
  rcases kinds_of h with e | e | e | e | e | e | e | e | e | e | e | e | e | e | e | e
  · obtain rfl := len_0 h (by omega)
    rw [ttx_1 [] e]; simp [arY, e, wvTo]
  · obtain rfl := len_0 h (by omega)
    rw [ttx_2 [] e]; simp [arY, e, wvTo]
  · obtain rfl := len_0 h (by omega)
    rw [ttx_3 [] e]; simp [arY, e, wvTo]
  · have hl := h.len
    unfold arN at hl
    rw [if_neg (by omega), if_pos e] at hl
    rcases op_cases h e with ⟨h1, u, rfl⟩ | ⟨c, h1, _, _, u, v, rfl⟩
    · have h2 : arB a.name = 1 := by simpa using hl.symm
      rw [ttx_4a e]; simp [arY, e, wvTo, opY, h1, h2]
    · have h2 : arB a.name = 2 := by simpa using hl.symm
      rw [ttx_4b e]; simp [arY, e, wvTo, opY, h1, h2]
  · have hl := h.len
    unfold arN at hl
    rw [if_neg (by omega), if_neg (by omega), if_pos e] at hl
    have h1 : 1 ≤ a.labels.length := by
      have := h.lab e
      unfold labB at this
      simp only [Bool.and_eq_true, decide_eq_true_eq] at this
      omega
    have h2 := ttx_rec (ks := ks) e [] (by omega) (by omega)
    rw [List.append_nil] at h2
    rw [h2, ← wv_rec a.labels ks 123 (by omega) (by omega)]
    refine ⟨by simp [arY, e], ?_⟩
    have h3 := fieldsY_len 123 a.labels
    simp [arY, e, h3]
    omega
  · obtain ⟨u, rfl⟩ := len_1 h (by omega)
    rw [ttx_6 e]; simp [arY, e, wvTo]
  · obtain rfl := len_0 h (by omega)
    rw [ttx_7 [] e]; simp [arY, e, wvTo]
  · obtain ⟨u, rfl⟩ := len_1 h (by omega)
    rw [ttx_8 e]; simp [arY, e, wvTo]
  · obtain ⟨u, v, rfl⟩ := len_2 h (by omega)
    rw [ttx_9 e]; simp [arY, e, wvTo]
  · obtain ⟨u, v, rfl⟩ := len_2 h (by omega)
    rw [ttx_10 e]; simp [arY, e, wvTo]
  · obtain ⟨u, v, x, rfl⟩ := len_3 h e
    rw [ttx_11 e]; simp [arY, e, wvTo]
  · obtain rfl := len_0 h (by omega)
    rw [ttx_12 [] e]; simp [arY, e, wvTo]
  · obtain ⟨u, rfl⟩ := len_1 h (by omega)
    rw [ttx_13 e]; simp [arY, e, wvTo]
  · obtain ⟨u, v, rfl⟩ := len_2 h (by omega)
    rw [ttx_14 e]; simp [arY, e, wvTo]
  · obtain ⟨u, rfl⟩ := len_1 h (by omega)
    rw [ttx_15 e]; simp [arY, e, wvTo]
  · obtain ⟨u, rfl⟩ := len_1 h (by omega)
    rw [ttx_16 e]; simp [arY, e, wvTo]
end Go.Proofs.YtkchjinfjggoeaaGreatDoor

/-
  The program's OpArity.
-/
namespace Go.Proofs.YtkchjinfjggoeaaGreatDoor
open Go.RowKit

def ArityB (s : ByteArray) (w : World) (e : Ending) (w' : World) : Prop := e = .returned (.int .i64 (arB s)) ∧ Below w.heap.size w w'
set_option maxHeartbeats 800000 in
theorem implArity_w (s : ByteArray) (w : World) : Calls Tryz.prog 143 #[.string s] w (Arity s w) := by
  have hR : ∀ k, k = arB s → Arity s w (.returned (.int .i64 k)) w := fun k h => ⟨by rw [h], rfl⟩
  have HR := Lib.hid hR
  clear hR
  cases e0 : (s.toList == [43]) with
  | true =>
    have HV : Hid ((2 : Int) = arB s) := Lib.hid (by unfold arB; simp only [e0, if_true])
    go_enter Tryz.func143, Tryz.ntmps143
    go_wp2_with fail
    go_ret
    exact HR.out _ HV.out
  | false =>
    cases e1 : (s.toList == [45]) with
    | true =>
      have HV : Hid ((2 : Int) = arB s) := Lib.hid (by unfold arB; simp only [e0, e1, if_true, Bool.false_eq_true, if_false])
      go_enter Tryz.func143, Tryz.ntmps143
      go_wp2_with fail
      go_ret
      exact HR.out _ HV.out
    | false =>
      cases e2 : (s.toList == [61]) with
      | true =>
        have HV : Hid ((2 : Int) = arB s) := Lib.hid (by unfold arB; simp only [e0, e1, e2, if_true, Bool.false_eq_true, if_false])
        go_enter Tryz.func143, Tryz.ntmps143
        go_wp2_with fail
        go_ret
        exact HR.out _ HV.out
      | false =>
        cases e3 : (s.toList == [60]) with
        | true =>
          have HV : Hid ((2 : Int) = arB s) := Lib.hid (by unfold arB; simp only [e0, e1, e2, e3, if_true, Bool.false_eq_true, if_false])
          go_enter Tryz.func143, Tryz.ntmps143
          go_wp2_with fail
          go_ret
          exact HR.out _ HV.out
        | false =>
          cases e4 : (s.toList == [38]) with
          | true =>
            have HV : Hid ((2 : Int) = arB s) := Lib.hid (by unfold arB; simp only [e0, e1, e2, e3, e4, if_true, Bool.false_eq_true, if_false])
            go_enter Tryz.func143, Tryz.ntmps143
            go_wp2_with fail
            go_ret
            exact HR.out _ HV.out
          | false =>
            cases e5 : (s.toList == [124]) with
            | true =>
              have HV : Hid ((2 : Int) = arB s) := Lib.hid (by unfold arB; simp only [e0, e1, e2, e3, e4, e5, if_true, Bool.false_eq_true, if_false])
              go_enter Tryz.func143, Tryz.ntmps143
              go_wp2_with fail
              go_ret
              exact HR.out _ HV.out
            | false =>
              cases e6 : (s.toList == [33]) with
              | true =>
                have HV : Hid ((1 : Int) = arB s) := Lib.hid (by unfold arB; simp only [e0, e1, e2, e3, e4, e5, e6, if_true, Bool.false_eq_true, if_false])
                go_enter Tryz.func143, Tryz.ntmps143
                go_wp2_with fail
                go_ret
                exact HR.out _ HV.out
              | false =>
                have HV : Hid ((0 : Int) = arB s) := Lib.hid (by unfold arB; simp only [e0, e1, e2, e3, e4, e5, e6, Bool.false_eq_true, if_false])
                go_enter Tryz.func143, Tryz.ntmps143
                go_wp2_with fail
                go_ret
                exact HR.out _ HV.out
theorem implArity_any (s : ByteArray) (w : World) : Calls Tryz.prog 143 #[.string s] w (ArityB s w) :=
  (implArity_w s w).mono fun _ _ ⟨h1, h2⟩ => ⟨h1, by subst h2; exact Below.refl _ _⟩
end Go.Proofs.YtkchjinfjggoeaaGreatDoor

/-
  Strings in a block of their own, and what keeps them; the program's textsAroundOperands and textsAroundFields.
-/
namespace Go.Proofs.YtkchjinfjggoeaaGreatDoor
open Go.RowKit

/-- the strings xs lie in the block g -/
def Arnd (xs : List (List UInt8)) (g : Nat) (W : World) : Prop := ∃ cur fz, W.heap[g]? = some (.cells cur 9 fz) ∧ ∀ (k : Nat) (x : List UInt8), xs[k]? = some x → ∃ s : ByteArray, cur[k]? = some (Value.string s) ∧ s.data.toList = x
theorem Arnd.at {xs : List (List UInt8)} {g : Nat} {W : World} (h : Arnd xs g W) {k : Nat} {x : List UInt8} (hk : xs[k]? = some x) : ∃ s : ByteArray, W.cell? ⟨g, k, none⟩ = some (Value.string s) ∧ s.data.toList = x := by
  obtain ⟨cur, fz, hh, hc⟩ := h
  obtain ⟨s, h1, h2⟩ := hc k x hk
  exact ⟨s, by rw [Lib.cell_of_heap hh]; exact h1, h2⟩
theorem Arnd.kept {xs : List (List UInt8)} {g b : Nat} {W W' : World} (h : Arnd xs g W) (hb : g ≠ b) (hk : Lib.OthersKept 5 (some b) W W') : Arnd xs g W' := by
  obtain ⟨cur, fz, hh, hc⟩ := h
  exact ⟨cur, fz, hk g _ hh (fun e => hb (Option.some.inj e)) (fun c f e => by injection e with _ e2 _; exact absurd e2 (by decide)), hc⟩
theorem kept_of_below {e : TypeId} {b : Option Nat} {W W' : World} (h : Below W.heap.size W W') : Lib.OthersKept e b W W' := by
  intro k o hk _ _
  have hlt : k < W.heap.size := (Array.getElem?_eq_some_iff.1 hk).1
  rw [h.block k hlt]
  exact hk
def RowAt (xs : List (List UInt8)) (w : World) (e : Ending) (w' : World) : Prop := ∃ g lc, e = .returned (.slice (some ⟨g, 0, none⟩) xs.length lc) ∧ Arnd xs g w' ∧ w.heap.size ≤ g ∧ Below w.heap.size w w'
theorem rowAt_lit {w W : World} (hb : Below w.heap.size w W) (ss : List ByteArray) {xs : List (List UInt8)} (h : ss.map (fun s => s.data.toList) = xs) : RowAt xs w (.returned (.slice (some ⟨W.heap.size, 0, none⟩) ss.length ss.length)) (W.alloc (.cells (ss.map Value.string).toArray 9)) := by
  subst h
  refine ⟨W.heap.size, ss.length, by rw [List.length_map], ⟨_, _, heap_alloc_new W _, fun k x hk => ?_⟩, hb.size, hb.alloc hb.size _⟩
  rw [List.getElem?_map, Option.map_eq_some_iff] at hk
  obtain ⟨s, h1, h2⟩ := hk
  exact ⟨s, by simp [h1], h2⟩
theorem rowAt_own {w W : World} {V : Value} {xs : List (List UInt8)} (h : W.ownsRow w.heap.size 9 1 V xs.length (strsV xs)) (h0 : xs.length ≠ 0) (hb : Below w.heap.size w W) : RowAt xs w (.returned V) W := by
  have h' := h
  rcases h'.2 with ⟨_, hn⟩ | ⟨g, cap, cur, rfl, hB, hh, _, _, _, htk⟩
  · exact absurd hn h0
  refine ⟨g, cap, rfl, ⟨cur, _, hh, fun k x hk => ?_⟩, hB, hb⟩
  have hlt : k < xs.length := (List.getElem?_eq_some_iff.1 hk).1
  refine ⟨bs x, ?_, rfl⟩
  have h1 : (cur.toList.take (xs.length * 1))[k]? = some (.string (bs x)) := by
    rw [htk]
    simp [strsV, hk]
  rw [List.getElem?_take, if_pos (by omega)] at h1
  simpa using h1
theorem RowAt.after {xs : List (List UInt8)} {w W : World} {e : Ending} {w' : World} (h : RowAt xs W e w') (hb : Below w.heap.size w W) : RowAt xs w e w' := by
  obtain ⟨g, lc, h1, h2, h3, h4⟩ := h
  exact ⟨g, lc, h1, h2, Nat.le_trans hb.size h3, hb.trans (h4.mono hb.size)⟩

set_option maxHeartbeats 800000 in
theorem operands_any (s : ByteArray) (w : World) (hs : s.size ≤ 1048576) : Calls Tryz.prog 138 #[.string s] w (RowAt (opY s.data.toList (decide (arB s = 1))) w) := by
  have HA := Lib.hid (implArity_w s w)
  have h1 : Hid (∀ W : World, RowAt (opY s.data.toList true) W (.returned (.slice (some ⟨W.heap.size, 0, none⟩) 2 2)) (W.alloc (.cells #[.string (⟨#[40]⟩ ++ s), .string ⟨#[41]⟩] 9))) := Lib.hid (fun W => rowAt_lit (Below.refl _ _) [⟨#[40]⟩ ++ s, ⟨#[41]⟩] (by simp [opY]))
  have h2 : Hid (∀ W : World, RowAt (opY s.data.toList false) W (.returned (.slice (some ⟨W.heap.size, 0, none⟩) 3 3)) (W.alloc (.cells #[.string ⟨#[40]⟩, .string s, .string ⟨#[41]⟩] 9))) := Lib.hid (fun W => rowAt_lit (Below.refl _ _) [⟨#[40]⟩, s, ⟨#[41]⟩] (by simp [opY]))
  have hn : (⟨#[40]⟩ ++ s : ByteArray).size = s.size + 1 := by rw [ByteArray.size_append]; show 1 + _ = _; omega
  obtain ⟨k, hk⟩ : ∃ k, arB s = k := ⟨_, rfl⟩
  unfold Arity at HA
  rw [hk] at HA ⊢
  clear hk
  by_cases h : k = 1
  · subst h
    go_enter Tryz.func138, Tryz.ntmps138
    go_wp2_with (go_at_call 143; refine HA.out.mono ?_; rintro e w1 ⟨rfl, rfl⟩)
    go_ret
    exact h1.out _
  · have hd : decide (k = 1) = false := by simp [h]
    rw [hd]
    have f1 : (k == 1) = false := by simp [h]
    clear h hd
    go_enter Tryz.func138, Tryz.ntmps138
    go_wp2_with (go_at_call 143; refine HA.out.mono ?_; rintro e w1 ⟨rfl, rfl⟩)
    go_ret
    exact h2.out _

theorem fieldsY_at : ∀ (m : UInt8) (ls : List ByteArray) (k : Nat) (h : k < ls.length), (fieldsY m ls)[k]? = some ((if k = 0 then m else 44) :: (ls[k].data.toList ++ [61]))
  | _, [], k, h => by simp at h
  | m, l :: r, 0, h => by simp [fieldsY]
  | m, l :: r, k + 1, h => by
    have ih := fieldsY_at 44 r k (by simpa using h)
    rw [fieldsY, List.getElem?_cons_succ, ih]
    simp
theorem fieldsY_last : ∀ (m : UInt8) (ls : List ByteArray), (fieldsY m ls)[ls.length]? = some [125]
  | _, [] => rfl
  | m, l :: r => by rw [fieldsY, List.length_cons, List.getElem?_cons_succ, fieldsY_last 44 r]
/-- what the loop of textsAroundFields keeps -/
def FldInv (ls : List ByteArray) (w : World) (v m i : Value) (wr : World) : Prop :=
  ∃ k : Nat, k ≤ ls.length ∧ i = .int .i64 k ∧ m = .string (bs [if k = 0 then 123 else 44]) ∧ wr.ownsRow w.heap.size 9 1 v k (strsV ((fieldsY 123 ls).take k)) ∧ Below w.heap.size w wr
theorem fldinv_more {ls : List ByteArray} {w w2 w3 : World} {A' : Option Addr} {n c' : Nat} {v' i : Value} {x : ByteArray} {wr : World} (h1 : wr.ownsRow w.heap.size 9 1 (.slice A' n c') n (strsV ((fieldsY 123 ls).take n))) (hlt : n < ls.length)
    (hx : x = bs ((if n = 0 then 123 else 44) :: (ls[n].data.toList ++ [61]))) (hb2 : Below w.heap.size w w2) (hown : w3.ownsRow w.heap.size 9 1 v' (n + 1) (strsV ((fieldsY 123 ls).take n) ++ [.string x])) (hg : w2.grownBy w3 (Value.slice A' n c').ownBlock) (hi : i = .int .i64 ((n + 1 : Nat) : Int)) :
    FldInv ls w v' (.string ⟨#[44]⟩) i w3 := by
  refine ⟨n + 1, hlt, hi, rfl, ?_, hb2.grown hg hb2.size (fun q hq => (h1.lt q hq).1)⟩
  rw [List.take_add_one, fieldsY_at 123 ls n hlt, strsV, List.map_append]
  subst hx
  exact hown

set_option maxHeartbeats 1600000 in
set_option maxRecDepth 100000 in
theorem fieldsAround_any (ls : List ByteArray) (w : World) (L : Option Addr) (c : Nat) (h : Sl w L (ls.map Value.string)) (hn : ls.length ≤ 1048576) (hx : ∀ x ∈ ls, x.size ≤ 1048576) :
    Calls Tryz.prog 139 #[.slice L ls.length c] w (RowAt (fieldsY 123 ls) w) := by
  obtain ⟨i0, hi, hz0, hz1, hz2⟩ := info_parts infoStr
  have HL := Lib.hid h
  have HX := Lib.hid hx
  have HOWN : Hid (∀ W : World, W.ownsRow w.heap.size 9 1 (.slice none 0 0) 0 (strsV ((fieldsY 123 ls).take 0))) := Lib.hid (fun W => World.ownsRow_nil _ _ _ _)
  clear h hx
  go_enter Tryz.func139, Tryz.ntmps139
  go_wp2_with fail
  go_loopw [3, 4, 9] (fun v m i wr => FldInv ls w v m i wr) (fun _ _ i _ => ls.length - (intOf i).toNat)
  case atStart => exact ⟨0, Nat.zero_le _, rfl, rfl, HOWN.out _, Below.refl _ _⟩
  case round =>
    obtain ⟨k, hk, rfl, rfl, hown, hb⟩ := hrel
    obtain ⟨V, lc, rfl⟩ := own_shape hown
    have HO := Lib.hid hown
    have HB := Lib.hid hb
    clear hown
    obtain ⟨mk, hmk⟩ : ∃ mk, bs [if k = 0 then 123 else 44] = mk := ⟨_, rfl⟩
    have hmz : mk.size = 1 := by rw [← hmk]; rfl
    rw [hmk]
    by_cases hlt : k < ls.length
    · obtain ⟨ad, rfl, hlab⟩ := (HL.out.below hb) k (.string ls[k]) (by simp [hlt])
      have hlz := HX.out ls[k] (List.getElem_mem hlt)
      have HMR : Hid (∀ (x : ByteArray) (w2 w3 : World) (v' i : Value), x = bs ((if k = 0 then 123 else 44) :: (ls[k].data.toList ++ [61])) → Below w.heap.size w w2 → w3.ownsRow w.heap.size 9 1 v' (k + 1) (strsV ((fieldsY 123 ls).take k) ++ [.string x]) → w2.grownBy w3 (Value.slice V k lc).ownBlock → i = .int .i64 ((k + 1 : Nat) : Int) → FldInv ls w v' (.string ⟨#[44]⟩) i w3) :=
        Lib.hid (fun x w2 w3 v' i hx hb2 ho hg hi => fldinv_more HO.out hlt hx hb2 ho hg hi)
      have HEQ : Hid (mk ++ ls[k] ++ ⟨#[61]⟩ = bs ((if k = 0 then 123 else 44) :: (ls[k].data.toList ++ [61]))) := Lib.hid (by
        rw [← hmk]
        apply ByteArray.ext
        apply Array.ext'
        simp [bs])
      obtain ⟨lab, hlb⟩ : ∃ lab, ls[k] = lab := ⟨_, rfl⟩
      rw [hlb] at hlab hlz HEQ HMR
      have hn1 : (mk ++ lab : ByteArray).size = lab.size + 1 := by rw [ByteArray.size_append, hmz]; omega
      have hsl := Lib.hid (sl_one wr (.string (mk ++ lab ++ ⟨#[61]⟩)) 9)
      have O3 := Lib.hid (HO.out.alloc (.cells #[.string (mk ++ lab ++ ⟨#[61]⟩)] 9))
      have HB3 := Lib.hid (hb.alloc hb.size (.cells #[.string (mk ++ lab ++ ⟨#[61]⟩)] 9))
      have HOC : Hid (∀ u ∈ [Value.string (mk ++ lab ++ ⟨#[61]⟩)], u.oneCell' = true) := Lib.hid (one_str _)
      clear hb hmk hlb
      go_wp2_with (at_builtin; refine wpList_append_sl _ rfl (.tmp 13) (.tmp 18) 24 rfl w.heap.size 9 i0 _ 16 Tryz.underlying24 hi hz0 hz1 hz2 rfl (.slice V k lc) k (strsV ((fieldsY 123 ls).take k)) rfl O3.out (some ⟨wr.heap.size, 0, none⟩) 1 1 [.string (mk ++ lab ++ ⟨#[61]⟩)] rfl rfl hsl.out HOC.out (by unfold maxLen; omega) (by omega) HB3.out.size ?_; intro v5 w5 hown5 hg5 hor5; have HMM := Lib.hid (fun i hi => HMR.out _ _ _ v5 i HEQ.out HB3.out hown5 hg5 hi); clear hown5 hg5 hor5)
      go_roundw
      case rel => exact HMM.out _ (by go_num)
      case measure => simp [intOf]; omega
    · have he : k = ls.length := by omega
      subst he
      have hlen := fieldsY_len 123 ls
      have HR : Hid (∀ (w2 w3 : World) (v' : Value), Below w.heap.size w w2 → w3.ownsRow w.heap.size 9 1 v' (ls.length + 1) (strsV ((fieldsY 123 ls).take ls.length) ++ [.string ⟨#[125]⟩]) → w2.grownBy w3 (Value.slice V ls.length lc).ownBlock → RowAt (fieldsY 123 ls) w (.returned v') w3) := Lib.hid (by
        intro w2 w3 v' hb2 ho hg
        have h1 : strsV ((fieldsY 123 ls).take ls.length) ++ [Value.string ⟨#[125]⟩] = strsV (fieldsY 123 ls) := by
          have h3 : (fieldsY 123 ls).take (ls.length + 1) = fieldsY 123 ls := List.take_of_length_le (by omega)
          rw [List.take_add_one, fieldsY_last] at h3
          rw [show strsV (fieldsY 123 ls) = strsV ((fieldsY 123 ls).take ls.length ++ [[125]]) from congrArg strsV h3.symm]
          simp [strsV, bs]
        rw [h1, ← hlen] at ho
        exact rowAt_own ho (by omega) (hb2.grown hg hb2.size (fun q hq => (HO.out.lt q hq).1)))
      have hsl := Lib.hid (sl_one wr (.string ⟨#[125]⟩) 9)
      have O3 := Lib.hid (HO.out.alloc (.cells #[.string ⟨#[125]⟩] 9))
      have HB3 := Lib.hid (hb.alloc hb.size (.cells #[.string ⟨#[125]⟩] 9))
      have HOC : Hid (∀ u ∈ [Value.string ⟨#[125]⟩], u.oneCell' = true) := Lib.hid (one_str _)
      clear hb hmk hlen hk
      go_wp2_with (at_builtin; refine wpList_append_sl _ rfl (.tmp 21) (.tmp 22) 24 rfl w.heap.size 9 i0 _ 16 Tryz.underlying24 hi hz0 hz1 hz2 rfl (.slice V ls.length lc) ls.length (strsV ((fieldsY 123 ls).take ls.length)) rfl O3.out (some ⟨wr.heap.size, 0, none⟩) 1 1 [.string ⟨#[125]⟩] rfl rfl hsl.out HOC.out (by unfold maxLen; omega) (by omega) HB3.out.size ?_; intro v5 w5 hown5 hg5 hor5; have HMM := Lib.hid (HR.out _ _ v5 HB3.out hown5 hg5); clear hown5 hg5 hor5)
      go_ret
      exact HMM.out
end Go.Proofs.YtkchjinfjggoeaaGreatDoor
