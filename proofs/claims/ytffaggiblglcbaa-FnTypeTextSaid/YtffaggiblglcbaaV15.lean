/-
  Merged by program: Jn, Txt, JoinC.
-/
import Derived.Test.YtffaggiblglcbaaV1
import Derived.Lib.Join
import Derived.Test.YtffaggiblglcbaaV10
import Derived.Test.YtffaggiblglcbaaV2
import Derived.Lib.AppendStr
import Derived.Laws.IdiomStrings
import Derived.Laws.BytesArg

/-
  Lists of strings joined by a separator, as lists of bytes.
-/
namespace Go.Proofs.Ytffaggiblglcbaa
open Go.RowKit

/-- the text of a list, the separator between its elements -/
def jn (xs : List ByteArray) (sp : ByteArray) : List UInt8 := Lib.join (xs.map (·.data.toList)) sp.data.toList
theorem jn_zero (xs : List ByteArray) (sp : ByteArray) : jn (xs.take 0) sp = [] := by simp [jn, Lib.join_nil]
theorem jn_one (xs : List ByteArray) (sp x : ByteArray) (h : xs[0]? = some x) : jn (xs.take 1) sp = x.data.toList := by
  rw [show xs.take 1 = [x] from by rw [List.take_add_one, h]; simp]
  simp [jn, Lib.join_one]
theorem jn_succ (xs : List ByteArray) (sp x : ByteArray) (k : Nat) (h : xs[k + 1]? = some x) : jn (xs.take (k + 2)) sp = jn (xs.take (k + 1)) sp ++ sp.data.toList ++ x.data.toList := by
  cases xs with
  | nil => simp at h
  | cons y r =>
    have hr : (r.map (·.data.toList))[k]? = some x.data.toList := by
      rw [List.getElem?_cons_succ] at h
      rw [List.getElem?_map, h]; rfl
    have := Lib.joinTail_take_succ sp.data.toList (r.map (·.data.toList)) k x.data.toList hr
    simp only [jn, List.take_succ_cons, List.map_cons, Lib.join_cons, List.map_take]
    rw [this]
    simp [List.append_assoc]
theorem jn_more (xs : List ByteArray) (sp x : ByteArray) (k : Nat) (hk : 0 < k) (h : xs[k]? = some x) : jn (xs.take (k + 1)) sp = jn (xs.take k) sp ++ sp.data.toList ++ x.data.toList := by
  obtain ⟨j, rfl⟩ : ∃ j, k = j + 1 := ⟨k - 1, by omega⟩
  exact jn_succ xs sp x j h
theorem lens_total (xs : List ByteArray) : Lib.lens (xs.map (·.data.toList)) = total xs := by
  unfold Lib.lens total
  rw [List.map_map]
  congr 1
theorem jn_len (xs : List ByteArray) (sp : ByteArray) : (jn xs sp).length ≤ xs.length * sp.size + total xs := by
  cases xs with
  | nil => simp [jn, Lib.join_nil]
  | cons y r =>
    have h1 := lens_total (y :: r)
    unfold jn
    rw [List.map_cons] at h1 ⊢
    rw [Lib.join_length, h1, size_data, List.length_map, Nat.mul_comm]
    have : r.length * sp.size ≤ (y :: r).length * sp.size := Nat.mul_le_mul_right _ (by simp)
    omega
theorem jn_take_len (xs : List ByteArray) (sp : ByteArray) (k : Nat) : (jn (xs.take k) sp).length ≤ xs.length * sp.size + total xs := by
  have h1 := jn_len (xs.take k) sp
  have h2 := total_take_le xs k
  have h3 : (xs.take k).length * sp.size ≤ xs.length * sp.size := Nat.mul_le_mul_right _ (by rw [List.length_take]; omega)
  omega

end Go.Proofs.Ytffaggiblglcbaa

/-
  The text of a type. Hangs on no function of the program.
-/
namespace Go.Proofs.Ytffaggiblglcbaa
open Go.RowKit

/-- bytes as a string -/
def bs (l : List UInt8) : ByteArray := ⟨l.toArray⟩
theorem bs_data (l : List UInt8) : (bs l).data.toList = l := rfl
theorem bs_size (l : List UInt8) : (bs l).size = l.length := rfl
theorem bs_of (s : ByteArray) : bs s.data.toList = s := rfl
theorem bs_app (s : ByteArray) (l : List UInt8) : s ++ bs l = bs (s.data.toList ++ l) := by
  apply ByteArray.ext
  apply Array.ext'
  simp [bs]
theorem bs_bs (l m : List UInt8) : bs l ++ bs m = bs (l ++ m) := bs_app (bs l) m

/-- a part's text: within a record its label stands ahead of it -/
def partT (a : TyA) (i : Nat) (s : List UInt8) : List UInt8 := if a.kind = 3 then (a.labels.getD i ⟨#[]⟩).data.toList ++ 58 :: s else s
/-- a node's text, out of those of its parts -/
def nodeT (q : Int) (ps : List (List UInt8)) : List UInt8 :=
  if q = 1 then [73] else if q = 2 then [66] else if q = 3 then 123 :: (Lib.join ps [44] ++ [125]) else if q = 4 then 91 :: (ps.getD 0 [] ++ [93]) else 40 :: (Lib.join ps [62] ++ [41])
def Tr.txt : Ty → List UInt8
  | .node a ks => nodeT a.kind ((ks.attach.map fun ⟨t, _⟩ => t.txt).mapIdx (partT a))
def partsT (a : TyA) (ks : List Ty) : List (List UInt8) := (ks.map Tr.txt).mapIdx (partT a)
theorem txt_node (a : TyA) (ks : List Ty) : Tr.txt (.node a ks) = nodeT a.kind (partsT a ks) := by
  rw [Tr.txt, partsT]
  congr 2
  exact List.attach_map_val (l := ks) (f := Tr.txt) ▸ rfl
theorem partsT_len (a : TyA) (ks : List Ty) : (partsT a ks).length = ks.length := by simp [partsT]
theorem partsT_at (a : TyA) (ks : List Ty) (k : Nat) (h : k < ks.length) : (partsT a ks)[k]? = some (partT a k ks[k].txt) := by
  unfold partsT
  rw [List.getElem?_mapIdx, List.getElem?_map, List.getElem?_eq_getElem h]
  rfl
theorem partsT_take (a : TyA) (ks : List Ty) (k : Nat) (h : k < ks.length) : (partsT a ks).take (k + 1) = (partsT a ks).take k ++ [partT a k ks[k].txt] := by
  rw [List.take_add_one, partsT_at a ks k h]
  rfl
def lenS (ps : List (List UInt8)) : Nat := (ps.map List.length).sum
theorem lenS_app (a b : List (List UInt8)) : lenS (a ++ b) = lenS a + lenS b := by simp [lenS]
theorem lenS_lens (ps : List (List UInt8)) : Lib.lens ps = lenS ps := rfl
theorem total_bs (ps : List (List UInt8)) : total (ps.map bs) = lenS ps := by
  unfold total lenS
  rw [List.map_map]
  congr 1
theorem total_take_more (ls : List ByteArray) (k : Nat) : total (ls.take k) + (ls.getD k ⟨#[]⟩).size = total (ls.take (k + 1)) := by
  unfold total
  rw [List.take_add_one]
  cases h : ls[k]? with
  | none => simp [List.getD, h]; rfl
  | some x => simp [List.getD, h]
theorem join_le (ps : List (List UInt8)) (c : UInt8) : (Lib.join ps [c]).length ≤ lenS ps + ps.length := by
  cases ps with
  | nil => simp [Lib.join_nil]
  | cons x r =>
    rw [Lib.join_length, lenS_lens]
    simp
    omega
/-- the texts of the first parts are bounded by what the type takes -/
theorem parts_le (a : TyA) (ks : List Ty) (ih : ∀ t ∈ ks, t.txt.length ≤ 4 * wt t + 2) : ∀ k, k ≤ ks.length → lenS ((partsT a ks).take k) ≤ total (a.labels.take k) + 3 * k + 4 * ((ks.take k).map wt).sum
  | 0, _ => by simp [lenS]
  | k + 1, h => by
    have h1 := parts_le a ks ih k (by omega)
    have hk : k < ks.length := h
    have h2 := total_take_more a.labels k
    have h3 := sum_take_succ wt ks k hk
    have h4 := ih ks[k] (List.getElem_mem hk)
    rw [partsT_take a ks k hk, lenS_app, h3, ← h2]
    have h5 : (partT a k ks[k].txt).length ≤ (a.labels.getD k ⟨#[]⟩).size + 1 + ks[k].txt.length := by
      unfold partT
      split
      · rw [List.length_append, size_data, List.length_cons]; omega
      · omega
    have h6 : lenS [partT a k ks[k].txt] = (partT a k ks[k].txt).length := by simp [lenS]
    omega
theorem txt_le : ∀ t : Ty, t.txt.length ≤ 4 * wt t + 2 := by
  refine Tr.ind ?_
  intro a ks ih
  have h1 := parts_le a ks ih ks.length (Nat.le_refl _)
  rw [List.take_of_length_le (by rw [partsT_len]; exact Nat.le_refl _), List.take_length] at h1
  have h2 := total_take_le a.labels ks.length
  rw [txt_node, wt_node]
  unfold wtA wtK
  have h3 := join_le (partsT a ks) 44
  have h4 := join_le (partsT a ks) 62
  rw [partsT_len] at h3 h4
  unfold nodeT
  split
  · simp
  · split
    · simp
    · split
      · simp; omega
      · split
        · have h5 : ((partsT a ks).getD 0 []).length ≤ lenS (partsT a ks) := by
            cases hp : partsT a ks with
            | nil => simp
            | cons x r => simp [lenS]
          simp only [List.length_cons, List.length_append, List.length_nil]
          omega
        · simp; omega
theorem parts_all (a : TyA) (ks : List Ty) : lenS (partsT a ks) + ks.length ≤ 4 * wt (.node a ks) := by
  have h1 := parts_le a ks (fun t _ => txt_le t) ks.length (Nat.le_refl _)
  rw [List.take_of_length_le (by rw [partsT_len]; exact Nat.le_refl _), List.take_length] at h1
  have h2 := total_take_le a.labels ks.length
  rw [wt_node]
  unfold wtA wtK
  omega
/-- what FormatType gives -/
def txtV (t : Ty) : List UInt8 := if validB t = true then t.txt else []
end Go.Proofs.Ytffaggiblglcbaa

/-
  The model's Join: the elements with the separator between them, built by appends; and the program's.
-/
namespace Go.Proofs.Ytffaggiblglcbaa
open Go.RowKit

theorem infoByte : (Try.prog.info? 5).map (fun i => (i.zero, i.size, i.bytes)) = some (some (.int .u8 0), 1, 1) := by kernel_rfl

/-- a text out of the bytes that a call has collected -/
theorem run_text_own {w : World} {base : Nat} {v : Value} {l : List UInt8} (h : w.ownsRow base 5 1 v l.length (bcells l)) :
    (convert 22 9 v).run Try.prog w = .ok (.string ⟨l.toArray⟩) w := by
  rcases h.2 with ⟨rfl, h2⟩ | ⟨g, cap, cur, rfl, _⟩
  · have : l = [] := List.eq_nil_of_length_eq_zero h2
    subst this
    exact run_convert_bytes_nil (w := w) 22 5 Try.underlying22 Try.underlying5 0 0 _ Try.underlying9
  · refine run_convert_bytes_back (P := Try.prog) w 22 9 5 ⟨g, 0, none⟩ cap l Try.underlying22 Try.underlying5 Try.underlying9 (fun j hj => ?_)
    exact h.cells (g := g) rfl j _ (by simp [bcells, hj])

set_option maxHeartbeats 1600000 in
theorem specJoin_any (A : Option Addr) (c : Nat) (xs : List ByteArray) (sp : ByteArray) (w : World) (h : Sl w A (xs.map Value.string)) (hn : xs.length ≤ 1048576)
    (hsp : sp.size ≤ 35184372088832) (hsz : xs.length * sp.size + total xs ≤ 35184372088832) :
    Calls Try.prog 61 #[.slice A xs.length c, .string sp] w (Text (jn xs sp) w) := by
  obtain ⟨i0, hi, hz0, hz1, hz2⟩ := info_parts infoByte
  have hle : xs.length ≤ 9223372036854775807 := by omega
  go_enter Try.func61, Try.ntmps61
  go_wp2
  go_loopw [5, 6] (fun v i wr => ∃ k : Nat, k ≤ xs.length ∧ i = .int .i64 k ∧ wr.ownsRow w.heap.size 5 1 v (jn (xs.take k) sp).length (bcells (jn (xs.take k) sp)) ∧ Below w.heap.size w wr) (fun _ i _ => xs.length - (intOf i).toNat)
  case atStart =>
    refine ⟨0, Nat.zero_le _, rfl, ?_, (Below.refl _ _).alloc (Nat.le_refl _) _⟩
    rw [jn_zero]
    exact World.ownsRow_made w #[] 0 (Nat.le_refl _) (by unfold maxLen; omega) rfl
  case round =>
    obtain ⟨k, hk, rfl, hown, hb⟩ := hrel
    by_cases hlt : k < xs.length
    · obtain ⟨ad, rfl, hc0⟩ := h k (.string xs[k]) (by simp [hlt])
      have hblk := World.block_lt_of_cell? w _ hc0
      have hL := jn_take_len xs sp k
      have hX : xs[k].size ≤ 35184372088832 := by
        have h1 := total_take_succ xs k xs[k] (List.getElem?_eq_getElem hlt)
        have h2 := total_take_le xs (k + 1)
        omega
      have hsize := hb.size
      by_cases hk0 : k = 0
      · subst hk0
        have hj1 := jn_one xs sp xs[0] (List.getElem?_eq_getElem hlt)
        rw [jn_zero] at hown
        have hc : wr.cell? ad = some (.string xs[0]) := by have := (hb.cell hblk).trans hc0; simpa [Addr.add] using this
        have HJ := Lib.hid hj1
        clear hj1 hL hc0
        go_wp2_with (at_builtin; refine Lib.wpList_append_own_string _ rfl (.tmp 19) (.tmp 23) 22 9 rfl w.heap.size 5 i0 Try.underlying22 Try.underlying9 hi hz0 hz1 hz2 u5 _ _ rfl hown xs[0] rfl (by simp only [List.length_nil, maxLen]; omega) (by simp only [List.length_nil]; omega) hsize ?_; intro v' w1 hown1 hg1 _)
        have hb1 : Below w.heap.size w w1 := hb.grown hg1 hsize (fun g hg => (hown.lt g hg).1)
        have HO : Hid (w1.ownsRow w.heap.size 5 1 v' (jn (xs.take (0 + 1)) sp).length (bcells (jn (xs.take (0 + 1)) sp))) := by
          rw [show (0 + 1) = 1 from rfl, HJ.out, size_data]
          have e : bcells [] = [] := rfl
          simpa [bcells_str, e, Hid] using hown1
        clear hown1 hown
        go_wp2
        go_roundw
        case rel => exact ⟨0 + 1, by omega, by go_num, HO.out, hb1⟩
        case measure => simp [intOf]; omega
      · have hkp : 0 < k := by omega
        have hj1 := jn_more xs sp xs[k] k hkp (List.getElem?_eq_getElem hlt)
        have HJ := Lib.hid hj1
        clear hj1 hk0
        go_wp2_with (first
          | (at_builtin; refine Lib.wpList_append_own_string _ rfl (.tmp 16) (.tmp 17) 22 9 rfl w.heap.size 5 i0 Try.underlying22 Try.underlying9 hi hz0 hz1 hz2 u5 _ _ rfl hown sp rfl (by simp only [maxLen]; omega) (by omega) hsize ?_; intro v1 w1 hown1 hg1 _; have hb1 : Below w.heap.size w w1 := hb.grown hg1 hsize (fun g hg => (hown.lt g hg).1); have hsize1 := hb1.size; have hc : w1.cell? (ad.add k) = some (.string xs[k]) := (hb1.cell hblk).trans hc0)
          | (at_builtin; refine Lib.wpList_append_own_string _ rfl (.tmp 19) (.tmp 23) 22 9 rfl w.heap.size 5 i0 Try.underlying22 Try.underlying9 hi hz0 hz1 hz2 v1 _ _ rfl hown1 xs[k] rfl (by simp only [maxLen]; omega) (by omega) hsize1 ?_; intro v2 w2 hown2 hg2 _; have hb2 : Below w.heap.size w w2 := hb1.grown hg2 hsize1 (fun g hg => (hown1.lt g hg).1)))
        have HO : Hid (w2.ownsRow w.heap.size 5 1 v2 (jn (xs.take (k + 1)) sp).length (bcells (jn (xs.take (k + 1)) sp))) := by
          rw [HJ.out]
          simpa [bcells_str, bcells_app, size_data, Nat.add_assoc, Hid] using hown2
        clear hown1 hown2 hown hc0
        go_roundw
        case rel => exact ⟨k + 1, by omega, by go_num, HO.out, hb2⟩
        case measure => simp [intOf]; omega
    · have he : k = xs.length := by omega
      subst he
      rw [List.take_length] at hown
      have hcv := run_text_own hown
      have HO := Lib.hid hown
      clear hown
      go_wp2
      go_ret
      exact ⟨rfl, hb⟩
end Go.Proofs.Ytffaggiblglcbaa
