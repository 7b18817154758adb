/-
  Merged by program: FmtI, TabB, JoinI, Kind, NameI.
-/
import Derived.Test.YtkchjinfjggoeaaGreatDoorF16
import Derived.Test.YtkchjinfjggoeaaGreatDoorShelf
import Derived.Test.YtkchjinfjggoeaaGreatDoorF1
import Derived.Test.YtkchjinfjggoeaaGreatDoorRows
import Derived.Deep.DeepHandedRow
import Derived.Lib.LaidTab
import Derived.Test.YtkchjinfjggoeaaGreatDoorF11
import Derived.Test.YtkchjinfjggoeaaGreatDoorF7
import Derived.Test.YtkchjinfjggoeaaGreatDoorF3

/-
  The program's FormatInt, by the library's contract; the table of powers that the row lists.
-/
namespace Go.Proofs.YtkchjinfjggoeaaGreatDoor
open Go.RowKit

theorem laidMet_tail {P : Program} {x : String × DataW Unit} {r : List (String × DataW Unit)} {W : World} (h : laidMet P (x :: r) W) : laidMet P r W := by
  obtain ⟨ps, hv, hn, hp⟩ := h
  obtain ⟨n, d⟩ := x
  obtain ⟨g, t, cs, fuel, p, q, _, _, _, _, hq, rfl⟩ := hv
  exact ⟨q, hq, (List.nodup_append.1 hn).2.1, fun b off hm => hp b off (List.mem_append_right _ hm)⟩

theorem gPow : Tryz.prog.globalNamed "internal/strconv.uint64pow10" = some 2 := by kernel_rfl
theorem gPowType : (Tryz.prog.globals[2]?).map (·.type) = some 233 := by kernel_rfl
theorem cellsPow : Tryz.prog.cellsOf 233 = 20 := by kernel_rfl
theorem cellsU64 : Tryz.prog.cellsOf 216 = 1 := by kernel_rfl

theorem pow_of_laid {W : World} {rest : List (String × DataW Unit)} (h : laidMet Tryz.prog (("internal/strconv.uint64pow10", Rows.laid_internal_strconv_uint64pow10) :: rest) W) : Lib.TabIs Tryz.prog W "internal/strconv.uint64pow10" .u64 Lib.pow10Tab :=
  Lib.tabIs_of_head gPow gPowType Tryz.underlying233 Tryz.underlying216 cellsU64 cellsPow (show laidMet Tryz.prog (("internal/strconv.uint64pow10", Lib.tabData .u64 Lib.pow10Tab) :: rest) W from h)

theorem below_grown_by (w : World) (k : Nat) (os : Array Obj) : Below w.heap.size w (Sort.grow (w.drewN k) os) :=
  ⟨rfl, rfl, rfl, by show w.heap.size ≤ (w.heap ++ os).size; rw [Array.size_append]; omega, fun j hj => by
    show (w.heap ++ os)[j]? = w.heap[j]?
    exact Array.getElem?_append_left hj⟩

theorem implFmtInt_any (n : Int) (h0 : -9223372036854775808 ≤ n) (h1 : n ≤ 9223372036854775807) (w : World) (htab : Lib.TabIs Tryz.prog w "internal/strconv.uint64pow10" .u64 Lib.pow10Tab) :
    Calls Tryz.prog 137 #[.int .i64 n] w (Text (Lib.itoa n) w) := by
  have HT := Lib.hid htab
  clear htab
  go_enter Tryz.func137, Tryz.ntmps137
  go_wp2_with (go_at_call 167; refine (Tryz.strconv_Itoa n h0 h1 _ HT.out).mono ?_; rintro e w' ⟨rfl, k, os, rfl⟩)
  go_ret
  exact ⟨rfl, below_grown_by _ _ _⟩

theorem tab_below {w w' : World} {name : String} {k : IntKind} {zs : List Int} {g : Nat} (hg : Tryz.prog.globalNamed name = some g) (hlt : g < w.heap.size) (h : Lib.TabIs Tryz.prog w name k zs) (hb : Below w.heap.size w w') : Lib.TabIs Tryz.prog w' name k zs := by
  unfold Lib.TabIs World.var? at h ⊢
  rw [hg] at h ⊢
  simpa [hb.block g hlt] using h

end Go.Proofs.YtkchjinfjggoeaaGreatDoor

/-
  The table of powers in memory; the program's textOfBool.
-/
namespace Go.Proofs.YtkchjinfjggoeaaGreatDoor
open Go.RowKit Go.Shelf

/-- the table of powers lies in memory -/
def TabOk (w : World) : Prop := Lib.TabIs Tryz.prog w "internal/strconv.uint64pow10" .u64 Lib.pow10Tab ∧ 2 < w.heap.size
theorem TabOk.keep {w w' : World} (h : TabOk w) (hb : Below w.heap.size w w') : TabOk w' := ⟨tab_below gPow h.2 h.1 hb, Nat.lt_of_lt_of_le h.2 hb.size⟩

def boolT (q : Int) : List UInt8 := [35, if q = 1 then 116 else 102]
theorem textBool_any (q : Int) (w : World) : Calls Tryz.prog 106 #[.int .i64 q] w (Text (boolT q) w) := by
  by_cases h : q = 1
  · subst h
    go_enter Tryz.func106, Tryz.ntmps106
    go_wp2_with fail
    go_ret
    exact ⟨rfl, Below.refl _ _⟩
  · have HR : Hid (Text (boolT q) w (.returned (.string ⟨#[35, 102]⟩)) w) := Lib.hid ⟨by unfold boolT; rw [if_neg h], Below.refl _ _⟩
    have f1 : (q == 1) = false := by simp [h]
    clear h
    go_enter Tryz.func106, Tryz.ntmps106
    go_wp2_with fail
    go_ret
    exact HR.out


end Go.Proofs.YtkchjinfjggoeaaGreatDoor

/-
  The program's Join, by the library's contract.
-/
namespace Go.Proofs.YtkchjinfjggoeaaGreatDoor
open Go.RowKit

set_option maxHeartbeats 400000 in
theorem implJoin_any (g c : Nat) (xs : List ByteArray) (sp : ByteArray) (w : World) (h : Sl w (some ⟨g, 0, none⟩) (xs.map Value.string)) (hc : xs.length ≤ c) (hn : xs.length ≤ 1048576)
    (hsz : xs.length * sp.size + total xs ≤ 35184372088832) :
    Calls Tryz.prog 188 #[.slice (some ⟨g, 0, none⟩) xs.length c, .string sp] w (Text (jn xs sp) w) := by
  have hl := jn_len xs sp
  rcases Nat.eq_zero_or_pos xs.length with h0 | h0
  · obtain rfl : xs = [] := List.eq_nil_of_length_eq_zero h0
    go_enter Tryz.func188, Tryz.ntmps188
    go_wp2_with (go_at_call 201; refine (Tryz.strings_Join_none _ _ _ _).mono ?_; rintro e w' ⟨rfl, rfl⟩)
    go_ret
    exact ⟨rfl, Below.refl _ _⟩
  · have hcells : ∀ (j : Nat) x, xs[j]? = some x → w.cell? ⟨g, 0 + j, none⟩ = some (.string x) := by
      intro j x hj
      obtain ⟨ad, e, hcc⟩ := h j (.string x) (by simp [hj])
      injection e with e
      subst e
      rwa [Addr.add_lit] at hcc
    have hbk : g < w.heap.size := World.block_lt_of_cell? w _ (hcells 0 xs[0] (List.getElem?_eq_getElem h0))
    have HC := Lib.hid hcells
    clear hcells h
    go_enter Tryz.func188, Tryz.ntmps188
    go_wp2_with (go_at_call 201; refine (Tryz.strings_Join g 0 c xs sp _ HC.out hbk (by omega) hc (by show (jn xs sp).length ≤ _; omega)).mono ?_; rintro e w' ⟨rfl, hb⟩)
    go_ret
    exact ⟨rfl, hb⟩

end Go.Proofs.YtkchjinfjggoeaaGreatDoor

/-
  The program's kindOfType.
-/
namespace Go.Proofs.YtkchjinfjggoeaaGreatDoor
open Go.RowKit

/-- the type that stands for a kind -/
def kindT (q : Int) : TypeId := if q = 1 then 190 else if q = 2 then 191 else if q = 3 then 192 else if q = 4 then 194 else if q = 5 then 195 else 209
def KindIs (q : Int) (cs : List Value) (w : World) (e : Ending) (w' : World) : Prop := e = .returned (.iface (kindT q) (.agg cs.toArray)) ∧ Below w.heap.size w w'

set_option maxRecDepth 100000 in
set_option maxHeartbeats 800000 in
theorem kind_of (q : Int) (c1 c2 : Value) (w : World) : Calls Tryz.prog 187 #[.agg #[.int .i64 q, c1, c2]] w (KindIs q [.int .i64 q, c1, c2] w) := by
  have HR : Hid (∀ k, k = kindT q → KindIs q [.int .i64 q, c1, c2] w (.returned (.iface k (.agg #[.int .i64 q, c1, c2]))) (w.alloc (.cells #[.int .i64 q, c1, c2] 27))) := by
    rintro k rfl
    exact ⟨rfl, (Below.refl _ _).alloc (Nat.le_refl _) _⟩
  go_enter Tryz.func187, Tryz.ntmps187
  go_wp2_with fail
  · rename_i h
    go_ret
    exact HR.out 190 (by rw [eq_of_beq h]; rfl)
  · rename_i h
    go_ret
    exact HR.out 191 (by rw [eq_of_beq h]; rfl)
  · rename_i h
    go_ret
    exact HR.out 192 (by rw [eq_of_beq h]; rfl)
  · rename_i h
    go_ret
    exact HR.out 194 (by rw [eq_of_beq h]; rfl)
  · rename_i h
    go_ret
    exact HR.out 195 (by rw [eq_of_beq h]; rfl)
  · rename_i h1 h2 h3 h4 h5
    go_ret
    exact HR.out 209 (by unfold kindT; simp [ne_of_beq_false h1, ne_of_beq_false h2, ne_of_beq_false h3, ne_of_beq_false h4, ne_of_beq_false h5])
/-! what a test of the type gives -/
theorem as_rec_1 (v : Value) (w : World) : (Instr.typeAssert (.iface 190 v) 188 192 true).run Tryz.prog w = .ok (.tuple #[.agg #[.int .i64 0, .slice none 0 0, .slice none 0 0], .bool false]) w := by kernel_rfl
theorem as_rec_2 (v : Value) (w : World) : (Instr.typeAssert (.iface 191 v) 188 192 true).run Tryz.prog w = .ok (.tuple #[.agg #[.int .i64 0, .slice none 0 0, .slice none 0 0], .bool false]) w := by kernel_rfl
theorem as_rec_3 (v : Value) (w : World) : (Instr.typeAssert (.iface 192 v) 188 192 true).run Tryz.prog w = .ok (.tuple #[v, .bool true]) w := by kernel_rfl
theorem as_rec_4 (v : Value) (w : World) : (Instr.typeAssert (.iface 194 v) 188 192 true).run Tryz.prog w = .ok (.tuple #[.agg #[.int .i64 0, .slice none 0 0, .slice none 0 0], .bool false]) w := by kernel_rfl
theorem as_rec_5 (v : Value) (w : World) : (Instr.typeAssert (.iface 195 v) 188 192 true).run Tryz.prog w = .ok (.tuple #[.agg #[.int .i64 0, .slice none 0 0, .slice none 0 0], .bool false]) w := by kernel_rfl
theorem as_rec_6 (v : Value) (w : World) : (Instr.typeAssert (.iface 209 v) 188 192 true).run Tryz.prog w = .ok (.tuple #[.agg #[.int .i64 0, .slice none 0 0, .slice none 0 0], .bool false]) w := by kernel_rfl
theorem as_bag_1 (v : Value) (w : World) : (Instr.typeAssert (.iface 190 v) 188 194 true).run Tryz.prog w = .ok (.tuple #[.agg #[.int .i64 0, .slice none 0 0, .slice none 0 0], .bool false]) w := by kernel_rfl
theorem as_bag_2 (v : Value) (w : World) : (Instr.typeAssert (.iface 191 v) 188 194 true).run Tryz.prog w = .ok (.tuple #[.agg #[.int .i64 0, .slice none 0 0, .slice none 0 0], .bool false]) w := by kernel_rfl
theorem as_bag_3 (v : Value) (w : World) : (Instr.typeAssert (.iface 192 v) 188 194 true).run Tryz.prog w = .ok (.tuple #[.agg #[.int .i64 0, .slice none 0 0, .slice none 0 0], .bool false]) w := by kernel_rfl
theorem as_bag_4 (v : Value) (w : World) : (Instr.typeAssert (.iface 194 v) 188 194 true).run Tryz.prog w = .ok (.tuple #[v, .bool true]) w := by kernel_rfl
theorem as_bag_5 (v : Value) (w : World) : (Instr.typeAssert (.iface 195 v) 188 194 true).run Tryz.prog w = .ok (.tuple #[.agg #[.int .i64 0, .slice none 0 0, .slice none 0 0], .bool false]) w := by kernel_rfl
theorem as_bag_6 (v : Value) (w : World) : (Instr.typeAssert (.iface 209 v) 188 194 true).run Tryz.prog w = .ok (.tuple #[.agg #[.int .i64 0, .slice none 0 0, .slice none 0 0], .bool false]) w := by kernel_rfl
theorem as_fun_1 (v : Value) (w : World) : (Instr.typeAssert (.iface 190 v) 188 195 true).run Tryz.prog w = .ok (.tuple #[.agg #[.int .i64 0, .slice none 0 0, .slice none 0 0], .bool false]) w := by kernel_rfl
theorem as_fun_2 (v : Value) (w : World) : (Instr.typeAssert (.iface 191 v) 188 195 true).run Tryz.prog w = .ok (.tuple #[.agg #[.int .i64 0, .slice none 0 0, .slice none 0 0], .bool false]) w := by kernel_rfl
theorem as_fun_3 (v : Value) (w : World) : (Instr.typeAssert (.iface 192 v) 188 195 true).run Tryz.prog w = .ok (.tuple #[.agg #[.int .i64 0, .slice none 0 0, .slice none 0 0], .bool false]) w := by kernel_rfl
theorem as_fun_4 (v : Value) (w : World) : (Instr.typeAssert (.iface 194 v) 188 195 true).run Tryz.prog w = .ok (.tuple #[.agg #[.int .i64 0, .slice none 0 0, .slice none 0 0], .bool false]) w := by kernel_rfl
theorem as_fun_5 (v : Value) (w : World) : (Instr.typeAssert (.iface 195 v) 188 195 true).run Tryz.prog w = .ok (.tuple #[v, .bool true]) w := by kernel_rfl
theorem as_fun_6 (v : Value) (w : World) : (Instr.typeAssert (.iface 209 v) 188 195 true).run Tryz.prog w = .ok (.tuple #[.agg #[.int .i64 0, .slice none 0 0, .slice none 0 0], .bool false]) w := by kernel_rfl
theorem as_int_1 (v : Value) (w : World) : (Instr.typeAssert (.iface 190 v) 188 190 true).run Tryz.prog w = .ok (.tuple #[v, .bool true]) w := by kernel_rfl
theorem as_int_2 (v : Value) (w : World) : (Instr.typeAssert (.iface 191 v) 188 190 true).run Tryz.prog w = .ok (.tuple #[.agg #[.int .i64 0, .slice none 0 0, .slice none 0 0], .bool false]) w := by kernel_rfl
theorem as_int_3 (v : Value) (w : World) : (Instr.typeAssert (.iface 192 v) 188 190 true).run Tryz.prog w = .ok (.tuple #[.agg #[.int .i64 0, .slice none 0 0, .slice none 0 0], .bool false]) w := by kernel_rfl
theorem as_int_4 (v : Value) (w : World) : (Instr.typeAssert (.iface 194 v) 188 190 true).run Tryz.prog w = .ok (.tuple #[.agg #[.int .i64 0, .slice none 0 0, .slice none 0 0], .bool false]) w := by kernel_rfl
theorem as_int_5 (v : Value) (w : World) : (Instr.typeAssert (.iface 195 v) 188 190 true).run Tryz.prog w = .ok (.tuple #[.agg #[.int .i64 0, .slice none 0 0, .slice none 0 0], .bool false]) w := by kernel_rfl
theorem as_int_6 (v : Value) (w : World) : (Instr.typeAssert (.iface 209 v) 188 190 true).run Tryz.prog w = .ok (.tuple #[.agg #[.int .i64 0, .slice none 0 0, .slice none 0 0], .bool false]) w := by kernel_rfl
theorem as_bool_1 (v : Value) (w : World) : (Instr.typeAssert (.iface 190 v) 188 191 true).run Tryz.prog w = .ok (.tuple #[.agg #[.int .i64 0, .slice none 0 0, .slice none 0 0], .bool false]) w := by kernel_rfl
theorem as_bool_2 (v : Value) (w : World) : (Instr.typeAssert (.iface 191 v) 188 191 true).run Tryz.prog w = .ok (.tuple #[v, .bool true]) w := by kernel_rfl
theorem as_bool_3 (v : Value) (w : World) : (Instr.typeAssert (.iface 192 v) 188 191 true).run Tryz.prog w = .ok (.tuple #[.agg #[.int .i64 0, .slice none 0 0, .slice none 0 0], .bool false]) w := by kernel_rfl
theorem as_bool_4 (v : Value) (w : World) : (Instr.typeAssert (.iface 194 v) 188 191 true).run Tryz.prog w = .ok (.tuple #[.agg #[.int .i64 0, .slice none 0 0, .slice none 0 0], .bool false]) w := by kernel_rfl
theorem as_bool_5 (v : Value) (w : World) : (Instr.typeAssert (.iface 195 v) 188 191 true).run Tryz.prog w = .ok (.tuple #[.agg #[.int .i64 0, .slice none 0 0, .slice none 0 0], .bool false]) w := by kernel_rfl
theorem as_bool_6 (v : Value) (w : World) : (Instr.typeAssert (.iface 209 v) 188 191 true).run Tryz.prog w = .ok (.tuple #[.agg #[.int .i64 0, .slice none 0 0, .slice none 0 0], .bool false]) w := by kernel_rfl
/-! the methods that a call through the interface comes to; 100 more than the program has types -/
theorem meth_1 (v : Value) (w : World) : (method 365 190 v "loop.example/g00587/impl.hasItsParts").run Tryz.prog w = .ok (256, v) w := by kernel_rfl
theorem meth_2 (v : Value) (w : World) : (method 365 191 v "loop.example/g00587/impl.hasItsParts").run Tryz.prog w = .ok (258, v) w := by kernel_rfl
theorem meth_3 (v : Value) (w : World) : (method 365 192 v "loop.example/g00587/impl.hasItsParts").run Tryz.prog w = .ok (259, v) w := by kernel_rfl
theorem meth_4 (v : Value) (w : World) : (method 365 194 v "loop.example/g00587/impl.hasItsParts").run Tryz.prog w = .ok (260, v) w := by kernel_rfl
theorem meth_5 (v : Value) (w : World) : (method 365 195 v "loop.example/g00587/impl.hasItsParts").run Tryz.prog w = .ok (261, v) w := by kernel_rfl
theorem meth_6 (v : Value) (w : World) : (method 365 209 v "loop.example/g00587/impl.hasItsParts").run Tryz.prog w = .ok (262, v) w := by kernel_rfl
end Go.Proofs.YtkchjinfjggoeaaGreatDoor

/-
  The program's IsName, which ranges over the runes of the text; the law 'IsName answers as the model does', walked.
-/
namespace Go.Proofs.YtkchjinfjggoeaaGreatDoor
open Go.RowKit

theorem name_shut {s : ByteArray} (h : s.size = 0 ∨ 4 < s.size ∨ s.toList = [105, 102] ∨ s.toList = [102, 111, 114]) : nameB s = false := by
  have e : (decide (1 ≤ s.size) && (decide (s.size ≤ 4) && (!(s.toList == [105, 102]) && !(s.toList == [102, 111, 114])))) = false := by
    rcases h with h | h | h | h
    · simp [h]
    · simp [show ¬ s.size ≤ 4 by omega]
    · simp [h]
    · simp [h]
  unfold nameB
  rw [e, Bool.and_false]
theorem name_yes {s : ByteArray} (h : NmTo s s.size) (h1 : 1 ≤ s.size) (h4 : s.size ≤ 4) (e1 : (s.toList == [105, 102]) = false) (e2 : (s.toList == [102, 111, 114]) = false) : nameB s = true := by
  rw [name_all h, e1, e2]
  simp [h1, h4]
theorem size_list (s : ByteArray) : s.toList.length = s.size := by
  rw [ByteArray.toList_eq, Array.length_toList]; rfl

/-- what the next rune is: the byte itself, or nothing that a name may hold -/
def Rn (s : ByteArray) (pos r wd : Nat) (h : pos < s.size) : Prop := (r = (s[pos]'h).toNat ∧ wd = 1) ∨ (128 ≤ r ∧ 128 ≤ (s[pos]'h).toNat)
theorem next_rune (w : World) (s : ByteArray) (pos : Nat) (h : pos < s.size) : ∃ r wd : Nat, Rn s pos r wd h ∧ r ≤ 2147483647 ∧
    ∀ ty, (Instr.next (.pointer (some ⟨w.heap.size, 0, none⟩)) true ty).run Tryz.prog (w.iter s pos) = .ok (.tuple #[.bool true, .int .i64 pos, .int .i32 r]) (w.iter s (pos + wd)) := by
  by_cases ha : (s[pos]'h).toNat < 128
  · exact ⟨(s[pos]'h).toNat, 1, .inl ⟨rfl, rfl⟩, by omega, fun ty => run_next_ascii w s pos ty h ha⟩
  · exact ⟨(Utf8.decode s pos).1, (Utf8.decode s pos).2, .inr ⟨(decode_high s pos h (by omega)).1, by omega⟩, decode_le s pos, fun ty => run_next_any w s pos ty h⟩
theorem below_iter (w : World) (s : ByteArray) (pos : Nat) : Below w.heap.size w (w.iter s pos) := (Below.refl _ _).alloc (Nat.le_refl _) _

/-- an answer that is true or false; all that was there is as it was -/
def Finds (b : Bool) (w : World) (e : Ending) (w' : World) : Prop := e = .returned (.bool b) ∧ Below w.heap.size w w'

set_option maxHeartbeats 1600000 in
theorem implName_any (s : ByteArray) (w : World) (hs : s.size ≤ 1048576) : Calls Tryz.prog 164 #[.string s] w (Finds (nameB s) w) := by
  by_cases h0 : s.size = 0
  · have HX := Lib.hid (name_shut (.inl h0))
    obtain rfl : s = ⟨#[]⟩ := by
      apply ByteArray.ext
      exact Array.eq_empty_of_size_eq_zero h0
    clear h0
    go_enter Tryz.func164, Tryz.ntmps164
    go_wp2
    go_ret
    exact ⟨ret_nm HX.out.symm, Below.refl _ _⟩
  · have h00 : (s.toList == []) = false := by
      rw [Bool.eq_false_iff, Ne, beq_iff_eq]
      intro e
      have := congrArg List.length e
      rw [size_list] at this
      exact h0 this
    by_cases h4 : (4 : Int) < (s.size : Int)
    · have HX := Lib.hid (name_shut (s := s) (.inr (.inl (by omega))))
      clear h0
      go_enter Tryz.func164, Tryz.ntmps164
      go_wp2
      go_ret
      exact ⟨ret_nm HX.out.symm, Below.refl _ _⟩
    · cases e1 : (s.toList == [105, 102])
      · cases e2 : (s.toList == [102, 111, 114])
        · have H00 := Lib.hid h0
          clear h0
          go_enter Tryz.func164, Tryz.ntmps164
          go_wp2
          go_loopw [3] (fun _ wr => ∃ pos : Nat, wr = w.iter s pos ∧ pos ≤ s.size ∧ NmTo s pos) (fun _ wr => s.size - wr.iterPos w.heap.size)
          case atStart => exact ⟨0, rfl, Nat.zero_le _, nmTo_zero _⟩
          case round =>
            obtain ⟨pos, rfl, hpos, hno⟩ := hrel
            have HN := Lib.hid hno
            clear hno
            by_cases hlt : pos < s.size
            · obtain ⟨r, wd, hr, hr2, hnx⟩ := next_rune w s pos hlt
              have HR := Lib.hid hr
              clear hr
              by_cases hL : (97 : Int) ≤ (r : Int) ∧ (r : Int) ≤ 122
              · obtain ⟨ha, hb⟩ := hL
                have HG : Hid (wd = 1 ∧ NmTo s (pos + 1)) := by
                  rcases HR.out with ⟨h1, h2⟩ | ⟨h1, h2⟩
                  · exact ⟨h2, nmTo_succ HN.out hlt (.inl ⟨by omega, by omega⟩)⟩
                  · omega
                go_wp2
                go_roundw
                case rel => exact ⟨pos + 1, by rw [HG.out.1], hlt, HG.out.2⟩
                case measure => have := HG.out.1; simp; omega
              · rcases Nat.eq_zero_or_pos pos with hp0 | hkp
                · have HX : Hid (nameB s = false) := by
                    rcases HR.out with ⟨h1, h2⟩ | ⟨h1, h2⟩
                    · exact name_no hlt (by omega) (.inl hp0)
                    · exact name_no hlt (by omega) (.inl hp0)
                  subst hp0
                  by_cases ha : (97 : Int) ≤ (r : Int)
                  · have hb : (122 : Int) < (r : Int) := by omega
                    have hb' : decide ((r : Int) ≤ 122) = false := by simpa using hb
                    clear hL
                    go_wp2
                    go_ret
                    exact ⟨ret_nm HX.out.symm, below_iter _ _ _⟩
                  · clear hL
                    go_wp2
                    go_ret
                    exact ⟨ret_nm HX.out.symm, below_iter _ _ _⟩
                · have hk0 : ((pos : Int) == 0) = false := by simp; omega
                  by_cases hD : (48 : Int) ≤ (r : Int) ∧ (r : Int) ≤ 57
                  · obtain ⟨hc, hd⟩ := hD
                    have HG : Hid (wd = 1 ∧ NmTo s (pos + 1)) := by
                      rcases HR.out with ⟨h1, h2⟩ | ⟨h1, h2⟩
                      · exact ⟨h2, nmTo_succ HN.out hlt (.inr ⟨by omega, by omega, by omega⟩)⟩
                      · omega
                    have ha : ¬ (97 : Int) ≤ (r : Int) := by omega
                    clear hL
                    go_wp2
                    go_roundw
                    case rel => exact ⟨pos + 1, by rw [HG.out.1], hlt, HG.out.2⟩
                    case measure => have := HG.out.1; simp; omega
                  · have HX : Hid (nameB s = false) := by
                      rcases HR.out with ⟨h1, h2⟩ | ⟨h1, h2⟩
                      · exact name_no hlt (by omega) (.inr (by omega))
                      · exact name_no hlt (by omega) (.inr (.inr (by omega)))
                    by_cases ha : (97 : Int) ≤ (r : Int)
                    · have hb : (122 : Int) < (r : Int) := by omega
                      have hc : (48 : Int) ≤ (r : Int) := by omega
                      have hd : (57 : Int) < (r : Int) := by omega
                      have hb' : decide ((r : Int) ≤ 122) = false := by simpa using hb
                      have hd' : decide ((r : Int) ≤ 57) = false := by simpa using hd
                      clear hL hD
                      go_wp2
                      go_ret
                      exact ⟨ret_nm HX.out.symm, below_iter _ _ _⟩
                    · by_cases hc : (48 : Int) ≤ (r : Int)
                      · have hd : (57 : Int) < (r : Int) := by omega
                        have hd' : decide ((r : Int) ≤ 57) = false := by simpa using hd
                        clear hL hD
                        go_wp2
                        go_ret
                        exact ⟨ret_nm HX.out.symm, below_iter _ _ _⟩
                      · clear hL hD
                        go_wp2
                        go_ret
                        exact ⟨ret_nm HX.out.symm, below_iter _ _ _⟩
            · have hnx : ∀ ty, (Instr.next (.pointer (some ⟨w.heap.size, 0, none⟩)) true ty).run Tryz.prog (w.iter s pos) = _ := fun ty => run_next_end w s pos ty hlt
              have he : pos = s.size := by omega
              have HX : Hid (nameB s = true) := by
                have h := HN.out
                rw [he] at h
                exact name_yes h (by have := H00.out; omega) (by omega) e1 e2
              clear he
              go_wp2
              go_ret
              exact ⟨ret_nm HX.out.symm, below_iter _ _ _⟩
        · have HX := Lib.hid (name_shut (s := s) (.inr (.inr (.inr (by simpa using e2)))))
          clear h0
          go_enter Tryz.func164, Tryz.ntmps164
          go_wp2
          go_ret
          exact ⟨ret_nm HX.out.symm, Below.refl _ _⟩
      · have HX := Lib.hid (name_shut (s := s) (.inr (.inr (.inl (by simpa using e1)))))
        clear h0
        go_enter Tryz.func164, Tryz.ntmps164
        go_wp2
        go_ret
        exact ⟨ret_nm HX.out.symm, Below.refl _ _⟩

end Go.Proofs.YtkchjinfjggoeaaGreatDoor
