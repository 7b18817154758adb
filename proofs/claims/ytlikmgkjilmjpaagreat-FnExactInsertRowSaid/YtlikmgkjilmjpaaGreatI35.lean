/-
  Merged by program: VaShp, Kind, NameI, EvName, AscI, Parts, HasN.
-/
import Derived.Test.YtlikmgkjilmjpaaGreatI5
import Derived.Test.YtlikmgkjilmjpaaGreatI18
import Derived.Test.YtlikmgkjilmjpaaGreatI16
import Derived.Test.YtlikmgkjilmjpaaGreatI17
import Derived.Test.YtlikmgkjilmjpaaGreatI19

/-
  The shape of a value's cells. Hangs on no program.
-/
namespace Go.Proofs.YtlikmgkjilmjpaaGreat
open Go.RowKit

theorem RVa.shape {w : World} {v : Va} {c0 c1 c2 c3 : Value} (h : RVa w v [c0, c1, c2, c3]) : ∃ p q L l c A m d, c0 = .int .i64 p ∧ c1 = .int .i64 q ∧ c2 = .slice L l c ∧ c3 = .slice A m d := by
  obtain ⟨L, c, A, d, he, _⟩ := h.open
  injection he with e0 he
  injection he with e1 he
  injection he with e2 he
  injection he with e3 _
  exact ⟨_, _, _, _, _, _, _, _, e0, e1, e2, e3⟩
end Go.Proofs.YtlikmgkjilmjpaaGreat

/-
  The program's kindOfType.
-/
namespace Go.Proofs.YtlikmgkjilmjpaaGreat
open Go.RowKit

/-- the type that stands for a kind -/
def kindT (q : Int) : TypeId := if q = 1 then 152 else if q = 2 then 153 else if q = 3 then 145 else if q = 4 then 155 else if q = 5 then 157 else 158
def KindIs (q : Int) (cs : List Value) (w : World) (e : Ending) (w' : World) : Prop := e = .returned (.iface (kindT q) (.agg cs.toArray)) ∧ Below w.heap.size w w'

set_option maxRecDepth 100000 in
set_option maxHeartbeats 800000 in
theorem kind_of (q : Int) (c1 c2 : Value) (w : World) : Calls Tryz.prog 111 #[.agg #[.int .i64 q, c1, c2]] w (KindIs q [.int .i64 q, c1, c2] w) := by
  have HR : Hid (∀ k, k = kindT q → KindIs q [.int .i64 q, c1, c2] w (.returned (.iface k (.agg #[.int .i64 q, c1, c2]))) (w.alloc (.cells #[.int .i64 q, c1, c2] 96))) := by
    rintro k rfl
    exact ⟨rfl, (Below.refl _ _).alloc (Nat.le_refl _) _⟩
  go_enter Tryz.func111, Tryz.ntmps111
  go_wp2_with fail
  · rename_i h
    go_ret
    exact HR.out 152 (by rw [eq_of_beq h]; rfl)
  · rename_i h
    go_ret
    exact HR.out 153 (by rw [eq_of_beq h]; rfl)
  · rename_i h
    go_ret
    exact HR.out 145 (by rw [eq_of_beq h]; rfl)
  · rename_i h
    go_ret
    exact HR.out 155 (by rw [eq_of_beq h]; rfl)
  · rename_i h
    go_ret
    exact HR.out 157 (by rw [eq_of_beq h]; rfl)
  · rename_i h1 h2 h3 h4 h5
    go_ret
    exact HR.out 158 (by unfold kindT; simp [ne_of_beq_false h1, ne_of_beq_false h2, ne_of_beq_false h3, ne_of_beq_false h4, ne_of_beq_false h5])
/-! what a test of the type gives -/
theorem as_rec_1 (v : Value) (w : World) : (Instr.typeAssert (.iface 152 v) 148 145 true).run Tryz.prog w = .ok (.tuple #[.agg #[.int .i64 0, .slice none 0 0, .slice none 0 0], .bool false]) w := by kernel_rfl
theorem as_rec_2 (v : Value) (w : World) : (Instr.typeAssert (.iface 153 v) 148 145 true).run Tryz.prog w = .ok (.tuple #[.agg #[.int .i64 0, .slice none 0 0, .slice none 0 0], .bool false]) w := by kernel_rfl
theorem as_rec_3 (v : Value) (w : World) : (Instr.typeAssert (.iface 145 v) 148 145 true).run Tryz.prog w = .ok (.tuple #[v, .bool true]) w := by kernel_rfl
theorem as_rec_4 (v : Value) (w : World) : (Instr.typeAssert (.iface 155 v) 148 145 true).run Tryz.prog w = .ok (.tuple #[.agg #[.int .i64 0, .slice none 0 0, .slice none 0 0], .bool false]) w := by kernel_rfl
theorem as_rec_5 (v : Value) (w : World) : (Instr.typeAssert (.iface 157 v) 148 145 true).run Tryz.prog w = .ok (.tuple #[.agg #[.int .i64 0, .slice none 0 0, .slice none 0 0], .bool false]) w := by kernel_rfl
theorem as_rec_6 (v : Value) (w : World) : (Instr.typeAssert (.iface 158 v) 148 145 true).run Tryz.prog w = .ok (.tuple #[.agg #[.int .i64 0, .slice none 0 0, .slice none 0 0], .bool false]) w := by kernel_rfl
theorem as_bag_1 (v : Value) (w : World) : (Instr.typeAssert (.iface 152 v) 148 155 true).run Tryz.prog w = .ok (.tuple #[.agg #[.int .i64 0, .slice none 0 0, .slice none 0 0], .bool false]) w := by kernel_rfl
theorem as_bag_2 (v : Value) (w : World) : (Instr.typeAssert (.iface 153 v) 148 155 true).run Tryz.prog w = .ok (.tuple #[.agg #[.int .i64 0, .slice none 0 0, .slice none 0 0], .bool false]) w := by kernel_rfl
theorem as_bag_3 (v : Value) (w : World) : (Instr.typeAssert (.iface 145 v) 148 155 true).run Tryz.prog w = .ok (.tuple #[.agg #[.int .i64 0, .slice none 0 0, .slice none 0 0], .bool false]) w := by kernel_rfl
theorem as_bag_4 (v : Value) (w : World) : (Instr.typeAssert (.iface 155 v) 148 155 true).run Tryz.prog w = .ok (.tuple #[v, .bool true]) w := by kernel_rfl
theorem as_bag_5 (v : Value) (w : World) : (Instr.typeAssert (.iface 157 v) 148 155 true).run Tryz.prog w = .ok (.tuple #[.agg #[.int .i64 0, .slice none 0 0, .slice none 0 0], .bool false]) w := by kernel_rfl
theorem as_bag_6 (v : Value) (w : World) : (Instr.typeAssert (.iface 158 v) 148 155 true).run Tryz.prog w = .ok (.tuple #[.agg #[.int .i64 0, .slice none 0 0, .slice none 0 0], .bool false]) w := by kernel_rfl
theorem as_fun_1 (v : Value) (w : World) : (Instr.typeAssert (.iface 152 v) 148 157 true).run Tryz.prog w = .ok (.tuple #[.agg #[.int .i64 0, .slice none 0 0, .slice none 0 0], .bool false]) w := by kernel_rfl
theorem as_fun_2 (v : Value) (w : World) : (Instr.typeAssert (.iface 153 v) 148 157 true).run Tryz.prog w = .ok (.tuple #[.agg #[.int .i64 0, .slice none 0 0, .slice none 0 0], .bool false]) w := by kernel_rfl
theorem as_fun_3 (v : Value) (w : World) : (Instr.typeAssert (.iface 145 v) 148 157 true).run Tryz.prog w = .ok (.tuple #[.agg #[.int .i64 0, .slice none 0 0, .slice none 0 0], .bool false]) w := by kernel_rfl
theorem as_fun_4 (v : Value) (w : World) : (Instr.typeAssert (.iface 155 v) 148 157 true).run Tryz.prog w = .ok (.tuple #[.agg #[.int .i64 0, .slice none 0 0, .slice none 0 0], .bool false]) w := by kernel_rfl
theorem as_fun_5 (v : Value) (w : World) : (Instr.typeAssert (.iface 157 v) 148 157 true).run Tryz.prog w = .ok (.tuple #[v, .bool true]) w := by kernel_rfl
theorem as_fun_6 (v : Value) (w : World) : (Instr.typeAssert (.iface 158 v) 148 157 true).run Tryz.prog w = .ok (.tuple #[.agg #[.int .i64 0, .slice none 0 0, .slice none 0 0], .bool false]) w := by kernel_rfl
theorem as_int_1 (v : Value) (w : World) : (Instr.typeAssert (.iface 152 v) 148 152 true).run Tryz.prog w = .ok (.tuple #[v, .bool true]) w := by kernel_rfl
theorem as_int_2 (v : Value) (w : World) : (Instr.typeAssert (.iface 153 v) 148 152 true).run Tryz.prog w = .ok (.tuple #[.agg #[.int .i64 0, .slice none 0 0, .slice none 0 0], .bool false]) w := by kernel_rfl
theorem as_int_3 (v : Value) (w : World) : (Instr.typeAssert (.iface 145 v) 148 152 true).run Tryz.prog w = .ok (.tuple #[.agg #[.int .i64 0, .slice none 0 0, .slice none 0 0], .bool false]) w := by kernel_rfl
theorem as_int_4 (v : Value) (w : World) : (Instr.typeAssert (.iface 155 v) 148 152 true).run Tryz.prog w = .ok (.tuple #[.agg #[.int .i64 0, .slice none 0 0, .slice none 0 0], .bool false]) w := by kernel_rfl
theorem as_int_5 (v : Value) (w : World) : (Instr.typeAssert (.iface 157 v) 148 152 true).run Tryz.prog w = .ok (.tuple #[.agg #[.int .i64 0, .slice none 0 0, .slice none 0 0], .bool false]) w := by kernel_rfl
theorem as_int_6 (v : Value) (w : World) : (Instr.typeAssert (.iface 158 v) 148 152 true).run Tryz.prog w = .ok (.tuple #[.agg #[.int .i64 0, .slice none 0 0, .slice none 0 0], .bool false]) w := by kernel_rfl
theorem as_bool_1 (v : Value) (w : World) : (Instr.typeAssert (.iface 152 v) 148 153 true).run Tryz.prog w = .ok (.tuple #[.agg #[.int .i64 0, .slice none 0 0, .slice none 0 0], .bool false]) w := by kernel_rfl
theorem as_bool_2 (v : Value) (w : World) : (Instr.typeAssert (.iface 153 v) 148 153 true).run Tryz.prog w = .ok (.tuple #[v, .bool true]) w := by kernel_rfl
theorem as_bool_3 (v : Value) (w : World) : (Instr.typeAssert (.iface 145 v) 148 153 true).run Tryz.prog w = .ok (.tuple #[.agg #[.int .i64 0, .slice none 0 0, .slice none 0 0], .bool false]) w := by kernel_rfl
theorem as_bool_4 (v : Value) (w : World) : (Instr.typeAssert (.iface 155 v) 148 153 true).run Tryz.prog w = .ok (.tuple #[.agg #[.int .i64 0, .slice none 0 0, .slice none 0 0], .bool false]) w := by kernel_rfl
theorem as_bool_5 (v : Value) (w : World) : (Instr.typeAssert (.iface 157 v) 148 153 true).run Tryz.prog w = .ok (.tuple #[.agg #[.int .i64 0, .slice none 0 0, .slice none 0 0], .bool false]) w := by kernel_rfl
theorem as_bool_6 (v : Value) (w : World) : (Instr.typeAssert (.iface 158 v) 148 153 true).run Tryz.prog w = .ok (.tuple #[.agg #[.int .i64 0, .slice none 0 0, .slice none 0 0], .bool false]) w := by kernel_rfl
/-! the methods that a call through the interface comes to; 100 more than the program has types -/
theorem meth_1 (v : Value) (w : World) : (method 288 152 v "loop.example/g00587/impl.hasItsParts").run Tryz.prog w = .ok (148, v) w := by kernel_rfl
theorem meth_2 (v : Value) (w : World) : (method 288 153 v "loop.example/g00587/impl.hasItsParts").run Tryz.prog w = .ok (150, v) w := by kernel_rfl
theorem meth_3 (v : Value) (w : World) : (method 288 145 v "loop.example/g00587/impl.hasItsParts").run Tryz.prog w = .ok (145, v) w := by kernel_rfl
theorem meth_4 (v : Value) (w : World) : (method 288 155 v "loop.example/g00587/impl.hasItsParts").run Tryz.prog w = .ok (151, v) w := by kernel_rfl
theorem meth_5 (v : Value) (w : World) : (method 288 157 v "loop.example/g00587/impl.hasItsParts").run Tryz.prog w = .ok (152, v) w := by kernel_rfl
theorem meth_6 (v : Value) (w : World) : (method 288 158 v "loop.example/g00587/impl.hasItsParts").run Tryz.prog w = .ok (153, v) w := by kernel_rfl
end Go.Proofs.YtlikmgkjilmjpaaGreat

/-
  The program's IsName, which ranges over the runes of the text; the law 'IsName answers as the model does', walked.
-/
namespace Go.Proofs.YtlikmgkjilmjpaaGreat
open Go.RowKit

theorem name_shut {s : ByteArray} (h : s.size = 0 ∨ 4 < s.size ∨ s.toList = [105, 102] ∨ s.toList = [102, 111, 114]) : nameB s = false := by
  have e : (decide (1 ≤ s.size) && (decide (s.size ≤ 4) && (!(s.toList == [105, 102]) && !(s.toList == [102, 111, 114])))) = false := by
    rcases h with h | h | h | h
    · simp [h]
    · simp [show ¬ s.size ≤ 4 by omega]
    · simp [h]
    · simp [h]
  unfold nameB
  rw [e, Bool.and_false]
theorem name_yes {s : ByteArray} (h : NmTo s s.size) (h1 : 1 ≤ s.size) (h4 : s.size ≤ 4) (e1 : (s.toList == [105, 102]) = false) (e2 : (s.toList == [102, 111, 114]) = false) : nameB s = true := by
  rw [name_all h, e1, e2]
  simp [h1, h4]
theorem size_list (s : ByteArray) : s.toList.length = s.size := by
  rw [ByteArray.toList_eq, Array.length_toList]; rfl

/-- what the next rune is: the byte itself, or nothing that a name may hold -/
def Rn (s : ByteArray) (pos r wd : Nat) (h : pos < s.size) : Prop := (r = (s[pos]'h).toNat ∧ wd = 1) ∨ (128 ≤ r ∧ 128 ≤ (s[pos]'h).toNat)
theorem next_rune (w : World) (s : ByteArray) (pos : Nat) (h : pos < s.size) : ∃ r wd : Nat, Rn s pos r wd h ∧ r ≤ 2147483647 ∧
    ∀ ty, (Instr.next (.pointer (some ⟨w.heap.size, 0, none⟩)) true ty).run Tryz.prog (w.iter s pos) = .ok (.tuple #[.bool true, .int .i64 pos, .int .i32 r]) (w.iter s (pos + wd)) := by
  by_cases ha : (s[pos]'h).toNat < 128
  · exact ⟨(s[pos]'h).toNat, 1, .inl ⟨rfl, rfl⟩, by omega, fun ty => run_next_ascii w s pos ty h ha⟩
  · exact ⟨(Utf8.decode s pos).1, (Utf8.decode s pos).2, .inr ⟨(decode_high s pos h (by omega)).1, by omega⟩, decode_le s pos, fun ty => run_next_any w s pos ty h⟩
theorem below_iter (w : World) (s : ByteArray) (pos : Nat) : Below w.heap.size w (w.iter s pos) := (Below.refl _ _).alloc (Nat.le_refl _) _

/-- an answer that is true or false; all that was there is as it was -/
def Finds (b : Bool) (w : World) (e : Ending) (w' : World) : Prop := e = .returned (.bool b) ∧ Below w.heap.size w w'

set_option maxHeartbeats 1600000 in
theorem implName_any (s : ByteArray) (w : World) (hs : s.size ≤ 1048576) : Calls Tryz.prog 100 #[.string s] w (Finds (nameB s) w) := by
  by_cases h0 : s.size = 0
  · have HX := Lib.hid (name_shut (.inl h0))
    obtain rfl : s = ⟨#[]⟩ := by
      apply ByteArray.ext
      exact Array.eq_empty_of_size_eq_zero h0
    clear h0
    go_enter Tryz.func100, Tryz.ntmps100
    go_wp2
    go_ret
    exact ⟨ret_nm HX.out.symm, Below.refl _ _⟩
  · have h00 : (s.toList == []) = false := by
      rw [Bool.eq_false_iff, Ne, beq_iff_eq]
      intro e
      have := congrArg List.length e
      rw [size_list] at this
      exact h0 this
    by_cases h4 : (4 : Int) < (s.size : Int)
    · have HX := Lib.hid (name_shut (s := s) (.inr (.inl (by omega))))
      clear h0
      go_enter Tryz.func100, Tryz.ntmps100
      go_wp2
      go_ret
      exact ⟨ret_nm HX.out.symm, Below.refl _ _⟩
    · cases e1 : (s.toList == [105, 102])
      · cases e2 : (s.toList == [102, 111, 114])
        · have H00 := Lib.hid h0
          clear h0
          go_enter Tryz.func100, Tryz.ntmps100
          go_wp2
          go_loopw [3] (fun _ wr => ∃ pos : Nat, wr = w.iter s pos ∧ pos ≤ s.size ∧ NmTo s pos) (fun _ wr => s.size - wr.iterPos w.heap.size)
          case atStart => exact ⟨0, rfl, Nat.zero_le _, nmTo_zero _⟩
          case round =>
            obtain ⟨pos, rfl, hpos, hno⟩ := hrel
            have HN := Lib.hid hno
            clear hno
            by_cases hlt : pos < s.size
            · obtain ⟨r, wd, hr, hr2, hnx⟩ := next_rune w s pos hlt
              have HR := Lib.hid hr
              clear hr
              by_cases hL : (97 : Int) ≤ (r : Int) ∧ (r : Int) ≤ 122
              · obtain ⟨ha, hb⟩ := hL
                have HG : Hid (wd = 1 ∧ NmTo s (pos + 1)) := by
                  rcases HR.out with ⟨h1, h2⟩ | ⟨h1, h2⟩
                  · exact ⟨h2, nmTo_succ HN.out hlt (.inl ⟨by omega, by omega⟩)⟩
                  · omega
                go_wp2
                go_roundw
                case rel => exact ⟨pos + 1, by rw [HG.out.1], hlt, HG.out.2⟩
                case measure => have := HG.out.1; simp; omega
              · rcases Nat.eq_zero_or_pos pos with hp0 | hkp
                · have HX : Hid (nameB s = false) := by
                    rcases HR.out with ⟨h1, h2⟩ | ⟨h1, h2⟩
                    · exact name_no hlt (by omega) (.inl hp0)
                    · exact name_no hlt (by omega) (.inl hp0)
                  subst hp0
                  by_cases ha : (97 : Int) ≤ (r : Int)
                  · have hb : (122 : Int) < (r : Int) := by omega
                    have hb' : decide ((r : Int) ≤ 122) = false := by simpa using hb
                    clear hL
                    go_wp2
                    go_ret
                    exact ⟨ret_nm HX.out.symm, below_iter _ _ _⟩
                  · clear hL
                    go_wp2
                    go_ret
                    exact ⟨ret_nm HX.out.symm, below_iter _ _ _⟩
                · have hk0 : ((pos : Int) == 0) = false := by simp; omega
                  by_cases hD : (48 : Int) ≤ (r : Int) ∧ (r : Int) ≤ 57
                  · obtain ⟨hc, hd⟩ := hD
                    have HG : Hid (wd = 1 ∧ NmTo s (pos + 1)) := by
                      rcases HR.out with ⟨h1, h2⟩ | ⟨h1, h2⟩
                      · exact ⟨h2, nmTo_succ HN.out hlt (.inr ⟨by omega, by omega, by omega⟩)⟩
                      · omega
                    have ha : ¬ (97 : Int) ≤ (r : Int) := by omega
                    clear hL
                    go_wp2
                    go_roundw
                    case rel => exact ⟨pos + 1, by rw [HG.out.1], hlt, HG.out.2⟩
                    case measure => have := HG.out.1; simp; omega
                  · have HX : Hid (nameB s = false) := by
                      rcases HR.out with ⟨h1, h2⟩ | ⟨h1, h2⟩
                      · exact name_no hlt (by omega) (.inr (by omega))
                      · exact name_no hlt (by omega) (.inr (.inr (by omega)))
                    by_cases ha : (97 : Int) ≤ (r : Int)
                    · have hb : (122 : Int) < (r : Int) := by omega
                      have hc : (48 : Int) ≤ (r : Int) := by omega
                      have hd : (57 : Int) < (r : Int) := by omega
                      have hb' : decide ((r : Int) ≤ 122) = false := by simpa using hb
                      have hd' : decide ((r : Int) ≤ 57) = false := by simpa using hd
                      clear hL hD
                      go_wp2
                      go_ret
                      exact ⟨ret_nm HX.out.symm, below_iter _ _ _⟩
                    · by_cases hc : (48 : Int) ≤ (r : Int)
                      · have hd : (57 : Int) < (r : Int) := by omega
                        have hd' : decide ((r : Int) ≤ 57) = false := by simpa using hd
                        clear hL hD
                        go_wp2
                        go_ret
                        exact ⟨ret_nm HX.out.symm, below_iter _ _ _⟩
                      · clear hL hD
                        go_wp2
                        go_ret
                        exact ⟨ret_nm HX.out.symm, below_iter _ _ _⟩
            · have hnx : ∀ ty, (Instr.next (.pointer (some ⟨w.heap.size, 0, none⟩)) true ty).run Tryz.prog (w.iter s pos) = _ := fun ty => run_next_end w s pos ty hlt
              have he : pos = s.size := by omega
              have HX : Hid (nameB s = true) := by
                have h := HN.out
                rw [he] at h
                exact name_yes h (by have := H00.out; omega) (by omega) e1 e2
              clear he
              go_wp2
              go_ret
              exact ⟨ret_nm HX.out.symm, below_iter _ _ _⟩
        · have HX := Lib.hid (name_shut (s := s) (.inr (.inr (.inr (by simpa using e2)))))
          clear h0
          go_enter Tryz.func100, Tryz.ntmps100
          go_wp2
          go_ret
          exact ⟨ret_nm HX.out.symm, Below.refl _ _⟩
      · have HX := Lib.hid (name_shut (s := s) (.inr (.inr (.inl (by simpa using e1)))))
        clear h0
        go_enter Tryz.func100, Tryz.ntmps100
        go_wp2
        go_ret
        exact ⟨ret_nm HX.out.symm, Below.refl _ _⟩

end Go.Proofs.YtlikmgkjilmjpaaGreat

/-
  The program's every over names.
-/
namespace Go.Proofs.YtlikmgkjilmjpaaGreat
open Go.RowKit

set_option maxRecDepth 100000 in
set_option maxHeartbeats 800000 in
theorem everyName_any (A : Option Addr) (c : Nat) (xs : List ByteArray) (w : World) (h : Sl w A (xs.map Value.string)) (hn : xs.length ≤ 1048576) (hx : ∀ x ∈ xs, x.size ≤ 1048576) :
    Calls Tryz.prog 147 #[.slice A xs.length c, .func (.func 100) #[] #[]] w (Truth (xs.all nameB) w) := by
  have HX := Lib.hid hx
  have HS := Lib.hid h
  clear hx h
  go_enter Tryz.func147, Tryz.ntmps147
  go_wp2_with fail
  go_loopw [9] (fun i wr => ∃ k : Nat, k ≤ xs.length ∧ i = .int .i64 k ∧ NamesTo xs k ∧ Below w.heap.size w wr) (fun i _ => xs.length - (intOf i).toNat)
  case atStart => exact ⟨0, Nat.zero_le _, rfl, namesTo_zero _, Below.refl _ _⟩
  case round =>
    obtain ⟨k, hk, rfl, hno, hb⟩ := hrel
    have HNO := Lib.hid hno
    have HB := Lib.hid hb
    clear hno hb
    by_cases hlt : k < xs.length
    · obtain ⟨ad, rfl, hc⟩ := (HS.out.below HB.out) k (.string xs[k]) (by simp [hlt])
      have HC := Lib.hid (implName_any xs[k] wr (HX.out _ (List.getElem_mem hlt)))
      by_cases hf : nameB xs[k] = true
      · have HN := Lib.hid (namesTo_succ HNO.out hlt hf)
        rw [hf] at HC
        clear hf
        go_wp2_with fail
        refine HC.out.mono ?_
        rintro e w2 ⟨rfl, hb2⟩
        have HB2 := Lib.hid (HB.out.trans (hb2.mono HB.out.size))
        clear hb2
        go_wp2_with fail
        go_roundw
        case rel => exact ⟨k + 1, hlt, by go_num, HN.out, HB2.out⟩
        case measure => simp [intOf]; omega
      · have hff : nameB xs[k] = false := by simpa using hf
        rw [hff] at HC
        have HE : Hid (xs.all nameB = false) := Lib.hid (by
          rw [Bool.eq_false_iff, Ne, List.all_eq_true]
          intro h
          have := h _ (List.getElem_mem hlt)
          rw [hff] at this
          cases this)
        clear hf hff
        go_wp2_with fail
        refine HC.out.mono ?_
        rintro e w2 ⟨rfl, hb2⟩
        have HB2 := Lib.hid (HB.out.trans (hb2.mono HB.out.size))
        clear hb2
        go_wp2_with fail
        go_ret
        exact ⟨by rw [HE.out]; rfl, HB2.out⟩
    · have he : k = xs.length := by omega
      have HE : Hid (xs.all nameB = true) := Lib.hid (by
        rw [List.all_eq_true]
        intro x hx
        obtain ⟨j, hj, rfl⟩ := List.getElem_of_mem hx
        exact HNO.out j hj (by omega))
      clear he
      go_wp2_with fail
      go_ret
      exact ⟨by rw [HE.out]; rfl, HB.out⟩
end Go.Proofs.YtlikmgkjilmjpaaGreat

/-
  The program's AreAscending.
-/
namespace Go.Proofs.YtlikmgkjilmjpaaGreat
open Go.RowKit

set_option maxHeartbeats 800000 in
theorem implAsc_any (A : Option Addr) (c : Nat) (xs : List ByteArray) (w : World) (h : Sl w A (xs.map Value.string)) (hn : xs.length ≤ 1048576) :
    Calls Tryz.prog 88 #[.slice A xs.length c] w (Tells (ascL xs) w) := by
  go_enter Tryz.func88, Tryz.ntmps88
  go_wp2
  go_loopw [3] (fun i wr => ∃ k : Nat, i = .int .i64 ((k : Int) + 1) ∧ k ≤ xs.length ∧ AscTo xs k ∧ ∃ n, wr = w.drewN n) (fun i _ => xs.length - (intOf i).toNat)
  case atStart => exact ⟨0, rfl, Nat.zero_le _, ascTo_zero _, 0, rfl⟩
  case round =>
    obtain ⟨k, rfl, hk, hasc, n, rfl⟩ := hrel
    by_cases hlt : k + 1 < xs.length
    · have hk4 : k < xs.length := by omega
      obtain ⟨ad, rfl, hc0⟩ := h k (.string (xs[k]'hk4)) (by simp [hk4])
      obtain ⟨m, hm⟩ : ∃ m, m = k + 1 := ⟨_, rfl⟩
      have hk6 : m < xs.length := by omega
      obtain ⟨ad', e, hc1⟩ := h m (.string (xs[m]'hk6)) (by simp [hk6])
      injection e with e
      subst e
      have hg : Op.bytesLess (xs[k]'hk4).toList (xs[m]'hk6).toList = okAt xs k := by subst hm; exact (okAt_get hlt).symm
      have hk1 : IntKind.i64.wrap (k : Int) = (k : Int) := IntWalk.i64_in _ (by omega)
      have hk2 : (0 : Int) ≤ (k : Int) + 1 := by omega
      have hk5 : (k : Int) + 1 < (xs.length : Int) := by omega
      have hk3 : ((k : Int) + 1).toNat = m := by omega
      clear hm
      cases hb : okAt xs k
      · rw [hb] at hg
        have hq := geq_run 9 _ _ hg
        simp only [Bool.not_false] at hq
        clear hg
        have HA := Lib.hid (asc_no hlt hb)
        clear hb hasc
        go_wp2
        go_quiet (fail)
        clear hk1 hk2 hk3 hq
        go_wp2
        go_ret
        exact ⟨ret_bool HA.out.symm, _, World.drewN_drewN _ _ _⟩
      · rw [hb] at hg
        have hq := geq_run 9 _ _ hg
        simp only [Bool.not_true] at hq
        clear hg
        have HA := Lib.hid (ascTo_succ hasc hb)
        clear hb hasc
        go_wp2
        go_quiet (fail)
        clear hk1 hk2 hk3 hq
        go_wp2
        go_roundw
        case rel => exact ⟨k + 1, by go_num, by omega, HA.out, _, rfl⟩
        case measure => simp [intOf]; omega
    · have HA := Lib.hid (asc_yes hasc (by omega))
      clear hasc
      go_wp2
      go_ret
      exact ⟨ret_bool HA.out.symm, n, rfl⟩
end Go.Proofs.YtlikmgkjilmjpaaGreat

/-
  The program's methods hasItsParts, by the kind of a type.
-/
namespace Go.Proofs.YtlikmgkjilmjpaaGreat
open Go.RowKit

def plainB (n m k : Nat) : Bool := decide (n = 0) && decide (m = k)

set_option maxRecDepth 100000 in
set_option maxHeartbeats 800000 in
theorem plain_any (c0 : Value) (L A : Option Addr) (n c m d k : Nat) (w : World) : Calls Tryz.prog 149 #[.agg #[c0, .slice L n c, .slice A m d], .int .i64 (k : Int)] w (Truth (plainB n m k) w) := by
  have hb0 : Below w.heap.size w (w.alloc (.cells #[c0, .slice L n c, .slice A m d] 96)) := (Below.refl _ _).alloc (Nat.le_refl _) _
  have HR : Hid (∀ b, b = plainB n m k → Truth (plainB n m k) w (.returned (.bool b)) (w.alloc (.cells #[c0, .slice L n c, .slice A m d] 96))) := by
    rintro b rfl
    exact ⟨rfl, hb0⟩
  clear hb0
  by_cases hn : n = 0
  · subst hn
    have HE : Hid (((m : Int) == (k : Int)) = plainB 0 m k) := Lib.hid (by
      unfold plainB
      by_cases h : m = k
      · subst h; simp
      · have h' : (m : Int) ≠ (k : Int) := by omega
        simp [h, h'])
    go_enter Tryz.func149, Tryz.ntmps149
    go_wp2_with fail
    go_ret
    exact HR.out _ HE.out
  · have hn' : ((n : Int) == 0) = false := by simp [hn]
    have HE : Hid (false = plainB n m k) := Lib.hid (by unfold plainB; simp [hn])
    clear hn
    go_enter Tryz.func149, Tryz.ntmps149
    go_wp2_with fail
    go_ret
    exact HR.out _ HE.out

theorem truth_box {t : TypeId} {b : Bool} {w : World} {cs : Array Value} {e : Ending} {w' : World} (h : Truth b (w.alloc (.cells cs t)) e w') : Truth b w e w' :=
  ⟨h.1, ((Below.refl _ w).alloc (Nat.le_refl _) _).trans (h.2.mono (by simp))⟩
set_option maxRecDepth 100000 in
theorem intParts (c0 : Value) (L A : Option Addr) (n c m d : Nat) (w : World) : Calls Tryz.prog 148 #[.agg #[c0, .slice L n c, .slice A m d]] w (Truth (plainB n m 0) w) := by
  have HC := Lib.hid (plain_any c0 L A n c m d 0 (w.alloc (.cells #[c0, .slice L n c, .slice A m d] 152)))
  go_enter Tryz.func148, Tryz.ntmps148
  go_wp2_with fail
  refine HC.out.mono ?_
  rintro e w1 h
  have HF := Lib.hid (truth_box h)
  obtain ⟨rfl, _⟩ := h
  go_wp2_with fail
  go_ret
  exact HF.out
set_option maxRecDepth 100000 in
theorem boolParts (c0 : Value) (L A : Option Addr) (n c m d : Nat) (w : World) : Calls Tryz.prog 150 #[.agg #[c0, .slice L n c, .slice A m d]] w (Truth (plainB n m 0) w) := by
  have HC := Lib.hid (plain_any c0 L A n c m d 0 (w.alloc (.cells #[c0, .slice L n c, .slice A m d] 153)))
  go_enter Tryz.func150, Tryz.ntmps150
  go_wp2_with fail
  refine HC.out.mono ?_
  rintro e w1 h
  have HF := Lib.hid (truth_box h)
  obtain ⟨rfl, _⟩ := h
  go_wp2_with fail
  go_ret
  exact HF.out
set_option maxRecDepth 100000 in
theorem bagParts (c0 : Value) (L A : Option Addr) (n c m d : Nat) (w : World) : Calls Tryz.prog 151 #[.agg #[c0, .slice L n c, .slice A m d]] w (Truth (plainB n m 1) w) := by
  have HC := Lib.hid (plain_any c0 L A n c m d 1 (w.alloc (.cells #[c0, .slice L n c, .slice A m d] 155)))
  go_enter Tryz.func151, Tryz.ntmps151
  go_wp2_with fail
  refine HC.out.mono ?_
  rintro e w1 h
  have HF := Lib.hid (truth_box h)
  obtain ⟨rfl, _⟩ := h
  go_wp2_with fail
  go_ret
  exact HF.out
set_option maxRecDepth 100000 in
theorem funParts (c0 : Value) (L A : Option Addr) (n c m d : Nat) (w : World) : Calls Tryz.prog 152 #[.agg #[c0, .slice L n c, .slice A m d]] w (Truth (plainB n m 2) w) := by
  have HC := Lib.hid (plain_any c0 L A n c m d 2 (w.alloc (.cells #[c0, .slice L n c, .slice A m d] 157)))
  go_enter Tryz.func152, Tryz.ntmps152
  go_wp2_with fail
  refine HC.out.mono ?_
  rintro e w1 h
  have HF := Lib.hid (truth_box h)
  obtain ⟨rfl, _⟩ := h
  go_wp2_with fail
  go_ret
  exact HF.out
theorem noneParts (c0 c1 c2 : Value) (w : World) : Calls Tryz.prog 153 #[.agg #[c0, c1, c2]] w (Truth false w) := by
  have HF : Hid (Truth false w (.returned (.bool false)) (w.alloc (.cells #[c0, c1, c2] 158))) := ⟨rfl, (Below.refl _ _).alloc (Nat.le_refl _) _⟩
  go_enter Tryz.func153, Tryz.ntmps153
  go_wp2_with fail
  go_ret
  exact HF.out
end Go.Proofs.YtlikmgkjilmjpaaGreat

/-
  The program's isIntValue, isBoolValue, isBagNode, hasNoParts.
-/
namespace Go.Proofs.YtlikmgkjilmjpaaGreat
open Go.RowKit

theorem below_box (w : World) (cs : Array Value) (t : TypeId) : Below w.heap.size w (w.alloc (.cells cs t)) := (Below.refl _ _).alloc (Nat.le_refl _) _

set_option maxRecDepth 100000 in
set_option maxHeartbeats 800000 in
theorem noParts_any (c0 c1 : Value) (L A : Option Addr) (l c m d : Nat) (w : World) : Calls Tryz.prog 126 #[.agg #[c0, c1, .slice L l c, .slice A m d]] w (Truth (plainB l m 0) w) := by
  have HR : Hid (∀ b, b = plainB l m 0 → Truth (plainB l m 0) w (.returned (.bool b)) (w.alloc (.cells #[c0, c1, .slice L l c, .slice A m d] 47))) := by
    rintro b rfl
    exact ⟨rfl, below_box _ _ _⟩
  by_cases hn : l = 0
  · subst hn
    have HE : Hid (((m : Int) == 0) = plainB 0 m 0) := Lib.hid (by
      unfold plainB
      by_cases h : m = 0
      · subst h; simp
      · have h' : (m : Int) ≠ 0 := by omega
        simp [h])
    go_enter Tryz.func126, Tryz.ntmps126
    go_wp2_with fail
    go_ret
    exact HR.out _ HE.out
  · have hn' : ((l : Int) == 0) = false := by simp [hn]
    have HE : Hid (false = plainB l m 0) := Lib.hid (by unfold plainB; simp [hn])
    clear hn
    go_enter Tryz.func126, Tryz.ntmps126
    go_wp2_with fail
    go_ret
    exact HR.out _ HE.out

def intB (p : Int) (l m : Nat) : Bool := decide (p = 1) && plainB l m 0
def boolB (p q : Int) (l m : Nat) : Bool := decide (p = 2) && (decide (q = 0 ∨ q = 1) && plainB l m 0)
def bagB (p q : Int) (l : Nat) : Bool := decide (p = 4) && (decide (q = 0) && decide (l = 0))

set_option maxRecDepth 100000 in
set_option maxHeartbeats 800000 in
theorem isIntV_any (p q : Int) (L A : Option Addr) (l c m d : Nat) (w : World) : Calls Tryz.prog 117 #[.agg #[.int .i64 p, .int .i64 q, .slice L l c, .slice A m d]] w (Truth (intB p l m) w) := by
  obtain ⟨W1, hW1⟩ : ∃ W1, w.alloc (.cells #[.int .i64 p, .int .i64 q, .slice L l c, .slice A m d] 47) = W1 := ⟨_, rfl⟩
  obtain ⟨H, hH⟩ : ∃ H, w.heap.size = H := ⟨_, rfl⟩
  have hb1 : Below w.heap.size w W1 := by rw [← hW1]; exact below_box _ _ _
  have hbx : Box4 W1 H 47 (.int .i64 p) (.int .i64 q) (.slice L l c) (.slice A m d) := by rw [← hW1, ← hH]; exact Box4.new w _ _ _ _ _
  have HC := Lib.hid (noParts_any (.int .i64 p) (.int .i64 q) L A l c m d W1)
  obtain ⟨N, hN⟩ : ∃ N, intB p l m = N := ⟨_, rfl⟩
  have hV : intB p l m = (decide (p = 1) && plainB l m 0) := rfl
  rw [hN] at hV ⊢
  have HV := Lib.hid hV
  have HW1 := Lib.hid hW1
  have HB1 := Lib.hid hb1
  have x0 := hbx.c0
  have x1 := hbx.c1
  have x2 := hbx.c2
  have x3 := hbx.c3
  clear hW1 hb1 hbx hN hV
  by_cases e0 : p = 1
  · subst e0
    go_enter Tryz.func117, Tryz.ntmps117
    go_wp2_with fail
    rw [HW1.out]
    go_wp2_with fail
    refine HC.out.mono ?_
    rintro e w2 ⟨rfl, hb⟩
    have HR : Hid (Truth N w (.returned (.bool (plainB l m 0))) w2) := truth_iff (by rw [HV.out]; simp) (HB1.out.trans (hb.mono HB1.out.size))
    clear hb
    go_wp2_with fail
    go_ret
    exact HR.out
  · have HR : Hid (∀ b, b = false → Truth N w (.returned (.bool b)) W1) := fun b hb => truth_iff (by rw [HV.out, hb, decide_eq_false e0]; rfl) HB1.out
    clear HV HC
    go_enter Tryz.func117, Tryz.ntmps117
    go_wp2_with fail
    rw [HW1.out]
    go_wp2_with fail
    go_ret
    exact HR.out _ (by first | rfl | simp [e0])

set_option maxRecDepth 100000 in
set_option maxHeartbeats 800000 in
theorem isBoolV_any (p q : Int) (L A : Option Addr) (l c m d : Nat) (w : World) : Calls Tryz.prog 118 #[.agg #[.int .i64 p, .int .i64 q, .slice L l c, .slice A m d]] w (Truth (boolB p q l m) w) := by
  obtain ⟨W1, hW1⟩ : ∃ W1, w.alloc (.cells #[.int .i64 p, .int .i64 q, .slice L l c, .slice A m d] 47) = W1 := ⟨_, rfl⟩
  obtain ⟨H, hH⟩ : ∃ H, w.heap.size = H := ⟨_, rfl⟩
  have hb1 : Below w.heap.size w W1 := by rw [← hW1]; exact below_box _ _ _
  have hbx : Box4 W1 H 47 (.int .i64 p) (.int .i64 q) (.slice L l c) (.slice A m d) := by rw [← hW1, ← hH]; exact Box4.new w _ _ _ _ _
  have HC := Lib.hid (noParts_any (.int .i64 p) (.int .i64 q) L A l c m d W1)
  obtain ⟨N, hN⟩ : ∃ N, boolB p q l m = N := ⟨_, rfl⟩
  have hV : boolB p q l m = (decide (p = 2) && (decide (q = 0 ∨ q = 1) && plainB l m 0)) := rfl
  rw [hN] at hV ⊢
  have HV := Lib.hid hV
  have HW1 := Lib.hid hW1
  have HB1 := Lib.hid hb1
  have x0 := hbx.c0
  have x1 := hbx.c1
  have x2 := hbx.c2
  have x3 := hbx.c3
  clear hW1 hb1 hbx hN hV
  by_cases e0 : p = 2
  · subst e0
    by_cases e1 : q = 0
    · subst e1
      go_enter Tryz.func118, Tryz.ntmps118
      go_wp2_with fail
      rw [HW1.out]
      go_wp2_with fail
      refine HC.out.mono ?_
      rintro e w2 ⟨rfl, hb⟩
      have HR : Hid (Truth N w (.returned (.bool (plainB l m 0))) w2) := truth_iff (by rw [HV.out]; simp) (HB1.out.trans (hb.mono HB1.out.size))
      clear hb
      go_wp2_with fail
      go_ret
      exact HR.out
    · by_cases e2 : q = 1
      · subst e2
        go_enter Tryz.func118, Tryz.ntmps118
        go_wp2_with fail
        rw [HW1.out]
        go_wp2_with fail
        refine HC.out.mono ?_
        rintro e w2 ⟨rfl, hb⟩
        have HR : Hid (Truth N w (.returned (.bool (plainB l m 0))) w2) := truth_iff (by rw [HV.out]; simp) (HB1.out.trans (hb.mono HB1.out.size))
        clear hb
        go_wp2_with fail
        go_ret
        exact HR.out
      · have HR : Hid (∀ b, b = false → Truth N w (.returned (.bool b)) W1) := fun b hb => truth_iff (by rw [HV.out, hb]; simp [e1, e2]) HB1.out
        have f1 : (q == 0) = false := by simp [e1]
        have f2 : (q == 1) = false := by simp [e2]
        clear HV HC
        go_enter Tryz.func118, Tryz.ntmps118
        go_wp2_with fail
        rw [HW1.out]
        go_wp2_with fail
        go_ret
        exact HR.out _ (by first | rfl | simp [e1, e2])
  · have HR : Hid (∀ b, b = false → Truth N w (.returned (.bool b)) W1) := fun b hb => truth_iff (by rw [HV.out, hb, decide_eq_false e0]; rfl) HB1.out
    clear HV HC
    go_enter Tryz.func118, Tryz.ntmps118
    go_wp2_with fail
    rw [HW1.out]
    go_wp2_with fail
    go_ret
    exact HR.out _ (by first | rfl | simp [e0])

set_option maxRecDepth 100000 in
set_option maxHeartbeats 800000 in
theorem isBagN_any (p q : Int) (L A : Option Addr) (l c m d : Nat) (w : World) : Calls Tryz.prog 121 #[.agg #[.int .i64 p, .int .i64 q, .slice L l c, .slice A m d]] w (Truth (bagB p q l) w) := by
  obtain ⟨W1, hW1⟩ : ∃ W1, w.alloc (.cells #[.int .i64 p, .int .i64 q, .slice L l c, .slice A m d] 47) = W1 := ⟨_, rfl⟩
  obtain ⟨H, hH⟩ : ∃ H, w.heap.size = H := ⟨_, rfl⟩
  have hb1 : Below w.heap.size w W1 := by rw [← hW1]; exact below_box _ _ _
  have hbx : Box4 W1 H 47 (.int .i64 p) (.int .i64 q) (.slice L l c) (.slice A m d) := by rw [← hW1, ← hH]; exact Box4.new w _ _ _ _ _
  have HR : Hid (∀ b, b = bagB p q l → Truth (bagB p q l) w (.returned (.bool b)) W1) := by
    rintro b rfl
    exact ⟨rfl, hb1⟩
  have HW1 := Lib.hid hW1
  have x0 := hbx.c0
  have x1 := hbx.c1
  have x2 := hbx.c2
  have x3 := hbx.c3
  clear hW1 hb1 hbx
  by_cases e0 : p = 4
  · by_cases e1 : q = 0
    · have HE : Hid (((l : Int) == 0) = bagB p q l) := Lib.hid (by
        unfold bagB
        subst e0 e1
        by_cases h : l = 0
        · subst h; simp
        · simp [h])
      subst e0 e1
      go_enter Tryz.func121, Tryz.ntmps121
      go_wp2_with fail
      rw [HW1.out]
      go_wp2_with fail
      go_ret
      exact HR.out _ HE.out
    · have HE : Hid (false = bagB p q l) := Lib.hid (by unfold bagB; simp [e1])
      subst e0
      go_enter Tryz.func121, Tryz.ntmps121
      go_wp2_with fail
      rw [HW1.out]
      go_wp2_with fail
      go_ret
      first | exact HR.out _ HE.out | exact HR.out _ ((by simp [e1]) : _ = false).trans HE.out
  · have HE : Hid (false = bagB p q l) := Lib.hid (by unfold bagB; simp [e0])
    go_enter Tryz.func121, Tryz.ntmps121
    go_wp2_with fail
    rw [HW1.out]
    go_wp2_with fail
    go_ret
    first | exact HR.out _ HE.out | exact HR.out _ (((by simp [e0]) : _ = false).trans HE.out)
end Go.Proofs.YtlikmgkjilmjpaaGreat
