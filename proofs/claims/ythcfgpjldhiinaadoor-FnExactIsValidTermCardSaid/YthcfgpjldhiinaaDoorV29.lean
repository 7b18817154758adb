/-
  Merged by program: Kind, Parts, PartsR.
-/
import Derived.Test.YthcfgpjldhiinaaDoorV10
import Derived.Test.YthcfgpjldhiinaaDoorV20
import Derived.Test.YthcfgpjldhiinaaDoorV7

/-
  The program's kindOfType.
-/
namespace Go.Proofs.YthcfgpjldhiinaaDoor
open Go.RowKit

/-- the type that stands for a kind -/
def kindT (q : Int) : TypeId := if q = 1 then 95 else if q = 2 then 96 else if q = 3 then 87 else if q = 4 then 88 else if q = 5 then 89 else 97
def KindIs (q : Int) (cs : List Value) (w : World) (e : Ending) (w' : World) : Prop := e = .returned (.iface (kindT q) (.agg cs.toArray)) ∧ Below w.heap.size w w'

set_option maxRecDepth 100000 in
set_option maxHeartbeats 800000 in
theorem kind_of (q : Int) (c1 c2 : Value) (w : World) : Calls Tryd.prog 66 #[.agg #[.int .i64 q, c1, c2]] w (KindIs q [.int .i64 q, c1, c2] w) := by
  have HR : Hid (∀ k, k = kindT q → KindIs q [.int .i64 q, c1, c2] w (.returned (.iface k (.agg #[.int .i64 q, c1, c2]))) (w.alloc (.cells #[.int .i64 q, c1, c2] 33))) := by
    rintro k rfl
    exact ⟨rfl, (Below.refl _ _).alloc (Nat.le_refl _) _⟩
  go_enter Tryd.func66, Tryd.ntmps66
  go_wp2_with fail
  · rename_i h
    go_ret
    exact HR.out 95 (by rw [eq_of_beq h]; rfl)
  · rename_i h
    go_ret
    exact HR.out 96 (by rw [eq_of_beq h]; rfl)
  · rename_i h
    go_ret
    exact HR.out 87 (by rw [eq_of_beq h]; rfl)
  · rename_i h
    go_ret
    exact HR.out 88 (by rw [eq_of_beq h]; rfl)
  · rename_i h
    go_ret
    exact HR.out 89 (by rw [eq_of_beq h]; rfl)
  · rename_i h1 h2 h3 h4 h5
    go_ret
    exact HR.out 97 (by unfold kindT; simp [ne_of_beq_false h1, ne_of_beq_false h2, ne_of_beq_false h3, ne_of_beq_false h4, ne_of_beq_false h5])
/-! what a test of the type gives -/
theorem as_rec_1 (v : Value) (w : World) : (Instr.typeAssert (.iface 95 v) 85 87 true).run Tryd.prog w = .ok (.tuple #[.agg #[.int .i64 0, .slice none 0 0, .slice none 0 0], .bool false]) w := by kernel_rfl
theorem as_rec_2 (v : Value) (w : World) : (Instr.typeAssert (.iface 96 v) 85 87 true).run Tryd.prog w = .ok (.tuple #[.agg #[.int .i64 0, .slice none 0 0, .slice none 0 0], .bool false]) w := by kernel_rfl
theorem as_rec_3 (v : Value) (w : World) : (Instr.typeAssert (.iface 87 v) 85 87 true).run Tryd.prog w = .ok (.tuple #[v, .bool true]) w := by kernel_rfl
theorem as_rec_4 (v : Value) (w : World) : (Instr.typeAssert (.iface 88 v) 85 87 true).run Tryd.prog w = .ok (.tuple #[.agg #[.int .i64 0, .slice none 0 0, .slice none 0 0], .bool false]) w := by kernel_rfl
theorem as_rec_5 (v : Value) (w : World) : (Instr.typeAssert (.iface 89 v) 85 87 true).run Tryd.prog w = .ok (.tuple #[.agg #[.int .i64 0, .slice none 0 0, .slice none 0 0], .bool false]) w := by kernel_rfl
theorem as_rec_6 (v : Value) (w : World) : (Instr.typeAssert (.iface 97 v) 85 87 true).run Tryd.prog w = .ok (.tuple #[.agg #[.int .i64 0, .slice none 0 0, .slice none 0 0], .bool false]) w := by kernel_rfl
theorem as_bag_1 (v : Value) (w : World) : (Instr.typeAssert (.iface 95 v) 85 88 true).run Tryd.prog w = .ok (.tuple #[.agg #[.int .i64 0, .slice none 0 0, .slice none 0 0], .bool false]) w := by kernel_rfl
theorem as_bag_2 (v : Value) (w : World) : (Instr.typeAssert (.iface 96 v) 85 88 true).run Tryd.prog w = .ok (.tuple #[.agg #[.int .i64 0, .slice none 0 0, .slice none 0 0], .bool false]) w := by kernel_rfl
theorem as_bag_3 (v : Value) (w : World) : (Instr.typeAssert (.iface 87 v) 85 88 true).run Tryd.prog w = .ok (.tuple #[.agg #[.int .i64 0, .slice none 0 0, .slice none 0 0], .bool false]) w := by kernel_rfl
theorem as_bag_4 (v : Value) (w : World) : (Instr.typeAssert (.iface 88 v) 85 88 true).run Tryd.prog w = .ok (.tuple #[v, .bool true]) w := by kernel_rfl
theorem as_bag_5 (v : Value) (w : World) : (Instr.typeAssert (.iface 89 v) 85 88 true).run Tryd.prog w = .ok (.tuple #[.agg #[.int .i64 0, .slice none 0 0, .slice none 0 0], .bool false]) w := by kernel_rfl
theorem as_bag_6 (v : Value) (w : World) : (Instr.typeAssert (.iface 97 v) 85 88 true).run Tryd.prog w = .ok (.tuple #[.agg #[.int .i64 0, .slice none 0 0, .slice none 0 0], .bool false]) w := by kernel_rfl
theorem as_fun_1 (v : Value) (w : World) : (Instr.typeAssert (.iface 95 v) 85 89 true).run Tryd.prog w = .ok (.tuple #[.agg #[.int .i64 0, .slice none 0 0, .slice none 0 0], .bool false]) w := by kernel_rfl
theorem as_fun_2 (v : Value) (w : World) : (Instr.typeAssert (.iface 96 v) 85 89 true).run Tryd.prog w = .ok (.tuple #[.agg #[.int .i64 0, .slice none 0 0, .slice none 0 0], .bool false]) w := by kernel_rfl
theorem as_fun_3 (v : Value) (w : World) : (Instr.typeAssert (.iface 87 v) 85 89 true).run Tryd.prog w = .ok (.tuple #[.agg #[.int .i64 0, .slice none 0 0, .slice none 0 0], .bool false]) w := by kernel_rfl
theorem as_fun_4 (v : Value) (w : World) : (Instr.typeAssert (.iface 88 v) 85 89 true).run Tryd.prog w = .ok (.tuple #[.agg #[.int .i64 0, .slice none 0 0, .slice none 0 0], .bool false]) w := by kernel_rfl
theorem as_fun_5 (v : Value) (w : World) : (Instr.typeAssert (.iface 89 v) 85 89 true).run Tryd.prog w = .ok (.tuple #[v, .bool true]) w := by kernel_rfl
theorem as_fun_6 (v : Value) (w : World) : (Instr.typeAssert (.iface 97 v) 85 89 true).run Tryd.prog w = .ok (.tuple #[.agg #[.int .i64 0, .slice none 0 0, .slice none 0 0], .bool false]) w := by kernel_rfl
theorem as_int_1 (v : Value) (w : World) : (Instr.typeAssert (.iface 95 v) 85 95 true).run Tryd.prog w = .ok (.tuple #[v, .bool true]) w := by kernel_rfl
theorem as_int_2 (v : Value) (w : World) : (Instr.typeAssert (.iface 96 v) 85 95 true).run Tryd.prog w = .ok (.tuple #[.agg #[.int .i64 0, .slice none 0 0, .slice none 0 0], .bool false]) w := by kernel_rfl
theorem as_int_3 (v : Value) (w : World) : (Instr.typeAssert (.iface 87 v) 85 95 true).run Tryd.prog w = .ok (.tuple #[.agg #[.int .i64 0, .slice none 0 0, .slice none 0 0], .bool false]) w := by kernel_rfl
theorem as_int_4 (v : Value) (w : World) : (Instr.typeAssert (.iface 88 v) 85 95 true).run Tryd.prog w = .ok (.tuple #[.agg #[.int .i64 0, .slice none 0 0, .slice none 0 0], .bool false]) w := by kernel_rfl
theorem as_int_5 (v : Value) (w : World) : (Instr.typeAssert (.iface 89 v) 85 95 true).run Tryd.prog w = .ok (.tuple #[.agg #[.int .i64 0, .slice none 0 0, .slice none 0 0], .bool false]) w := by kernel_rfl
theorem as_int_6 (v : Value) (w : World) : (Instr.typeAssert (.iface 97 v) 85 95 true).run Tryd.prog w = .ok (.tuple #[.agg #[.int .i64 0, .slice none 0 0, .slice none 0 0], .bool false]) w := by kernel_rfl
theorem as_bool_1 (v : Value) (w : World) : (Instr.typeAssert (.iface 95 v) 85 96 true).run Tryd.prog w = .ok (.tuple #[.agg #[.int .i64 0, .slice none 0 0, .slice none 0 0], .bool false]) w := by kernel_rfl
theorem as_bool_2 (v : Value) (w : World) : (Instr.typeAssert (.iface 96 v) 85 96 true).run Tryd.prog w = .ok (.tuple #[v, .bool true]) w := by kernel_rfl
theorem as_bool_3 (v : Value) (w : World) : (Instr.typeAssert (.iface 87 v) 85 96 true).run Tryd.prog w = .ok (.tuple #[.agg #[.int .i64 0, .slice none 0 0, .slice none 0 0], .bool false]) w := by kernel_rfl
theorem as_bool_4 (v : Value) (w : World) : (Instr.typeAssert (.iface 88 v) 85 96 true).run Tryd.prog w = .ok (.tuple #[.agg #[.int .i64 0, .slice none 0 0, .slice none 0 0], .bool false]) w := by kernel_rfl
theorem as_bool_5 (v : Value) (w : World) : (Instr.typeAssert (.iface 89 v) 85 96 true).run Tryd.prog w = .ok (.tuple #[.agg #[.int .i64 0, .slice none 0 0, .slice none 0 0], .bool false]) w := by kernel_rfl
theorem as_bool_6 (v : Value) (w : World) : (Instr.typeAssert (.iface 97 v) 85 96 true).run Tryd.prog w = .ok (.tuple #[.agg #[.int .i64 0, .slice none 0 0, .slice none 0 0], .bool false]) w := by kernel_rfl
/-! the methods that a call through the interface comes to; 100 more than the program has types -/
theorem meth_1 (v : Value) (w : World) : (method 222 95 v "loop.example/g00587/impl.hasItsParts").run Tryd.prog w = .ok (91, v) w := by kernel_rfl
theorem meth_2 (v : Value) (w : World) : (method 222 96 v "loop.example/g00587/impl.hasItsParts").run Tryd.prog w = .ok (92, v) w := by kernel_rfl
theorem meth_3 (v : Value) (w : World) : (method 222 87 v "loop.example/g00587/impl.hasItsParts").run Tryd.prog w = .ok (87, v) w := by kernel_rfl
theorem meth_4 (v : Value) (w : World) : (method 222 88 v "loop.example/g00587/impl.hasItsParts").run Tryd.prog w = .ok (88, v) w := by kernel_rfl
theorem meth_5 (v : Value) (w : World) : (method 222 89 v "loop.example/g00587/impl.hasItsParts").run Tryd.prog w = .ok (90, v) w := by kernel_rfl
theorem meth_6 (v : Value) (w : World) : (method 222 97 v "loop.example/g00587/impl.hasItsParts").run Tryd.prog w = .ok (93, v) w := by kernel_rfl
end Go.Proofs.YthcfgpjldhiinaaDoor

/-
  The program's methods hasItsParts, by the kind of a type.
-/
namespace Go.Proofs.YthcfgpjldhiinaaDoor
open Go.RowKit

def plainB (n m k : Nat) : Bool := decide (n = 0) && decide (m = k)

set_option maxRecDepth 100000 in
set_option maxHeartbeats 800000 in
theorem plain_any (c0 : Value) (L A : Option Addr) (n c m d k : Nat) (w : World) : Calls Tryd.prog 89 #[.agg #[c0, .slice L n c, .slice A m d], .int .i64 (k : Int)] w (Truth (plainB n m k) w) := by
  have hb0 : Below w.heap.size w (w.alloc (.cells #[c0, .slice L n c, .slice A m d] 33)) := (Below.refl _ _).alloc (Nat.le_refl _) _
  have HR : Hid (∀ b, b = plainB n m k → Truth (plainB n m k) w (.returned (.bool b)) (w.alloc (.cells #[c0, .slice L n c, .slice A m d] 33))) := by
    rintro b rfl
    exact ⟨rfl, hb0⟩
  clear hb0
  by_cases hn : n = 0
  · subst hn
    have HE : Hid (((m : Int) == (k : Int)) = plainB 0 m k) := Lib.hid (by
      unfold plainB
      by_cases h : m = k
      · subst h; simp
      · have h' : (m : Int) ≠ (k : Int) := by omega
        simp [h, h'])
    go_enter Tryd.func89, Tryd.ntmps89
    go_wp2_with fail
    go_ret
    exact HR.out _ HE.out
  · have hn' : ((n : Int) == 0) = false := by simp [hn]
    have HE : Hid (false = plainB n m k) := Lib.hid (by unfold plainB; simp [hn])
    clear hn
    go_enter Tryd.func89, Tryd.ntmps89
    go_wp2_with fail
    go_ret
    exact HR.out _ HE.out

theorem truth_box {t : TypeId} {b : Bool} {w : World} {cs : Array Value} {e : Ending} {w' : World} (h : Truth b (w.alloc (.cells cs t)) e w') : Truth b w e w' :=
  ⟨h.1, ((Below.refl _ w).alloc (Nat.le_refl _) _).trans (h.2.mono (by simp))⟩
set_option maxRecDepth 100000 in
theorem intParts (c0 : Value) (L A : Option Addr) (n c m d : Nat) (w : World) : Calls Tryd.prog 91 #[.agg #[c0, .slice L n c, .slice A m d]] w (Truth (plainB n m 0) w) := by
  have HC := Lib.hid (plain_any c0 L A n c m d 0 (w.alloc (.cells #[c0, .slice L n c, .slice A m d] 95)))
  go_enter Tryd.func91, Tryd.ntmps91
  go_wp2_with fail
  refine HC.out.mono ?_
  rintro e w1 h
  have HF := Lib.hid (truth_box h)
  obtain ⟨rfl, _⟩ := h
  go_wp2_with fail
  go_ret
  exact HF.out
set_option maxRecDepth 100000 in
theorem boolParts (c0 : Value) (L A : Option Addr) (n c m d : Nat) (w : World) : Calls Tryd.prog 92 #[.agg #[c0, .slice L n c, .slice A m d]] w (Truth (plainB n m 0) w) := by
  have HC := Lib.hid (plain_any c0 L A n c m d 0 (w.alloc (.cells #[c0, .slice L n c, .slice A m d] 96)))
  go_enter Tryd.func92, Tryd.ntmps92
  go_wp2_with fail
  refine HC.out.mono ?_
  rintro e w1 h
  have HF := Lib.hid (truth_box h)
  obtain ⟨rfl, _⟩ := h
  go_wp2_with fail
  go_ret
  exact HF.out
set_option maxRecDepth 100000 in
theorem bagParts (c0 : Value) (L A : Option Addr) (n c m d : Nat) (w : World) : Calls Tryd.prog 88 #[.agg #[c0, .slice L n c, .slice A m d]] w (Truth (plainB n m 1) w) := by
  have HC := Lib.hid (plain_any c0 L A n c m d 1 (w.alloc (.cells #[c0, .slice L n c, .slice A m d] 88)))
  go_enter Tryd.func88, Tryd.ntmps88
  go_wp2_with fail
  refine HC.out.mono ?_
  rintro e w1 h
  have HF := Lib.hid (truth_box h)
  obtain ⟨rfl, _⟩ := h
  go_wp2_with fail
  go_ret
  exact HF.out
set_option maxRecDepth 100000 in
theorem funParts (c0 : Value) (L A : Option Addr) (n c m d : Nat) (w : World) : Calls Tryd.prog 90 #[.agg #[c0, .slice L n c, .slice A m d]] w (Truth (plainB n m 2) w) := by
  have HC := Lib.hid (plain_any c0 L A n c m d 2 (w.alloc (.cells #[c0, .slice L n c, .slice A m d] 89)))
  go_enter Tryd.func90, Tryd.ntmps90
  go_wp2_with fail
  refine HC.out.mono ?_
  rintro e w1 h
  have HF := Lib.hid (truth_box h)
  obtain ⟨rfl, _⟩ := h
  go_wp2_with fail
  go_ret
  exact HF.out
theorem noneParts (c0 c1 c2 : Value) (w : World) : Calls Tryd.prog 93 #[.agg #[c0, c1, c2]] w (Truth false w) := by
  have HF : Hid (Truth false w (.returned (.bool false)) (w.alloc (.cells #[c0, c1, c2] 97))) := ⟨rfl, (Below.refl _ _).alloc (Nat.le_refl _) _⟩
  go_enter Tryd.func93, Tryd.ntmps93
  go_wp2_with fail
  go_ret
  exact HF.out
end Go.Proofs.YthcfgpjldhiinaaDoor

/-
  The program's hasItsParts for records, over areRecordLabels.
-/
namespace Go.Proofs.YthcfgpjldhiinaaDoor
open Go.RowKit

def recB (ls : List ByteArray) (m : Nat) : Bool := decide (m = ls.length) && labB ls

set_option maxRecDepth 100000 in
set_option maxHeartbeats 800000 in
theorem recParts (c0 : Value) (L A : Option Addr) (ls : List ByteArray) (c m d : Nat) (w : World) (h : Sl w L (ls.map Value.string)) (hn : ls.length ≤ 1048576) (hx : ∀ x ∈ ls, x.size ≤ 1048576) :
    Calls Tryd.prog 87 #[.agg #[c0, .slice L ls.length c, .slice A m d]] w (Truth (recB ls m) w) := by
  obtain ⟨W1, hW1⟩ : ∃ W1, w.alloc (.cells #[c0, .slice L ls.length c, .slice A m d] 87) = W1 := ⟨_, rfl⟩
  obtain ⟨H, hH⟩ : ∃ H, w.heap.size = H := ⟨_, rfl⟩
  have hb0 : Below w.heap.size w W1 := by rw [← hW1]; exact (Below.refl _ _).alloc (Nat.le_refl _) _
  have hbox : Box3 W1 H 87 c0 (.slice L ls.length c) (.slice A m d) := by rw [← hW1, ← hH]; exact Box3.new w _ _ _ _
  have HC := Lib.hid (recLabels_any L ls c W1 (h.below hb0) hn hx)
  have hrec : recB ls m = (labB ls && decide (ls.length = m)) := by
    unfold recB
    rw [Bool.and_comm]
    congr 1
    by_cases e : m = ls.length
    · rw [decide_eq_true e, decide_eq_true e.symm]
    · rw [decide_eq_false e, decide_eq_false (fun e2 => e e2.symm)]
  have HW1 := Lib.hid hW1
  have HB1 := Lib.hid hb0
  have BX := Lib.hid hbox
  have x1 := hbox.c1
  have x2 := hbox.c2
  generalize recB ls m = r at hrec ⊢
  generalize labB ls = lb at HC hrec
  generalize ls.length = n at HC hrec hW1 x1 BX HW1 hn ⊢
  have HN := Lib.hid hrec
  clear h hx hb0 hbox hW1 hrec hn
  cases lb with
  | false =>
    go_enter Tryd.func87, Tryd.ntmps87
    go_wp2_with fail
    rw [HW1.out]
    go_wp2_with fail
    refine HC.out.mono ?_
    rintro e w2 ⟨rfl, hb2⟩
    have HF : Hid (Truth r w (.returned (.bool false)) w2) := Lib.hid ⟨by rw [HN.out]; rfl, HB1.out.trans (hb2.mono HB1.out.size)⟩
    clear hb2 x1 x2
    go_wp2_with fail
    go_ret
    exact HF.out
  | true =>
    have HE : Hid (r = ((n : Int) == (m : Int))) := Lib.hid (by
      rw [HN.out, Bool.true_and]
      by_cases h : n = m
      · subst h; simp
      · have h' : (n : Int) ≠ (m : Int) := by omega
        rw [decide_eq_false h, beq_eq_false_iff_ne.2 h'])
    go_enter Tryd.func87, Tryd.ntmps87
    go_wp2_with fail
    rw [HW1.out]
    go_wp2_with fail
    refine HC.out.mono ?_
    rintro e w2 ⟨rfl, hb2⟩
    have HF : Hid (Truth r w (.returned (.bool ((n : Int) == (m : Int)))) w2) := Lib.hid ⟨by rw [HE.out], HB1.out.trans (hb2.mono HB1.out.size)⟩
    have b2 := BX.out.under hb2 BX.out.lt
    clear hb2 x1 x2
    have x1 := b2.c1
    have x2 := b2.c2
    clear b2
    go_wp2_with fail
    go_ret
    exact HF.out
end Go.Proofs.YthcfgpjldhiinaaDoor
