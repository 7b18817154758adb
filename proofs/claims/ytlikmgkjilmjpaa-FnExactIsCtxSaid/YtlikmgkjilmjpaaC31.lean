/-
  Merged by program: Kind.
-/
import Derived.Test.YtlikmgkjilmjpaaC28

/-
  The program's kindOfType.
-/
namespace Go.Proofs.Ytlikmgkjilmjpaa
open Go.RowKit

/-- the type that stands for a kind -/
def kindT (q : Int) : TypeId := if q = 1 then 101 else if q = 2 then 102 else if q = 3 then 103 else if q = 4 then 105 else if q = 5 then 123 else 125
def KindIs (q : Int) (cs : List Value) (w : World) (e : Ending) (w' : World) : Prop := e = .returned (.iface (kindT q) (.agg cs.toArray)) ∧ Below w.heap.size w w'

set_option maxRecDepth 100000 in
set_option maxHeartbeats 800000 in
theorem kind_of (q : Int) (c1 c2 : Value) (w : World) : Calls Try.prog 78 #[.agg #[.int .i64 q, c1, c2]] w (KindIs q [.int .i64 q, c1, c2] w) := by
  have HR : Hid (∀ k, k = kindT q → KindIs q [.int .i64 q, c1, c2] w (.returned (.iface k (.agg #[.int .i64 q, c1, c2]))) (w.alloc (.cells #[.int .i64 q, c1, c2] 41))) := by
    rintro k rfl
    exact ⟨rfl, (Below.refl _ _).alloc (Nat.le_refl _) _⟩
  go_enter Try.func78, Try.ntmps78
  go_wp2_with fail
  · rename_i h
    go_ret
    exact HR.out 101 (by rw [eq_of_beq h]; rfl)
  · rename_i h
    go_ret
    exact HR.out 102 (by rw [eq_of_beq h]; rfl)
  · rename_i h
    go_ret
    exact HR.out 103 (by rw [eq_of_beq h]; rfl)
  · rename_i h
    go_ret
    exact HR.out 105 (by rw [eq_of_beq h]; rfl)
  · rename_i h
    go_ret
    exact HR.out 123 (by rw [eq_of_beq h]; rfl)
  · rename_i h1 h2 h3 h4 h5
    go_ret
    exact HR.out 125 (by unfold kindT; simp [ne_of_beq_false h1, ne_of_beq_false h2, ne_of_beq_false h3, ne_of_beq_false h4, ne_of_beq_false h5])
/-! what a test of the type gives -/
theorem as_rec_1 (v : Value) (w : World) : (Instr.typeAssert (.iface 101 v) 99 103 true).run Try.prog w = .ok (.tuple #[.agg #[.int .i64 0, .slice none 0 0, .slice none 0 0], .bool false]) w := by kernel_rfl
theorem as_rec_2 (v : Value) (w : World) : (Instr.typeAssert (.iface 102 v) 99 103 true).run Try.prog w = .ok (.tuple #[.agg #[.int .i64 0, .slice none 0 0, .slice none 0 0], .bool false]) w := by kernel_rfl
theorem as_rec_3 (v : Value) (w : World) : (Instr.typeAssert (.iface 103 v) 99 103 true).run Try.prog w = .ok (.tuple #[v, .bool true]) w := by kernel_rfl
theorem as_rec_4 (v : Value) (w : World) : (Instr.typeAssert (.iface 105 v) 99 103 true).run Try.prog w = .ok (.tuple #[.agg #[.int .i64 0, .slice none 0 0, .slice none 0 0], .bool false]) w := by kernel_rfl
theorem as_rec_5 (v : Value) (w : World) : (Instr.typeAssert (.iface 123 v) 99 103 true).run Try.prog w = .ok (.tuple #[.agg #[.int .i64 0, .slice none 0 0, .slice none 0 0], .bool false]) w := by kernel_rfl
theorem as_rec_6 (v : Value) (w : World) : (Instr.typeAssert (.iface 125 v) 99 103 true).run Try.prog w = .ok (.tuple #[.agg #[.int .i64 0, .slice none 0 0, .slice none 0 0], .bool false]) w := by kernel_rfl
theorem as_bag_1 (v : Value) (w : World) : (Instr.typeAssert (.iface 101 v) 99 105 true).run Try.prog w = .ok (.tuple #[.agg #[.int .i64 0, .slice none 0 0, .slice none 0 0], .bool false]) w := by kernel_rfl
theorem as_bag_2 (v : Value) (w : World) : (Instr.typeAssert (.iface 102 v) 99 105 true).run Try.prog w = .ok (.tuple #[.agg #[.int .i64 0, .slice none 0 0, .slice none 0 0], .bool false]) w := by kernel_rfl
theorem as_bag_3 (v : Value) (w : World) : (Instr.typeAssert (.iface 103 v) 99 105 true).run Try.prog w = .ok (.tuple #[.agg #[.int .i64 0, .slice none 0 0, .slice none 0 0], .bool false]) w := by kernel_rfl
theorem as_bag_4 (v : Value) (w : World) : (Instr.typeAssert (.iface 105 v) 99 105 true).run Try.prog w = .ok (.tuple #[v, .bool true]) w := by kernel_rfl
theorem as_bag_5 (v : Value) (w : World) : (Instr.typeAssert (.iface 123 v) 99 105 true).run Try.prog w = .ok (.tuple #[.agg #[.int .i64 0, .slice none 0 0, .slice none 0 0], .bool false]) w := by kernel_rfl
theorem as_bag_6 (v : Value) (w : World) : (Instr.typeAssert (.iface 125 v) 99 105 true).run Try.prog w = .ok (.tuple #[.agg #[.int .i64 0, .slice none 0 0, .slice none 0 0], .bool false]) w := by kernel_rfl
theorem as_fun_1 (v : Value) (w : World) : (Instr.typeAssert (.iface 101 v) 99 123 true).run Try.prog w = .ok (.tuple #[.agg #[.int .i64 0, .slice none 0 0, .slice none 0 0], .bool false]) w := by kernel_rfl
theorem as_fun_2 (v : Value) (w : World) : (Instr.typeAssert (.iface 102 v) 99 123 true).run Try.prog w = .ok (.tuple #[.agg #[.int .i64 0, .slice none 0 0, .slice none 0 0], .bool false]) w := by kernel_rfl
theorem as_fun_3 (v : Value) (w : World) : (Instr.typeAssert (.iface 103 v) 99 123 true).run Try.prog w = .ok (.tuple #[.agg #[.int .i64 0, .slice none 0 0, .slice none 0 0], .bool false]) w := by kernel_rfl
theorem as_fun_4 (v : Value) (w : World) : (Instr.typeAssert (.iface 105 v) 99 123 true).run Try.prog w = .ok (.tuple #[.agg #[.int .i64 0, .slice none 0 0, .slice none 0 0], .bool false]) w := by kernel_rfl
theorem as_fun_5 (v : Value) (w : World) : (Instr.typeAssert (.iface 123 v) 99 123 true).run Try.prog w = .ok (.tuple #[v, .bool true]) w := by kernel_rfl
theorem as_fun_6 (v : Value) (w : World) : (Instr.typeAssert (.iface 125 v) 99 123 true).run Try.prog w = .ok (.tuple #[.agg #[.int .i64 0, .slice none 0 0, .slice none 0 0], .bool false]) w := by kernel_rfl
theorem as_int_1 (v : Value) (w : World) : (Instr.typeAssert (.iface 101 v) 99 101 true).run Try.prog w = .ok (.tuple #[v, .bool true]) w := by kernel_rfl
theorem as_int_2 (v : Value) (w : World) : (Instr.typeAssert (.iface 102 v) 99 101 true).run Try.prog w = .ok (.tuple #[.agg #[.int .i64 0, .slice none 0 0, .slice none 0 0], .bool false]) w := by kernel_rfl
theorem as_int_3 (v : Value) (w : World) : (Instr.typeAssert (.iface 103 v) 99 101 true).run Try.prog w = .ok (.tuple #[.agg #[.int .i64 0, .slice none 0 0, .slice none 0 0], .bool false]) w := by kernel_rfl
theorem as_int_4 (v : Value) (w : World) : (Instr.typeAssert (.iface 105 v) 99 101 true).run Try.prog w = .ok (.tuple #[.agg #[.int .i64 0, .slice none 0 0, .slice none 0 0], .bool false]) w := by kernel_rfl
theorem as_int_5 (v : Value) (w : World) : (Instr.typeAssert (.iface 123 v) 99 101 true).run Try.prog w = .ok (.tuple #[.agg #[.int .i64 0, .slice none 0 0, .slice none 0 0], .bool false]) w := by kernel_rfl
theorem as_int_6 (v : Value) (w : World) : (Instr.typeAssert (.iface 125 v) 99 101 true).run Try.prog w = .ok (.tuple #[.agg #[.int .i64 0, .slice none 0 0, .slice none 0 0], .bool false]) w := by kernel_rfl
theorem as_bool_1 (v : Value) (w : World) : (Instr.typeAssert (.iface 101 v) 99 102 true).run Try.prog w = .ok (.tuple #[.agg #[.int .i64 0, .slice none 0 0, .slice none 0 0], .bool false]) w := by kernel_rfl
theorem as_bool_2 (v : Value) (w : World) : (Instr.typeAssert (.iface 102 v) 99 102 true).run Try.prog w = .ok (.tuple #[v, .bool true]) w := by kernel_rfl
theorem as_bool_3 (v : Value) (w : World) : (Instr.typeAssert (.iface 103 v) 99 102 true).run Try.prog w = .ok (.tuple #[.agg #[.int .i64 0, .slice none 0 0, .slice none 0 0], .bool false]) w := by kernel_rfl
theorem as_bool_4 (v : Value) (w : World) : (Instr.typeAssert (.iface 105 v) 99 102 true).run Try.prog w = .ok (.tuple #[.agg #[.int .i64 0, .slice none 0 0, .slice none 0 0], .bool false]) w := by kernel_rfl
theorem as_bool_5 (v : Value) (w : World) : (Instr.typeAssert (.iface 123 v) 99 102 true).run Try.prog w = .ok (.tuple #[.agg #[.int .i64 0, .slice none 0 0, .slice none 0 0], .bool false]) w := by kernel_rfl
theorem as_bool_6 (v : Value) (w : World) : (Instr.typeAssert (.iface 125 v) 99 102 true).run Try.prog w = .ok (.tuple #[.agg #[.int .i64 0, .slice none 0 0, .slice none 0 0], .bool false]) w := by kernel_rfl
/-! the methods that a call through the interface comes to; 100 more than the program has types -/
theorem meth_1 (v : Value) (w : World) : (method 276 101 v "loop.example/g00587/impl.hasItsParts").run Try.prog w = .ok (145, v) w := by kernel_rfl
theorem meth_2 (v : Value) (w : World) : (method 276 102 v "loop.example/g00587/impl.hasItsParts").run Try.prog w = .ok (147, v) w := by kernel_rfl
theorem meth_3 (v : Value) (w : World) : (method 276 103 v "loop.example/g00587/impl.hasItsParts").run Try.prog w = .ok (148, v) w := by kernel_rfl
theorem meth_4 (v : Value) (w : World) : (method 276 105 v "loop.example/g00587/impl.hasItsParts").run Try.prog w = .ok (152, v) w := by kernel_rfl
theorem meth_5 (v : Value) (w : World) : (method 276 123 v "loop.example/g00587/impl.hasItsParts").run Try.prog w = .ok (153, v) w := by kernel_rfl
theorem meth_6 (v : Value) (w : World) : (method 276 125 v "loop.example/g00587/impl.hasItsParts").run Try.prog w = .ok (154, v) w := by kernel_rfl
end Go.Proofs.Ytlikmgkjilmjpaa
