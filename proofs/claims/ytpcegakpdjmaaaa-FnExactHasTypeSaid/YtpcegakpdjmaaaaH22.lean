/-
  Merged by program: Kind.
-/
import Derived.Test.YtpcegakpdjmaaaaH9

/-
  The program's kindOfType.
-/
namespace Go.Proofs.Ytpcegakpdjmaaaa
open Go.RowKit

/-- the type that stands for a kind -/
def kindT (q : Int) : TypeId := if q = 1 then 83 else if q = 2 then 84 else if q = 3 then 85 else if q = 4 then 87 else if q = 5 then 100 else 102
def KindIs (q : Int) (cs : List Value) (w : World) (e : Ending) (w' : World) : Prop := e = .returned (.iface (kindT q) (.agg cs.toArray)) ∧ Below w.heap.size w w'

set_option maxRecDepth 100000 in
set_option maxHeartbeats 800000 in
theorem kind_of (q : Int) (c1 c2 : Value) (w : World) : Calls Try.prog 64 #[.agg #[.int .i64 q, c1, c2]] w (KindIs q [.int .i64 q, c1, c2] w) := by
  have HR : Hid (∀ k, k = kindT q → KindIs q [.int .i64 q, c1, c2] w (.returned (.iface k (.agg #[.int .i64 q, c1, c2]))) (w.alloc (.cells #[.int .i64 q, c1, c2] 41))) := by
    rintro k rfl
    exact ⟨rfl, (Below.refl _ _).alloc (Nat.le_refl _) _⟩
  go_enter Try.func64, Try.ntmps64
  go_wp2_with fail
  · rename_i h
    go_ret
    exact HR.out 83 (by rw [eq_of_beq h]; rfl)
  · rename_i h
    go_ret
    exact HR.out 84 (by rw [eq_of_beq h]; rfl)
  · rename_i h
    go_ret
    exact HR.out 85 (by rw [eq_of_beq h]; rfl)
  · rename_i h
    go_ret
    exact HR.out 87 (by rw [eq_of_beq h]; rfl)
  · rename_i h
    go_ret
    exact HR.out 100 (by rw [eq_of_beq h]; rfl)
  · rename_i h1 h2 h3 h4 h5
    go_ret
    exact HR.out 102 (by unfold kindT; simp [ne_of_beq_false h1, ne_of_beq_false h2, ne_of_beq_false h3, ne_of_beq_false h4, ne_of_beq_false h5])
/-! what a test of the type gives -/
theorem as_rec_1 (v : Value) (w : World) : (Instr.typeAssert (.iface 83 v) 81 85 true).run Try.prog w = .ok (.tuple #[.agg #[.int .i64 0, .slice none 0 0, .slice none 0 0], .bool false]) w := by kernel_rfl
theorem as_rec_2 (v : Value) (w : World) : (Instr.typeAssert (.iface 84 v) 81 85 true).run Try.prog w = .ok (.tuple #[.agg #[.int .i64 0, .slice none 0 0, .slice none 0 0], .bool false]) w := by kernel_rfl
theorem as_rec_3 (v : Value) (w : World) : (Instr.typeAssert (.iface 85 v) 81 85 true).run Try.prog w = .ok (.tuple #[v, .bool true]) w := by kernel_rfl
theorem as_rec_4 (v : Value) (w : World) : (Instr.typeAssert (.iface 87 v) 81 85 true).run Try.prog w = .ok (.tuple #[.agg #[.int .i64 0, .slice none 0 0, .slice none 0 0], .bool false]) w := by kernel_rfl
theorem as_rec_5 (v : Value) (w : World) : (Instr.typeAssert (.iface 100 v) 81 85 true).run Try.prog w = .ok (.tuple #[.agg #[.int .i64 0, .slice none 0 0, .slice none 0 0], .bool false]) w := by kernel_rfl
theorem as_rec_6 (v : Value) (w : World) : (Instr.typeAssert (.iface 102 v) 81 85 true).run Try.prog w = .ok (.tuple #[.agg #[.int .i64 0, .slice none 0 0, .slice none 0 0], .bool false]) w := by kernel_rfl
theorem as_bag_1 (v : Value) (w : World) : (Instr.typeAssert (.iface 83 v) 81 87 true).run Try.prog w = .ok (.tuple #[.agg #[.int .i64 0, .slice none 0 0, .slice none 0 0], .bool false]) w := by kernel_rfl
theorem as_bag_2 (v : Value) (w : World) : (Instr.typeAssert (.iface 84 v) 81 87 true).run Try.prog w = .ok (.tuple #[.agg #[.int .i64 0, .slice none 0 0, .slice none 0 0], .bool false]) w := by kernel_rfl
theorem as_bag_3 (v : Value) (w : World) : (Instr.typeAssert (.iface 85 v) 81 87 true).run Try.prog w = .ok (.tuple #[.agg #[.int .i64 0, .slice none 0 0, .slice none 0 0], .bool false]) w := by kernel_rfl
theorem as_bag_4 (v : Value) (w : World) : (Instr.typeAssert (.iface 87 v) 81 87 true).run Try.prog w = .ok (.tuple #[v, .bool true]) w := by kernel_rfl
theorem as_bag_5 (v : Value) (w : World) : (Instr.typeAssert (.iface 100 v) 81 87 true).run Try.prog w = .ok (.tuple #[.agg #[.int .i64 0, .slice none 0 0, .slice none 0 0], .bool false]) w := by kernel_rfl
theorem as_bag_6 (v : Value) (w : World) : (Instr.typeAssert (.iface 102 v) 81 87 true).run Try.prog w = .ok (.tuple #[.agg #[.int .i64 0, .slice none 0 0, .slice none 0 0], .bool false]) w := by kernel_rfl
theorem as_fun_1 (v : Value) (w : World) : (Instr.typeAssert (.iface 83 v) 81 100 true).run Try.prog w = .ok (.tuple #[.agg #[.int .i64 0, .slice none 0 0, .slice none 0 0], .bool false]) w := by kernel_rfl
theorem as_fun_2 (v : Value) (w : World) : (Instr.typeAssert (.iface 84 v) 81 100 true).run Try.prog w = .ok (.tuple #[.agg #[.int .i64 0, .slice none 0 0, .slice none 0 0], .bool false]) w := by kernel_rfl
theorem as_fun_3 (v : Value) (w : World) : (Instr.typeAssert (.iface 85 v) 81 100 true).run Try.prog w = .ok (.tuple #[.agg #[.int .i64 0, .slice none 0 0, .slice none 0 0], .bool false]) w := by kernel_rfl
theorem as_fun_4 (v : Value) (w : World) : (Instr.typeAssert (.iface 87 v) 81 100 true).run Try.prog w = .ok (.tuple #[.agg #[.int .i64 0, .slice none 0 0, .slice none 0 0], .bool false]) w := by kernel_rfl
theorem as_fun_5 (v : Value) (w : World) : (Instr.typeAssert (.iface 100 v) 81 100 true).run Try.prog w = .ok (.tuple #[v, .bool true]) w := by kernel_rfl
theorem as_fun_6 (v : Value) (w : World) : (Instr.typeAssert (.iface 102 v) 81 100 true).run Try.prog w = .ok (.tuple #[.agg #[.int .i64 0, .slice none 0 0, .slice none 0 0], .bool false]) w := by kernel_rfl
theorem as_int_1 (v : Value) (w : World) : (Instr.typeAssert (.iface 83 v) 81 83 true).run Try.prog w = .ok (.tuple #[v, .bool true]) w := by kernel_rfl
theorem as_int_2 (v : Value) (w : World) : (Instr.typeAssert (.iface 84 v) 81 83 true).run Try.prog w = .ok (.tuple #[.agg #[.int .i64 0, .slice none 0 0, .slice none 0 0], .bool false]) w := by kernel_rfl
theorem as_int_3 (v : Value) (w : World) : (Instr.typeAssert (.iface 85 v) 81 83 true).run Try.prog w = .ok (.tuple #[.agg #[.int .i64 0, .slice none 0 0, .slice none 0 0], .bool false]) w := by kernel_rfl
theorem as_int_4 (v : Value) (w : World) : (Instr.typeAssert (.iface 87 v) 81 83 true).run Try.prog w = .ok (.tuple #[.agg #[.int .i64 0, .slice none 0 0, .slice none 0 0], .bool false]) w := by kernel_rfl
theorem as_int_5 (v : Value) (w : World) : (Instr.typeAssert (.iface 100 v) 81 83 true).run Try.prog w = .ok (.tuple #[.agg #[.int .i64 0, .slice none 0 0, .slice none 0 0], .bool false]) w := by kernel_rfl
theorem as_int_6 (v : Value) (w : World) : (Instr.typeAssert (.iface 102 v) 81 83 true).run Try.prog w = .ok (.tuple #[.agg #[.int .i64 0, .slice none 0 0, .slice none 0 0], .bool false]) w := by kernel_rfl
theorem as_bool_1 (v : Value) (w : World) : (Instr.typeAssert (.iface 83 v) 81 84 true).run Try.prog w = .ok (.tuple #[.agg #[.int .i64 0, .slice none 0 0, .slice none 0 0], .bool false]) w := by kernel_rfl
theorem as_bool_2 (v : Value) (w : World) : (Instr.typeAssert (.iface 84 v) 81 84 true).run Try.prog w = .ok (.tuple #[v, .bool true]) w := by kernel_rfl
theorem as_bool_3 (v : Value) (w : World) : (Instr.typeAssert (.iface 85 v) 81 84 true).run Try.prog w = .ok (.tuple #[.agg #[.int .i64 0, .slice none 0 0, .slice none 0 0], .bool false]) w := by kernel_rfl
theorem as_bool_4 (v : Value) (w : World) : (Instr.typeAssert (.iface 87 v) 81 84 true).run Try.prog w = .ok (.tuple #[.agg #[.int .i64 0, .slice none 0 0, .slice none 0 0], .bool false]) w := by kernel_rfl
theorem as_bool_5 (v : Value) (w : World) : (Instr.typeAssert (.iface 100 v) 81 84 true).run Try.prog w = .ok (.tuple #[.agg #[.int .i64 0, .slice none 0 0, .slice none 0 0], .bool false]) w := by kernel_rfl
theorem as_bool_6 (v : Value) (w : World) : (Instr.typeAssert (.iface 102 v) 81 84 true).run Try.prog w = .ok (.tuple #[.agg #[.int .i64 0, .slice none 0 0, .slice none 0 0], .bool false]) w := by kernel_rfl
/-! the methods that a call through the interface comes to; 100 more than the program has types -/
theorem meth_1 (v : Value) (w : World) : (method 250 83 v "loop.example/g00587/impl.hasItsParts").run Try.prog w = .ok (124, v) w := by kernel_rfl
theorem meth_2 (v : Value) (w : World) : (method 250 84 v "loop.example/g00587/impl.hasItsParts").run Try.prog w = .ok (126, v) w := by kernel_rfl
theorem meth_3 (v : Value) (w : World) : (method 250 85 v "loop.example/g00587/impl.hasItsParts").run Try.prog w = .ok (127, v) w := by kernel_rfl
theorem meth_4 (v : Value) (w : World) : (method 250 87 v "loop.example/g00587/impl.hasItsParts").run Try.prog w = .ok (133, v) w := by kernel_rfl
theorem meth_5 (v : Value) (w : World) : (method 250 100 v "loop.example/g00587/impl.hasItsParts").run Try.prog w = .ok (134, v) w := by kernel_rfl
theorem meth_6 (v : Value) (w : World) : (method 250 102 v "loop.example/g00587/impl.hasItsParts").run Try.prog w = .ok (135, v) w := by kernel_rfl
end Go.Proofs.Ytpcegakpdjmaaaa
