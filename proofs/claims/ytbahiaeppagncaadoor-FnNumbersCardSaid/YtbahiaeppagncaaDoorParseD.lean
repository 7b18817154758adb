/-
  ParseNumber and ParseInt: the deferred recover turns the panic into 0 and false.
-/
import Derived.Test.YtbahiaeppagncaaDoorParseC
namespace Go.Proofs.YtbahiaeppagncaaDoor
open Go.RowKit

theorem catchN_panicking (p : Addr) (x : Value) (u : TypeId) (pv : Value) (older : List PanicEntry) (w : World) (hc : w.cell? p = some x) (hz : w.frozen? p = false) :
    CallsD Tryd.prog 32 #[.pointer (some p)] (.panicking ({ v := .iface u pv, recovered := false } :: older)) w fun e u' w' =>
      e = .returned (.tuple #[]) ∧ u' = .panicking ({ v := .iface u pv, recovered := true } :: older) ∧ w' = w.setCell p (.bool false) := by
  refine callsD_of_wpS Tryd.func32 rfl fun c₀ cs hu => ?_
  apply wpS_region
  simp [wpOpsS, go_sem, recoverD, hu, Tryd.ntmps32, hc, hz, bodyPostS, results, Tryd.results32]
theorem catchN_idle (p : Addr) (x : Value) (w : World) (hc : w.cell? p = some x) (hz : w.frozen? p = false) :
    CallsD Tryd.prog 32 #[.pointer (some p)] .returning w fun e u' w' => e = .returned (.tuple #[]) ∧ u' = .returning ∧ w' = w.setCell p (.bool true) := by
  refine callsD_of_wpS Tryd.func32 rfl fun c₀ cs hu => ?_
  apply wpS_region
  simp [wpOpsS, go_sem, recoverD, hu, Tryd.ntmps32, hc, hz, bodyPostS, results, Tryd.results32]
  cases c₀
  simp_all

theorem catchI_panicking (p : Addr) (x : Value) (u : TypeId) (pv : Value) (older : List PanicEntry) (w : World) (hc : w.cell? p = some x) (hz : w.frozen? p = false) :
    CallsD Tryd.prog 28 #[.pointer (some p)] (.panicking ({ v := .iface u pv, recovered := false } :: older)) w fun e u' w' =>
      e = .returned (.tuple #[]) ∧ u' = .panicking ({ v := .iface u pv, recovered := true } :: older) ∧ w' = w.setCell p (.bool false) := by
  refine callsD_of_wpS Tryd.func28 rfl fun c₀ cs hu => ?_
  apply wpS_region
  simp [wpOpsS, go_sem, recoverD, hu, Tryd.ntmps28, hc, hz, bodyPostS, results, Tryd.results28]
theorem catchI_idle (p : Addr) (x : Value) (w : World) (hc : w.cell? p = some x) (hz : w.frozen? p = false) :
    CallsD Tryd.prog 28 #[.pointer (some p)] .returning w fun e u' w' => e = .returned (.tuple #[]) ∧ u' = .returning ∧ w' = w.setCell p (.bool true) := by
  refine callsD_of_wpS Tryd.func28 rfl fun c₀ cs hu => ?_
  apply wpS_region
  simp [wpOpsS, go_sem, recoverD, hu, Tryd.ntmps28, hc, hz, bodyPostS, results, Tryd.results28]
  cases c₀
  simp_all

/-- what the program's parsing answers -/
def Parsed (s : ByteArray) (lo hi : Int) (w : World) (e : Ending) (w' : World) : Prop :=
  ∃ (n : Int) (b : Bool), e = .returned (.tuple #[.int .i64 n, .bool b]) ∧ Below w.heap.size w w' ∧
    ((b = true ∧ lo ≤ n ∧ n ≤ hi ∧ Lib.itoa n = s.data.toList) ∨ (b = false ∧ n = 0 ∧ ∀ v, lo ≤ v → v ≤ hi → Lib.itoa v ≠ s.data.toList))

set_option maxHeartbeats 800000 in
theorem implN_any (s : ByteArray) (hs : s.size ≤ 281474976710656) (w : World) (hv : Vars w) :
    Calls Tryd.prog 15 #[.string s] w (Parsed s (0) 999999 w) := by
  have hmf : ∀ (fn : Fn) (first cap : Array Value) (w : World), (Instr.makeFunc fn first cap).run Tryd.prog w = .ok (.func fn first cap) w := fun _ _ _ _ => rfl
  have HV := Lib.hid hv
  clear hv
  have hb0 : Below w.heap.size w (w.alloc (.cells #[.bool false] 4)) := (Below.refl _ _).alloc (Nat.le_refl _) _
  go_enter_defers Tryd.func15, Tryd.ntmps15
  go_wp2_with fail
  refine (must_any s (0) 999999 hs (by omega) (by omega) _ (HV.out.below hb0)).mono ?_
  rintro e w1 hm
  have hg : ∀ (b' : Below (w.alloc (.cells #[.bool false] 4)).heap.size (w.alloc (.cells #[.bool false] 4)) w1), w1.cell? ⟨w.heap.size, 0, none⟩ = some (.bool false) ∧ w1.frozen? ⟨w.heap.size, 0, none⟩ = false := fun b' =>
    ⟨(b'.cell (by simp)).trans (World.cell?_alloc_at _ _ _ _ rfl), (b'.frozen (by simp)).trans (World.frozen?_alloc_at _ _ _ _ rfl)⟩
  rcases hm with ⟨v, h1, h2, h3, rfl, hb⟩ | ⟨hno, sv, rfl, hb⟩
  · obtain ⟨hc, hz⟩ := hg hb
    have HP : Hid (∀ x : World, Below w.heap.size w x → Parsed s (0) 999999 w (.returned (.tuple #[.int .i64 v, .bool true])) x) := fun x hx => ⟨v, true, rfl, hx, .inl ⟨rfl, h1, h2, h3⟩⟩
    have HB := Lib.hid (hb0.trans (hb.mono hb0.size))
    clear h1 h2 h3 hb hb0 hg
    go_wp2_with fail
    refine leaves_cons (f := 32) (args := #[.pointer (some ⟨w.heap.size, 0, none⟩)]) (by simp) (by simp [go_sem]) ?_
    refine (catchN_idle ⟨w.heap.size, 0, none⟩ (.bool true) _ ?_ ?_).mono ?_
    · simp [go_sem, hc]
    · simp [go_sem, hz]
    rintro e u' w2 ⟨rfl, rfl, rfl⟩
    have hc2 : ((w1.setCell ⟨w.heap.size, 0, none⟩ (.bool true)).setCell ⟨w.heap.size, 0, none⟩ (.bool true)).cell? ⟨w.heap.size, 0, none⟩ = some (.bool true) := by simp [go_sem, hc]
    simp [Leaves, settle, results, Tryd.results15, go_sem, hc2]
    exact HP.out _ ((HB.out.setCell (Nat.le_refl _) _).setCell (Nat.le_refl _) _)
  · obtain ⟨hc, hz⟩ := hg hb
    have HP : Hid (∀ x : World, Below w.heap.size w x → Parsed s (0) 999999 w (.returned (.tuple #[.int .i64 0, .bool false])) x) := fun x hx => ⟨0, false, rfl, hx, .inr ⟨rfl, rfl, hno⟩⟩
    have HB := Lib.hid (hb0.trans (hb.mono hb0.size))
    clear hno hb hb0 hg
    go_wp2_with fail
    refine leaves_cons (f := 32) (args := #[.pointer (some ⟨w.heap.size, 0, none⟩)]) (by simp) (by simp [go_sem]) ?_
    refine (catchN_panicking ⟨w.heap.size, 0, none⟩ (.bool false) _ _ [] _ ?_ ?_).mono ?_
    · exact hc
    · exact hz
    rintro e u' w2 ⟨rfl, rfl, rfl⟩
    simp [Leaves, settle, results, Tryd.results15, go_sem, hc]
    exact HP.out _ (HB.out.setCell (Nat.le_refl _) _)

set_option maxHeartbeats 800000 in
theorem implI_any (s : ByteArray) (hs : s.size ≤ 281474976710656) (w : World) (hv : Vars w) :
    Calls Tryd.prog 12 #[.string s] w (Parsed s (-999999999999) 999999999999 w) := by
  have hmf : ∀ (fn : Fn) (first cap : Array Value) (w : World), (Instr.makeFunc fn first cap).run Tryd.prog w = .ok (.func fn first cap) w := fun _ _ _ _ => rfl
  have HV := Lib.hid hv
  clear hv
  have hb0 : Below w.heap.size w (w.alloc (.cells #[.bool false] 4)) := (Below.refl _ _).alloc (Nat.le_refl _) _
  go_enter_defers Tryd.func12, Tryd.ntmps12
  go_wp2_with fail
  refine (must_any s (-999999999999) 999999999999 hs (by omega) (by omega) _ (HV.out.below hb0)).mono ?_
  rintro e w1 hm
  have hg : ∀ (b' : Below (w.alloc (.cells #[.bool false] 4)).heap.size (w.alloc (.cells #[.bool false] 4)) w1), w1.cell? ⟨w.heap.size, 0, none⟩ = some (.bool false) ∧ w1.frozen? ⟨w.heap.size, 0, none⟩ = false := fun b' =>
    ⟨(b'.cell (by simp)).trans (World.cell?_alloc_at _ _ _ _ rfl), (b'.frozen (by simp)).trans (World.frozen?_alloc_at _ _ _ _ rfl)⟩
  rcases hm with ⟨v, h1, h2, h3, rfl, hb⟩ | ⟨hno, sv, rfl, hb⟩
  · obtain ⟨hc, hz⟩ := hg hb
    have HP : Hid (∀ x : World, Below w.heap.size w x → Parsed s (-999999999999) 999999999999 w (.returned (.tuple #[.int .i64 v, .bool true])) x) := fun x hx => ⟨v, true, rfl, hx, .inl ⟨rfl, h1, h2, h3⟩⟩
    have HB := Lib.hid (hb0.trans (hb.mono hb0.size))
    clear h1 h2 h3 hb hb0 hg
    go_wp2_with fail
    refine leaves_cons (f := 28) (args := #[.pointer (some ⟨w.heap.size, 0, none⟩)]) (by simp) (by simp [go_sem]) ?_
    refine (catchI_idle ⟨w.heap.size, 0, none⟩ (.bool true) _ ?_ ?_).mono ?_
    · simp [go_sem, hc]
    · simp [go_sem, hz]
    rintro e u' w2 ⟨rfl, rfl, rfl⟩
    have hc2 : ((w1.setCell ⟨w.heap.size, 0, none⟩ (.bool true)).setCell ⟨w.heap.size, 0, none⟩ (.bool true)).cell? ⟨w.heap.size, 0, none⟩ = some (.bool true) := by simp [go_sem, hc]
    simp [Leaves, settle, results, Tryd.results12, go_sem, hc2]
    exact HP.out _ ((HB.out.setCell (Nat.le_refl _) _).setCell (Nat.le_refl _) _)
  · obtain ⟨hc, hz⟩ := hg hb
    have HP : Hid (∀ x : World, Below w.heap.size w x → Parsed s (-999999999999) 999999999999 w (.returned (.tuple #[.int .i64 0, .bool false])) x) := fun x hx => ⟨0, false, rfl, hx, .inr ⟨rfl, rfl, hno⟩⟩
    have HB := Lib.hid (hb0.trans (hb.mono hb0.size))
    clear hno hb hb0 hg
    go_wp2_with fail
    refine leaves_cons (f := 28) (args := #[.pointer (some ⟨w.heap.size, 0, none⟩)]) (by simp) (by simp [go_sem]) ?_
    refine (catchI_panicking ⟨w.heap.size, 0, none⟩ (.bool false) _ _ [] _ ?_ ?_).mono ?_
    · exact hc
    · exact hz
    rintro e u' w2 ⟨rfl, rfl, rfl⟩
    simp [Leaves, settle, results, Tryd.results12, go_sem, hc]
    exact HP.out _ (HB.out.setCell (Nat.le_refl _) _)
end Go.Proofs.YtbahiaeppagncaaDoor
