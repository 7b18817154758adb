/-
  Merged by program: FmtI, JoinI.
-/
import Derived.Test.YtckoookgjhngkaaDoorFV20
import Derived.Test.YtckoookgjhngkaaDoorShelf
import Derived.Test.YtckoookgjhngkaaDoorFV1
import Derived.Test.YtckoookgjhngkaaDoorRows
import Derived.Deep.DeepHandedRow
import Derived.Lib.LaidTab
import Derived.Test.YtckoookgjhngkaaDoorFV12

/-
  The program's FormatInt, by the library's contract; the table of powers that the row lists.
-/
namespace Go.Proofs.YtckoookgjhngkaaDoor
open Go.RowKit

theorem laidMet_tail {P : Program} {x : String × DataW Unit} {r : List (String × DataW Unit)} {W : World} (h : laidMet P (x :: r) W) : laidMet P r W := by
  obtain ⟨ps, hv, hn, hp⟩ := h
  obtain ⟨n, d⟩ := x
  obtain ⟨g, t, cs, fuel, p, q, _, _, _, _, hq, rfl⟩ := hv
  exact ⟨q, hq, (List.nodup_append.1 hn).2.1, fun b off hm => hp b off (List.mem_append_right _ hm)⟩

theorem gPow : Tryd.prog.globalNamed "internal/strconv.uint64pow10" = some 0 := by kernel_rfl
theorem gPowType : (Tryd.prog.globals[0]?).map (·.type) = some 80 := by kernel_rfl
theorem cellsPow : Tryd.prog.cellsOf 80 = 20 := by kernel_rfl
theorem cellsU64 : Tryd.prog.cellsOf 72 = 1 := by kernel_rfl

theorem pow_of_laid {W : World} {rest : List (String × DataW Unit)} (h : laidMet Tryd.prog (("internal/strconv.uint64pow10", Rows.laid_internal_strconv_uint64pow10) :: rest) W) : Lib.TabIs Tryd.prog W "internal/strconv.uint64pow10" .u64 Lib.pow10Tab :=
  Lib.tabIs_of_head gPow gPowType Tryd.underlying80 Tryd.underlying72 cellsU64 cellsPow (show laidMet Tryd.prog (("internal/strconv.uint64pow10", Lib.tabData .u64 Lib.pow10Tab) :: rest) W from h)

theorem below_grown_by (w : World) (k : Nat) (os : Array Obj) : Below w.heap.size w (Sort.grow (w.drewN k) os) :=
  ⟨rfl, rfl, rfl, by show w.heap.size ≤ (w.heap ++ os).size; rw [Array.size_append]; omega, fun j hj => by
    show (w.heap ++ os)[j]? = w.heap[j]?
    exact Array.getElem?_append_left hj⟩

theorem implFmtInt_any (n : Int) (h0 : -9223372036854775808 ≤ n) (h1 : n ≤ 9223372036854775807) (w : World) (htab : Lib.TabIs Tryd.prog w "internal/strconv.uint64pow10" .u64 Lib.pow10Tab) :
    Calls Tryd.prog 27 #[.int .i64 n] w (Text (Lib.itoa n) w) := by
  have HT := Lib.hid htab
  clear htab
  go_enter Tryd.func27, Tryd.ntmps27
  go_wp2_with (go_at_call 37; refine (Tryd.strconv_Itoa n h0 h1 _ HT.out).mono ?_; rintro e w' ⟨rfl, k, os, rfl⟩)
  go_ret
  exact ⟨rfl, below_grown_by _ _ _⟩

theorem tab_below {w w' : World} {name : String} {k : IntKind} {zs : List Int} {g : Nat} (hg : Tryd.prog.globalNamed name = some g) (hlt : g < w.heap.size) (h : Lib.TabIs Tryd.prog w name k zs) (hb : Below w.heap.size w w') : Lib.TabIs Tryd.prog w' name k zs := by
  unfold Lib.TabIs World.var? at h ⊢
  rw [hg] at h ⊢
  simpa [hb.block g hlt] using h

end Go.Proofs.YtckoookgjhngkaaDoor

/-
  The program's Join, by the library's contract.
-/
namespace Go.Proofs.YtckoookgjhngkaaDoor
open Go.RowKit

set_option maxHeartbeats 400000 in
theorem implJoin_any (g c : Nat) (xs : List ByteArray) (sp : ByteArray) (w : World) (h : Sl w (some ⟨g, 0, none⟩) (xs.map Value.string)) (hc : xs.length ≤ c) (hn : xs.length ≤ 1048576)
    (hsz : xs.length * sp.size + total xs ≤ 35184372088832) :
    Calls Tryd.prog 38 #[.slice (some ⟨g, 0, none⟩) xs.length c, .string sp] w (Text (jn xs sp) w) := by
  have hl := jn_len xs sp
  rcases Nat.eq_zero_or_pos xs.length with h0 | h0
  · obtain rfl : xs = [] := List.eq_nil_of_length_eq_zero h0
    go_enter Tryd.func38, Tryd.ntmps38
    go_wp2_with (go_at_call 48; refine (Tryd.strings_Join_none _ _ _ _).mono ?_; rintro e w' ⟨rfl, rfl⟩)
    go_ret
    exact ⟨rfl, Below.refl _ _⟩
  · have hcells : ∀ (j : Nat) x, xs[j]? = some x → w.cell? ⟨g, 0 + j, none⟩ = some (.string x) := by
      intro j x hj
      obtain ⟨ad, e, hcc⟩ := h j (.string x) (by simp [hj])
      injection e with e
      subst e
      rwa [Addr.add_lit] at hcc
    have hbk : g < w.heap.size := World.block_lt_of_cell? w _ (hcells 0 xs[0] (List.getElem?_eq_getElem h0))
    have HC := Lib.hid hcells
    clear hcells h
    go_enter Tryd.func38, Tryd.ntmps38
    go_wp2_with (go_at_call 48; refine (Tryd.strings_Join g 0 c xs sp _ HC.out hbk (by omega) hc (by show (jn xs sp).length ≤ _; omega)).mono ?_; rintro e w' ⟨rfl, hb⟩)
    go_ret
    exact ⟨rfl, hb⟩

end Go.Proofs.YtckoookgjhngkaaDoor
