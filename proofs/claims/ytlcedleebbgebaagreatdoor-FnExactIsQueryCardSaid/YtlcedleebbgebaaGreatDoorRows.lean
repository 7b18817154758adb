/-
  NARROWER THAN 'FOR EVERY INPUT', by the rows' own cells (each row's printed sentence says how): FnExactTypeOf: loops, ifaces, laid · FnExactIsQuery: loops, ifaces, laid.
  DERIVED. THE GIVEN ROWS OF THIS SEAT. 2 by the template 'for every input the law returns true; each argument reads behind the call as it read before'; 0 by the template 'total and deterministic' (their statements: YtlcedleebbgebaaGreatDoorTotals.lean).
  GIVEN WITH THE SEED: the statements are not yours to turn. If you find one false, say at which input.
  Laid BY PROGRAM, IN A SANDBOX (cutbox-rows.mjs): the forced cells as the released guide's own fill.sh prints them over the translation f913b83e628949cd… (all of the seat's roots in one cut). By AI agents, Wed Nov 11 2026. No macro, syntax, notation, axiom, sorry.
-/
import Derived.Test.YtlcedleebbgebaaGreatDoorChecked
import GoSem.Claim
import GoSem.ClaimJoined
import GoSem.ClaimMapViews
import Derived.JoinedTies
import Derived.KernelRfl
namespace Go.Proofs.YtlcedleebbgebaaGreatDoor
/- THE CELL 'sum', in the pinned program and in every row, IS THE sha256 OF THE DUMP (.gsa) THAT YtlcedleebbgebaaGreatDoorProg.lean LOADS. Nothing in Lean hashes anything: it is a label: what it is worth is what the hold of that sum in a sandbox is worth. -/
noncomputable def Tryz.pinned : Pinned := { name := "ytlcedleebbgebaagreatdoor", sum := "f913b83e628949cdc7e4612e31247643ade80b6901ca12bd5d5c67e9169a9a39", checked := Tryz.checked }
namespace Rows
def none {H : Type} : Left H := { results := [], args := [] }

/- WHAT THE LISTED PACKAGE-LEVEL VARIABLES READ AS WHEN THE CALL BEGINS. Each datum BY PROGRAM (the guide's laid-datum.mjs) off the statement by which the dump's own 'gosem.cut.vars' lays the variable. In a bare row this is a premise. The card (YtlcedleebbgebaaGreatDoorCards.lean) ties it to the program's text. -/
def laid_loop_example_g00587_impl_termArities {H : Type} : DataW H := .agg [.lit (.int .i64 0), .lit (.int .i64 0), .lit (.int .i64 0), .lit (.int .i64 0), .lit (.int .i64 0), .lit (.int .i64 0), .lit (.int .i64 1), .lit (.int .i64 0), .lit (.int .i64 1), .lit (.int .i64 2), .lit (.int .i64 2), .lit (.int .i64 3), .lit (.int .i64 0), .lit (.int .i64 1), .lit (.int .i64 2), .lit (.int .i64 1), .lit (.int .i64 1)]
def laid_loop_example_g00587_impl_errNoType {H : Type} : DataW H := .iface "*errors.errorString" (.ptr (.agg [.lit (.string [116, 104, 101, 32, 116, 101, 114, 109, 32, 104, 97, 115, 32, 110, 111, 32, 116, 121, 112, 101])]))

/-- 'laws.FnExactTypeOf': WHATEVER THE INPUT: true; the input reads as it did. -/
def fnExactTypeOfSpec : ChangeSpec := { name := "fnExactTypeOf", vars := ["loop.example/g00587/impl.errNoType", "loop.example/g00587/impl.termArities"], fn := fun _ => fun
  | [d1, d2, d3, g1, g2] => { results := [.lit (.bool true)], args := [d1, d2, d3], vars := [g1, g2] }
  | _ => none }
def fnExactTypeOfRow : OpenClaim := { program := "ytlcedleebbgebaagreatdoor", sum := "f913b83e628949cdc7e4612e31247643ade80b6901ca12bd5d5c67e9169a9a39", func := "loop.example/g00587/laws.FnExactTypeOf", spec := "fnExactTypeOf", inPlace := ["internal/reflectlite.TypeOf"], unfollowed := true, recurses := true, named := ["loop.example/g00587/impl.errNoType", "loop.example/g00587/impl.termArities"], ifaces := true, loops := true, apart := false, laid := [("loop.example/g00587/impl.termArities", laid_loop_example_g00587_impl_termArities), ("loop.example/g00587/impl.errNoType", laid_loop_example_g00587_impl_errNoType)] }
def FnExactTypeOfSaid : Prop := fnExactTypeOfRow.holds Tryz.pinned (OpenSpec.ofChange fnExactTypeOfSpec)

/-- ITS FALSE NEIGHBOUR: 'it returns false'. Refute it at one input. -/
def fnExactTypeOfWrong : ChangeSpec := { name := "fnExactTypeOf", vars := ["loop.example/g00587/impl.errNoType", "loop.example/g00587/impl.termArities"], fn := fun _ => fun
  | [d1, d2, d3, g1, g2] => { results := [.lit (.bool false)], args := [d1, d2, d3], vars := [g1, g2] }
  | _ => none }
def FnExactTypeOfWrongFalsely : Prop := fnExactTypeOfRow.holds Tryz.pinned (OpenSpec.ofChange fnExactTypeOfWrong)

/-- 'laws.FnExactIsQuery': WHATEVER THE INPUT: true; the input reads as it did. -/
def fnExactIsQuerySpec : ChangeSpec := { name := "fnExactIsQuery", vars := ["loop.example/g00587/impl.errNoType", "loop.example/g00587/impl.termArities"], fn := fun _ => fun
  | [d1, d2, g1, g2] => { results := [.lit (.bool true)], args := [d1, d2], vars := [g1, g2] }
  | _ => none }
def fnExactIsQueryRow : OpenClaim := { program := "ytlcedleebbgebaagreatdoor", sum := "f913b83e628949cdc7e4612e31247643ade80b6901ca12bd5d5c67e9169a9a39", func := "loop.example/g00587/laws.FnExactIsQuery", spec := "fnExactIsQuery", inPlace := ["internal/reflectlite.TypeOf"], unfollowed := true, recurses := true, named := ["loop.example/g00587/impl.errNoType", "loop.example/g00587/impl.termArities"], ifaces := true, loops := true, apart := false, laid := [("loop.example/g00587/impl.termArities", laid_loop_example_g00587_impl_termArities), ("loop.example/g00587/impl.errNoType", laid_loop_example_g00587_impl_errNoType)] }
def FnExactIsQuerySaid : Prop := fnExactIsQueryRow.holds Tryz.pinned (OpenSpec.ofChange fnExactIsQuerySpec)

/-- ITS FALSE NEIGHBOUR: 'it returns false'. Refute it at one input. -/
def fnExactIsQueryWrong : ChangeSpec := { name := "fnExactIsQuery", vars := ["loop.example/g00587/impl.errNoType", "loop.example/g00587/impl.termArities"], fn := fun _ => fun
  | [d1, d2, g1, g2] => { results := [.lit (.bool false)], args := [d1, d2], vars := [g1, g2] }
  | _ => none }
def FnExactIsQueryWrongFalsely : Prop := fnExactIsQueryRow.holds Tryz.pinned (OpenSpec.ofChange fnExactIsQueryWrong)

/- THE SECOND FORM. 'bulk': how many values and letters a reading holds, each counted each time it is reached (what is shared counts as often as it is met; a slice's spare places count too). A statement '..UptoSaid' is the law's where the arguments, and the package variables that the reading takes, are together of bulk at most 1048576: NARROWER than '..Said'. Prove '..Said' where nothing that the law and all that it calls make is longer than what came in: it says more and counts as full. Else prove '..UptoSaid'. A law counts once. -/
mutual
def uptoBulk {H : Type} : DataW H → Nat
  | .lit (.string bytes) => bytes.length + 1
  | .lit _ => 1
  | .nil => 1
  | .ptr d => uptoBulk d + 1
  | .slice elems spare => uptoBulkAll elems + uptoBulkAll spare + 1
  | .agg parts => uptoBulkAll parts + 1
  | .iface _ d => uptoBulk d + 1
  | .map entries => uptoBulkEntries entries + 1
  | .held _ => 1
def uptoBulkAll {H : Type} : List (DataW H) → Nat
  | [] => 0
  | d :: r => uptoBulk d + uptoBulkAll r
def uptoBulkEntries {H : Type} : List (Lit × DataW H) → Nat
  | [] => 0
  | x :: r => uptoBulkEntry x + uptoBulkEntries r
def uptoBulkEntry {H : Type} : Lit × DataW H → Nat
  | (.string bytes, d) => bytes.length + uptoBulk d + 1
  | (_, d) => uptoBulk d + 1
 end
def uptoSmall : (H : Type) → List (DataW H) → Bool := fun _ ds => decide (uptoBulkAll ds ≤ 1048576)
def OpenSpec.upto (s : _root_.Go.ChangeSpec) : _root_.Go.OpenSpec := { _root_.Go.OpenSpec.ofChange s with cond := some uptoSmall }

/-- 'laws.FnExactTypeOf', WHERE WHAT IT READS IS OF BULK AT MOST 1048576: true; the input reads as it did. -/
def fnExactTypeOfUptoRow : OpenClaim := { program := "ytlcedleebbgebaagreatdoor", sum := "f913b83e628949cdc7e4612e31247643ade80b6901ca12bd5d5c67e9169a9a39", func := "loop.example/g00587/laws.FnExactTypeOf", spec := "fnExactTypeOf", inPlace := ["internal/reflectlite.TypeOf"], unfollowed := true, recurses := true, named := ["loop.example/g00587/impl.errNoType", "loop.example/g00587/impl.termArities"], ifaces := true, loops := true, apart := false, laid := [("loop.example/g00587/impl.termArities", laid_loop_example_g00587_impl_termArities), ("loop.example/g00587/impl.errNoType", laid_loop_example_g00587_impl_errNoType)], narrowed := true }
def FnExactTypeOfUptoSaid : Prop := fnExactTypeOfUptoRow.holds Tryz.pinned (OpenSpec.upto fnExactTypeOfSpec)

/-- 'laws.FnExactIsQuery', WHERE WHAT IT READS IS OF BULK AT MOST 1048576: true; the input reads as it did. -/
def fnExactIsQueryUptoRow : OpenClaim := { program := "ytlcedleebbgebaagreatdoor", sum := "f913b83e628949cdc7e4612e31247643ade80b6901ca12bd5d5c67e9169a9a39", func := "loop.example/g00587/laws.FnExactIsQuery", spec := "fnExactIsQuery", inPlace := ["internal/reflectlite.TypeOf"], unfollowed := true, recurses := true, named := ["loop.example/g00587/impl.errNoType", "loop.example/g00587/impl.termArities"], ifaces := true, loops := true, apart := false, laid := [("loop.example/g00587/impl.termArities", laid_loop_example_g00587_impl_termArities), ("loop.example/g00587/impl.errNoType", laid_loop_example_g00587_impl_errNoType)], narrowed := true }
def FnExactIsQueryUptoSaid : Prop := fnExactIsQueryUptoRow.holds Tryz.pinned (OpenSpec.upto fnExactIsQuerySpec)

end Rows
end Go.Proofs.YtlcedleebbgebaaGreatDoor
