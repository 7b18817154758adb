/-
  NARROWER THAN 'FOR EVERY INPUT', by the rows' own cells (each row's printed sentence says how): FnExactIsSchema: loops · FnExactRowType: loops · FnExactRowsOf: loops · FnExactEmptyDB: loops · FnExactEqualSchema: loops · FnExactEqualDB: loops.
  DERIVED. THE GIVEN ROWS OF THIS SEAT. 6 by the template 'for every input the law returns true; each argument reads behind the call as it read before'; 0 by the template 'total and deterministic' (their statements: YtlcpekpgkllbkaaTotals.lean).
  GIVEN WITH THE SEED: the statements are not yours to turn. If you find one false, say at which input.
  Laid BY PROGRAM, IN A SANDBOX (cutbox-rows.mjs): the forced cells as the released guide's own fill.sh prints them over the translation fbe888928318e423… (all of the seat's roots in one cut). By AI agents, Wed Nov 11 2026. No macro, syntax, notation, axiom, sorry.
-/
import Derived.Test.YtlcpekpgkllbkaaChecked
import GoSem.Claim
import GoSem.ClaimJoined
import GoSem.ClaimMapViews
import Derived.JoinedTies
import Derived.KernelRfl
namespace Go.Proofs.Ytlcpekpgkllbkaa
/- THE CELL 'sum', in the pinned program and in every row, IS THE sha256 OF THE DUMP (.gsa) THAT YtlcpekpgkllbkaaProg.lean LOADS. Nothing in Lean hashes anything: it is a label: what it is worth is what the hold of that sum in a sandbox is worth. -/
noncomputable def Try.pinned : Pinned := { name := "ytlcpekpgkllbkaa", sum := "fbe888928318e423641ca59252d6d90f6edc4b29472cd2d5867cc88c71dd7ea8", checked := Try.checked }
namespace Rows
def none {H : Type} : Left H := { results := [], args := [] }

/-- 'laws.FnExactIsSchema': WHATEVER THE INPUT: true; the input reads as it did. -/
def fnExactIsSchemaSpec : ChangeSpec := { name := "fnExactIsSchema", fn := fun _ => fun
  | [d] => { results := [.lit (.bool true)], args := [d] }
  | _ => none }
def fnExactIsSchemaRow : OpenClaim := { program := "ytlcpekpgkllbkaa", sum := "fbe888928318e423641ca59252d6d90f6edc4b29472cd2d5867cc88c71dd7ea8", func := "loop.example/g00587/laws.FnExactIsSchema", spec := "fnExactIsSchema", unfollowed := true, recurses := true, loops := true, apart := false }
def FnExactIsSchemaSaid : Prop := fnExactIsSchemaRow.holds Try.pinned (OpenSpec.ofChange fnExactIsSchemaSpec)

/-- ITS FALSE NEIGHBOUR: 'it returns false'. Refute it at one input. -/
def fnExactIsSchemaWrong : ChangeSpec := { name := "fnExactIsSchema", fn := fun _ => fun
  | [d] => { results := [.lit (.bool false)], args := [d] }
  | _ => none }
def FnExactIsSchemaWrongFalsely : Prop := fnExactIsSchemaRow.holds Try.pinned (OpenSpec.ofChange fnExactIsSchemaWrong)

/-- 'laws.FnExactRowType': WHATEVER THE INPUT: true; the input reads as it did. -/
def fnExactRowTypeSpec : ChangeSpec := { name := "fnExactRowType", fn := fun _ => fun
  | [d1, d2] => { results := [.lit (.bool true)], args := [d1, d2] }
  | _ => none }
def fnExactRowTypeRow : OpenClaim := { program := "ytlcpekpgkllbkaa", sum := "fbe888928318e423641ca59252d6d90f6edc4b29472cd2d5867cc88c71dd7ea8", func := "loop.example/g00587/laws.FnExactRowType", spec := "fnExactRowType", unfollowed := true, recurses := true, loops := true, apart := false }
def FnExactRowTypeSaid : Prop := fnExactRowTypeRow.holds Try.pinned (OpenSpec.ofChange fnExactRowTypeSpec)

/-- ITS FALSE NEIGHBOUR: 'it returns false'. Refute it at one input. -/
def fnExactRowTypeWrong : ChangeSpec := { name := "fnExactRowType", fn := fun _ => fun
  | [d1, d2] => { results := [.lit (.bool false)], args := [d1, d2] }
  | _ => none }
def FnExactRowTypeWrongFalsely : Prop := fnExactRowTypeRow.holds Try.pinned (OpenSpec.ofChange fnExactRowTypeWrong)

/-- 'laws.FnExactRowsOf': WHATEVER THE INPUT: true; the input reads as it did. -/
def fnExactRowsOfSpec : ChangeSpec := { name := "fnExactRowsOf", fn := fun _ => fun
  | [d1, d2] => { results := [.lit (.bool true)], args := [d1, d2] }
  | _ => none }
def fnExactRowsOfRow : OpenClaim := { program := "ytlcpekpgkllbkaa", sum := "fbe888928318e423641ca59252d6d90f6edc4b29472cd2d5867cc88c71dd7ea8", func := "loop.example/g00587/laws.FnExactRowsOf", spec := "fnExactRowsOf", unfollowed := true, recurses := true, loops := true, apart := false }
def FnExactRowsOfSaid : Prop := fnExactRowsOfRow.holds Try.pinned (OpenSpec.ofChange fnExactRowsOfSpec)

/-- ITS FALSE NEIGHBOUR: 'it returns false'. Refute it at one input. -/
def fnExactRowsOfWrong : ChangeSpec := { name := "fnExactRowsOf", fn := fun _ => fun
  | [d1, d2] => { results := [.lit (.bool false)], args := [d1, d2] }
  | _ => none }
def FnExactRowsOfWrongFalsely : Prop := fnExactRowsOfRow.holds Try.pinned (OpenSpec.ofChange fnExactRowsOfWrong)

/-- 'laws.FnExactEmptyDB': WHATEVER THE INPUT: true; the input reads as it did. -/
def fnExactEmptyDBSpec : ChangeSpec := { name := "fnExactEmptyDB", fn := fun _ => fun
  | [d] => { results := [.lit (.bool true)], args := [d] }
  | _ => none }
def fnExactEmptyDBRow : OpenClaim := { program := "ytlcpekpgkllbkaa", sum := "fbe888928318e423641ca59252d6d90f6edc4b29472cd2d5867cc88c71dd7ea8", func := "loop.example/g00587/laws.FnExactEmptyDB", spec := "fnExactEmptyDB", recurses := true, loops := true, apart := false }
def FnExactEmptyDBSaid : Prop := fnExactEmptyDBRow.holds Try.pinned (OpenSpec.ofChange fnExactEmptyDBSpec)

/-- ITS FALSE NEIGHBOUR: 'it returns false'. Refute it at one input. -/
def fnExactEmptyDBWrong : ChangeSpec := { name := "fnExactEmptyDB", fn := fun _ => fun
  | [d] => { results := [.lit (.bool false)], args := [d] }
  | _ => none }
def FnExactEmptyDBWrongFalsely : Prop := fnExactEmptyDBRow.holds Try.pinned (OpenSpec.ofChange fnExactEmptyDBWrong)

/-- 'laws.FnExactEqualSchema': WHATEVER THE INPUT: true; the input reads as it did. -/
def fnExactEqualSchemaSpec : ChangeSpec := { name := "fnExactEqualSchema", fn := fun _ => fun
  | [d1, d2] => { results := [.lit (.bool true)], args := [d1, d2] }
  | _ => none }
def fnExactEqualSchemaRow : OpenClaim := { program := "ytlcpekpgkllbkaa", sum := "fbe888928318e423641ca59252d6d90f6edc4b29472cd2d5867cc88c71dd7ea8", func := "loop.example/g00587/laws.FnExactEqualSchema", spec := "fnExactEqualSchema", unfollowed := true, recurses := true, loops := true, apart := false }
def FnExactEqualSchemaSaid : Prop := fnExactEqualSchemaRow.holds Try.pinned (OpenSpec.ofChange fnExactEqualSchemaSpec)

/-- ITS FALSE NEIGHBOUR: 'it returns false'. Refute it at one input. -/
def fnExactEqualSchemaWrong : ChangeSpec := { name := "fnExactEqualSchema", fn := fun _ => fun
  | [d1, d2] => { results := [.lit (.bool false)], args := [d1, d2] }
  | _ => none }
def FnExactEqualSchemaWrongFalsely : Prop := fnExactEqualSchemaRow.holds Try.pinned (OpenSpec.ofChange fnExactEqualSchemaWrong)

/-- 'laws.FnExactEqualDB': WHATEVER THE INPUT: true; the input reads as it did. -/
def fnExactEqualDBSpec : ChangeSpec := { name := "fnExactEqualDB", fn := fun _ => fun
  | [d1, d2] => { results := [.lit (.bool true)], args := [d1, d2] }
  | _ => none }
def fnExactEqualDBRow : OpenClaim := { program := "ytlcpekpgkllbkaa", sum := "fbe888928318e423641ca59252d6d90f6edc4b29472cd2d5867cc88c71dd7ea8", func := "loop.example/g00587/laws.FnExactEqualDB", spec := "fnExactEqualDB", unfollowed := true, recurses := true, loops := true, apart := false }
def FnExactEqualDBSaid : Prop := fnExactEqualDBRow.holds Try.pinned (OpenSpec.ofChange fnExactEqualDBSpec)

/-- ITS FALSE NEIGHBOUR: 'it returns false'. Refute it at one input. -/
def fnExactEqualDBWrong : ChangeSpec := { name := "fnExactEqualDB", fn := fun _ => fun
  | [d1, d2] => { results := [.lit (.bool false)], args := [d1, d2] }
  | _ => none }
def FnExactEqualDBWrongFalsely : Prop := fnExactEqualDBRow.holds Try.pinned (OpenSpec.ofChange fnExactEqualDBWrong)

/- THE SECOND FORM. 'bulk': how many values and letters a reading holds, each counted each time it is reached (what is shared counts as often as it is met; a slice's spare places count too). A statement '..UptoSaid' is the law's where the arguments, and the package variables that the reading takes, are together of bulk at most 1048576: NARROWER than '..Said'. Prove '..Said' where nothing that the law and all that it calls make is longer than what came in: it says more and counts as full. Else prove '..UptoSaid'. A law counts once. -/
mutual
def uptoBulk {H : Type} : DataW H → Nat
  | .lit (.string bytes) => bytes.length + 1
  | .lit _ => 1
  | .nil => 1
  | .ptr d => uptoBulk d + 1
  | .slice elems spare => uptoBulkAll elems + uptoBulkAll spare + 1
  | .agg parts => uptoBulkAll parts + 1
  | .iface _ d => uptoBulk d + 1
  | .map entries => uptoBulkEntries entries + 1
  | .held _ => 1
def uptoBulkAll {H : Type} : List (DataW H) → Nat
  | [] => 0
  | d :: r => uptoBulk d + uptoBulkAll r
def uptoBulkEntries {H : Type} : List (Lit × DataW H) → Nat
  | [] => 0
  | x :: r => uptoBulkEntry x + uptoBulkEntries r
def uptoBulkEntry {H : Type} : Lit × DataW H → Nat
  | (.string bytes, d) => bytes.length + uptoBulk d + 1
  | (_, d) => uptoBulk d + 1
 end
def uptoSmall : (H : Type) → List (DataW H) → Bool := fun _ ds => decide (uptoBulkAll ds ≤ 1048576)
def OpenSpec.upto (s : _root_.Go.ChangeSpec) : _root_.Go.OpenSpec := { _root_.Go.OpenSpec.ofChange s with cond := some uptoSmall }

/-- 'laws.FnExactIsSchema', WHERE WHAT IT READS IS OF BULK AT MOST 1048576: true; the input reads as it did. -/
def fnExactIsSchemaUptoRow : OpenClaim := { program := "ytlcpekpgkllbkaa", sum := "fbe888928318e423641ca59252d6d90f6edc4b29472cd2d5867cc88c71dd7ea8", func := "loop.example/g00587/laws.FnExactIsSchema", spec := "fnExactIsSchema", unfollowed := true, recurses := true, loops := true, apart := false, narrowed := true }
def FnExactIsSchemaUptoSaid : Prop := fnExactIsSchemaUptoRow.holds Try.pinned (OpenSpec.upto fnExactIsSchemaSpec)

/-- 'laws.FnExactRowType', WHERE WHAT IT READS IS OF BULK AT MOST 1048576: true; the input reads as it did. -/
def fnExactRowTypeUptoRow : OpenClaim := { program := "ytlcpekpgkllbkaa", sum := "fbe888928318e423641ca59252d6d90f6edc4b29472cd2d5867cc88c71dd7ea8", func := "loop.example/g00587/laws.FnExactRowType", spec := "fnExactRowType", unfollowed := true, recurses := true, loops := true, apart := false, narrowed := true }
def FnExactRowTypeUptoSaid : Prop := fnExactRowTypeUptoRow.holds Try.pinned (OpenSpec.upto fnExactRowTypeSpec)

/-- 'laws.FnExactRowsOf', WHERE WHAT IT READS IS OF BULK AT MOST 1048576: true; the input reads as it did. -/
def fnExactRowsOfUptoRow : OpenClaim := { program := "ytlcpekpgkllbkaa", sum := "fbe888928318e423641ca59252d6d90f6edc4b29472cd2d5867cc88c71dd7ea8", func := "loop.example/g00587/laws.FnExactRowsOf", spec := "fnExactRowsOf", unfollowed := true, recurses := true, loops := true, apart := false, narrowed := true }
def FnExactRowsOfUptoSaid : Prop := fnExactRowsOfUptoRow.holds Try.pinned (OpenSpec.upto fnExactRowsOfSpec)

/-- 'laws.FnExactEmptyDB', WHERE WHAT IT READS IS OF BULK AT MOST 1048576: true; the input reads as it did. -/
def fnExactEmptyDBUptoRow : OpenClaim := { program := "ytlcpekpgkllbkaa", sum := "fbe888928318e423641ca59252d6d90f6edc4b29472cd2d5867cc88c71dd7ea8", func := "loop.example/g00587/laws.FnExactEmptyDB", spec := "fnExactEmptyDB", recurses := true, loops := true, apart := false, narrowed := true }
def FnExactEmptyDBUptoSaid : Prop := fnExactEmptyDBUptoRow.holds Try.pinned (OpenSpec.upto fnExactEmptyDBSpec)

/-- 'laws.FnExactEqualSchema', WHERE WHAT IT READS IS OF BULK AT MOST 1048576: true; the input reads as it did. -/
def fnExactEqualSchemaUptoRow : OpenClaim := { program := "ytlcpekpgkllbkaa", sum := "fbe888928318e423641ca59252d6d90f6edc4b29472cd2d5867cc88c71dd7ea8", func := "loop.example/g00587/laws.FnExactEqualSchema", spec := "fnExactEqualSchema", unfollowed := true, recurses := true, loops := true, apart := false, narrowed := true }
def FnExactEqualSchemaUptoSaid : Prop := fnExactEqualSchemaUptoRow.holds Try.pinned (OpenSpec.upto fnExactEqualSchemaSpec)

/-- 'laws.FnExactEqualDB', WHERE WHAT IT READS IS OF BULK AT MOST 1048576: true; the input reads as it did. -/
def fnExactEqualDBUptoRow : OpenClaim := { program := "ytlcpekpgkllbkaa", sum := "fbe888928318e423641ca59252d6d90f6edc4b29472cd2d5867cc88c71dd7ea8", func := "loop.example/g00587/laws.FnExactEqualDB", spec := "fnExactEqualDB", unfollowed := true, recurses := true, loops := true, apart := false, narrowed := true }
def FnExactEqualDBUptoSaid : Prop := fnExactEqualDBUptoRow.holds Try.pinned (OpenSpec.upto fnExactEqualDBSpec)

end Rows
end Go.Proofs.Ytlcpekpgkllbkaa
