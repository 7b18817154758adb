/-
  NARROWER THAN 'FOR EVERY INPUT', by the rows' own cells (each row's printed sentence says how): FnExactSizeOfValue: loops · FnExactHasType: loops · FnExactCompareValues: loops · FnExactCanonValue: loops · FnExactSameBag: loops · FnExactCountIn: loops · FnExactIsCtx: loops.
  DERIVED. THE GIVEN ROWS OF THIS SEAT. 7 by the template 'for every input the law returns true; each argument reads behind the call as it read before'; 0 by the template 'total and deterministic' (their statements: YtlikmgkjilmjpaaTotals.lean).
  GIVEN WITH THE SEED: the statements are not yours to turn. If you find one false, say at which input.
  Laid BY PROGRAM, IN A SANDBOX (cutbox-rows.mjs): the forced cells as the released guide's own fill.sh prints them over the translation d1b552408c4ca8f9… (all of the seat's roots in one cut). By AI agents, Wed Nov 11 2026. No macro, syntax, notation, axiom, sorry.
-/
import Derived.Test.YtlikmgkjilmjpaaChecked
import GoSem.Claim
import GoSem.ClaimJoined
import GoSem.ClaimMapViews
import Derived.JoinedTies
import Derived.KernelRfl
namespace Go.Proofs.Ytlikmgkjilmjpaa
/- THE CELL 'sum', in the pinned program and in every row, IS THE sha256 OF THE DUMP (.gsa) THAT YtlikmgkjilmjpaaProg.lean LOADS. Nothing in Lean hashes anything: it is a label: what it is worth is what the hold of that sum in a sandbox is worth. -/
noncomputable def Try.pinned : Pinned := { name := "ytlikmgkjilmjpaa", sum := "d1b552408c4ca8f903560a5e0fe0179ccf0cf836d0020ea2acd949ce75218927", checked := Try.checked }
namespace Rows
def none {H : Type} : Left H := { results := [], args := [] }

/-- 'laws.FnExactSizeOfValue': WHATEVER THE INPUT: true; the input reads as it did. -/
def fnExactSizeOfValueSpec : ChangeSpec := { name := "fnExactSizeOfValue", fn := fun _ => fun
  | [d] => { results := [.lit (.bool true)], args := [d] }
  | _ => none }
def fnExactSizeOfValueRow : OpenClaim := { program := "ytlikmgkjilmjpaa", sum := "d1b552408c4ca8f903560a5e0fe0179ccf0cf836d0020ea2acd949ce75218927", func := "loop.example/g00587/laws.FnExactSizeOfValue", spec := "fnExactSizeOfValue", unfollowed := true, recurses := true, loops := true, apart := false }
def FnExactSizeOfValueSaid : Prop := fnExactSizeOfValueRow.holds Try.pinned (OpenSpec.ofChange fnExactSizeOfValueSpec)

/-- ITS FALSE NEIGHBOUR: 'it returns false'. Refute it at one input. -/
def fnExactSizeOfValueWrong : ChangeSpec := { name := "fnExactSizeOfValue", fn := fun _ => fun
  | [d] => { results := [.lit (.bool false)], args := [d] }
  | _ => none }
def FnExactSizeOfValueWrongFalsely : Prop := fnExactSizeOfValueRow.holds Try.pinned (OpenSpec.ofChange fnExactSizeOfValueWrong)

/-- 'laws.FnExactHasType': WHATEVER THE INPUT: true; the input reads as it did. -/
def fnExactHasTypeSpec : ChangeSpec := { name := "fnExactHasType", fn := fun _ => fun
  | [d1, d2] => { results := [.lit (.bool true)], args := [d1, d2] }
  | _ => none }
def fnExactHasTypeRow : OpenClaim := { program := "ytlikmgkjilmjpaa", sum := "d1b552408c4ca8f903560a5e0fe0179ccf0cf836d0020ea2acd949ce75218927", func := "loop.example/g00587/laws.FnExactHasType", spec := "fnExactHasType", unfollowed := true, recurses := true, loops := true, apart := false }
def FnExactHasTypeSaid : Prop := fnExactHasTypeRow.holds Try.pinned (OpenSpec.ofChange fnExactHasTypeSpec)

/-- ITS FALSE NEIGHBOUR: 'it returns false'. Refute it at one input. -/
def fnExactHasTypeWrong : ChangeSpec := { name := "fnExactHasType", fn := fun _ => fun
  | [d1, d2] => { results := [.lit (.bool false)], args := [d1, d2] }
  | _ => none }
def FnExactHasTypeWrongFalsely : Prop := fnExactHasTypeRow.holds Try.pinned (OpenSpec.ofChange fnExactHasTypeWrong)

/-- 'laws.FnExactCompareValues': WHATEVER THE INPUT: true; the input reads as it did. -/
def fnExactCompareValuesSpec : ChangeSpec := { name := "fnExactCompareValues", fn := fun _ => fun
  | [d1, d2] => { results := [.lit (.bool true)], args := [d1, d2] }
  | _ => none }
def fnExactCompareValuesRow : OpenClaim := { program := "ytlikmgkjilmjpaa", sum := "d1b552408c4ca8f903560a5e0fe0179ccf0cf836d0020ea2acd949ce75218927", func := "loop.example/g00587/laws.FnExactCompareValues", spec := "fnExactCompareValues", unfollowed := true, recurses := true, loops := true, apart := false }
def FnExactCompareValuesSaid : Prop := fnExactCompareValuesRow.holds Try.pinned (OpenSpec.ofChange fnExactCompareValuesSpec)

/-- ITS FALSE NEIGHBOUR: 'it returns false'. Refute it at one input. -/
def fnExactCompareValuesWrong : ChangeSpec := { name := "fnExactCompareValues", fn := fun _ => fun
  | [d1, d2] => { results := [.lit (.bool false)], args := [d1, d2] }
  | _ => none }
def FnExactCompareValuesWrongFalsely : Prop := fnExactCompareValuesRow.holds Try.pinned (OpenSpec.ofChange fnExactCompareValuesWrong)

/-- 'laws.FnExactCanonValue': WHATEVER THE INPUT: true; the input reads as it did. -/
def fnExactCanonValueSpec : ChangeSpec := { name := "fnExactCanonValue", fn := fun _ => fun
  | [d] => { results := [.lit (.bool true)], args := [d] }
  | _ => none }
def fnExactCanonValueRow : OpenClaim := { program := "ytlikmgkjilmjpaa", sum := "d1b552408c4ca8f903560a5e0fe0179ccf0cf836d0020ea2acd949ce75218927", func := "loop.example/g00587/laws.FnExactCanonValue", spec := "fnExactCanonValue", unfollowed := true, recurses := true, loops := true, apart := false }
def FnExactCanonValueSaid : Prop := fnExactCanonValueRow.holds Try.pinned (OpenSpec.ofChange fnExactCanonValueSpec)

/-- ITS FALSE NEIGHBOUR: 'it returns false'. Refute it at one input. -/
def fnExactCanonValueWrong : ChangeSpec := { name := "fnExactCanonValue", fn := fun _ => fun
  | [d] => { results := [.lit (.bool false)], args := [d] }
  | _ => none }
def FnExactCanonValueWrongFalsely : Prop := fnExactCanonValueRow.holds Try.pinned (OpenSpec.ofChange fnExactCanonValueWrong)

/-- 'laws.FnExactSameBag': WHATEVER THE INPUT: true; the input reads as it did. -/
def fnExactSameBagSpec : ChangeSpec := { name := "fnExactSameBag", fn := fun _ => fun
  | [d1, d2] => { results := [.lit (.bool true)], args := [d1, d2] }
  | _ => none }
def fnExactSameBagRow : OpenClaim := { program := "ytlikmgkjilmjpaa", sum := "d1b552408c4ca8f903560a5e0fe0179ccf0cf836d0020ea2acd949ce75218927", func := "loop.example/g00587/laws.FnExactSameBag", spec := "fnExactSameBag", unfollowed := true, recurses := true, loops := true, apart := false }
def FnExactSameBagSaid : Prop := fnExactSameBagRow.holds Try.pinned (OpenSpec.ofChange fnExactSameBagSpec)

/-- ITS FALSE NEIGHBOUR: 'it returns false'. Refute it at one input. -/
def fnExactSameBagWrong : ChangeSpec := { name := "fnExactSameBag", fn := fun _ => fun
  | [d1, d2] => { results := [.lit (.bool false)], args := [d1, d2] }
  | _ => none }
def FnExactSameBagWrongFalsely : Prop := fnExactSameBagRow.holds Try.pinned (OpenSpec.ofChange fnExactSameBagWrong)

/-- 'laws.FnExactCountIn': WHATEVER THE INPUT: true; the input reads as it did. -/
def fnExactCountInSpec : ChangeSpec := { name := "fnExactCountIn", fn := fun _ => fun
  | [d1, d2] => { results := [.lit (.bool true)], args := [d1, d2] }
  | _ => none }
def fnExactCountInRow : OpenClaim := { program := "ytlikmgkjilmjpaa", sum := "d1b552408c4ca8f903560a5e0fe0179ccf0cf836d0020ea2acd949ce75218927", func := "loop.example/g00587/laws.FnExactCountIn", spec := "fnExactCountIn", unfollowed := true, recurses := true, loops := true, apart := false }
def FnExactCountInSaid : Prop := fnExactCountInRow.holds Try.pinned (OpenSpec.ofChange fnExactCountInSpec)

/-- ITS FALSE NEIGHBOUR: 'it returns false'. Refute it at one input. -/
def fnExactCountInWrong : ChangeSpec := { name := "fnExactCountIn", fn := fun _ => fun
  | [d1, d2] => { results := [.lit (.bool false)], args := [d1, d2] }
  | _ => none }
def FnExactCountInWrongFalsely : Prop := fnExactCountInRow.holds Try.pinned (OpenSpec.ofChange fnExactCountInWrong)

/-- 'laws.FnExactIsCtx': WHATEVER THE INPUT: true; the input reads as it did. -/
def fnExactIsCtxSpec : ChangeSpec := { name := "fnExactIsCtx", fn := fun _ => fun
  | [d] => { results := [.lit (.bool true)], args := [d] }
  | _ => none }
def fnExactIsCtxRow : OpenClaim := { program := "ytlikmgkjilmjpaa", sum := "d1b552408c4ca8f903560a5e0fe0179ccf0cf836d0020ea2acd949ce75218927", func := "loop.example/g00587/laws.FnExactIsCtx", spec := "fnExactIsCtx", unfollowed := true, recurses := true, loops := true, apart := false }
def FnExactIsCtxSaid : Prop := fnExactIsCtxRow.holds Try.pinned (OpenSpec.ofChange fnExactIsCtxSpec)

/-- ITS FALSE NEIGHBOUR: 'it returns false'. Refute it at one input. -/
def fnExactIsCtxWrong : ChangeSpec := { name := "fnExactIsCtx", fn := fun _ => fun
  | [d] => { results := [.lit (.bool false)], args := [d] }
  | _ => none }
def FnExactIsCtxWrongFalsely : Prop := fnExactIsCtxRow.holds Try.pinned (OpenSpec.ofChange fnExactIsCtxWrong)

/- THE SECOND FORM. 'bulk': how many values and letters a reading holds, each counted each time it is reached (what is shared counts as often as it is met; a slice's spare places count too). A statement '..UptoSaid' is the law's where the arguments, and the package variables that the reading takes, are together of bulk at most 1048576: NARROWER than '..Said'. Prove '..Said' where nothing that the law and all that it calls make is longer than what came in: it says more and counts as full. Else prove '..UptoSaid'. A law counts once. -/
mutual
def uptoBulk {H : Type} : DataW H → Nat
  | .lit (.string bytes) => bytes.length + 1
  | .lit _ => 1
  | .nil => 1
  | .ptr d => uptoBulk d + 1
  | .slice elems spare => uptoBulkAll elems + uptoBulkAll spare + 1
  | .agg parts => uptoBulkAll parts + 1
  | .iface _ d => uptoBulk d + 1
  | .map entries => uptoBulkEntries entries + 1
  | .held _ => 1
def uptoBulkAll {H : Type} : List (DataW H) → Nat
  | [] => 0
  | d :: r => uptoBulk d + uptoBulkAll r
def uptoBulkEntries {H : Type} : List (Lit × DataW H) → Nat
  | [] => 0
  | x :: r => uptoBulkEntry x + uptoBulkEntries r
def uptoBulkEntry {H : Type} : Lit × DataW H → Nat
  | (.string bytes, d) => bytes.length + uptoBulk d + 1
  | (_, d) => uptoBulk d + 1
 end
def uptoSmall : (H : Type) → List (DataW H) → Bool := fun _ ds => decide (uptoBulkAll ds ≤ 1048576)
def OpenSpec.upto (s : _root_.Go.ChangeSpec) : _root_.Go.OpenSpec := { _root_.Go.OpenSpec.ofChange s with cond := some uptoSmall }

/-- 'laws.FnExactSizeOfValue', WHERE WHAT IT READS IS OF BULK AT MOST 1048576: true; the input reads as it did. -/
def fnExactSizeOfValueUptoRow : OpenClaim := { program := "ytlikmgkjilmjpaa", sum := "d1b552408c4ca8f903560a5e0fe0179ccf0cf836d0020ea2acd949ce75218927", func := "loop.example/g00587/laws.FnExactSizeOfValue", spec := "fnExactSizeOfValue", unfollowed := true, recurses := true, loops := true, apart := false, narrowed := true }
def FnExactSizeOfValueUptoSaid : Prop := fnExactSizeOfValueUptoRow.holds Try.pinned (OpenSpec.upto fnExactSizeOfValueSpec)

/-- 'laws.FnExactHasType', WHERE WHAT IT READS IS OF BULK AT MOST 1048576: true; the input reads as it did. -/
def fnExactHasTypeUptoRow : OpenClaim := { program := "ytlikmgkjilmjpaa", sum := "d1b552408c4ca8f903560a5e0fe0179ccf0cf836d0020ea2acd949ce75218927", func := "loop.example/g00587/laws.FnExactHasType", spec := "fnExactHasType", unfollowed := true, recurses := true, loops := true, apart := false, narrowed := true }
def FnExactHasTypeUptoSaid : Prop := fnExactHasTypeUptoRow.holds Try.pinned (OpenSpec.upto fnExactHasTypeSpec)

/-- 'laws.FnExactCompareValues', WHERE WHAT IT READS IS OF BULK AT MOST 1048576: true; the input reads as it did. -/
def fnExactCompareValuesUptoRow : OpenClaim := { program := "ytlikmgkjilmjpaa", sum := "d1b552408c4ca8f903560a5e0fe0179ccf0cf836d0020ea2acd949ce75218927", func := "loop.example/g00587/laws.FnExactCompareValues", spec := "fnExactCompareValues", unfollowed := true, recurses := true, loops := true, apart := false, narrowed := true }
def FnExactCompareValuesUptoSaid : Prop := fnExactCompareValuesUptoRow.holds Try.pinned (OpenSpec.upto fnExactCompareValuesSpec)

/-- 'laws.FnExactCanonValue', WHERE WHAT IT READS IS OF BULK AT MOST 1048576: true; the input reads as it did. -/
def fnExactCanonValueUptoRow : OpenClaim := { program := "ytlikmgkjilmjpaa", sum := "d1b552408c4ca8f903560a5e0fe0179ccf0cf836d0020ea2acd949ce75218927", func := "loop.example/g00587/laws.FnExactCanonValue", spec := "fnExactCanonValue", unfollowed := true, recurses := true, loops := true, apart := false, narrowed := true }
def FnExactCanonValueUptoSaid : Prop := fnExactCanonValueUptoRow.holds Try.pinned (OpenSpec.upto fnExactCanonValueSpec)

/-- 'laws.FnExactSameBag', WHERE WHAT IT READS IS OF BULK AT MOST 1048576: true; the input reads as it did. -/
def fnExactSameBagUptoRow : OpenClaim := { program := "ytlikmgkjilmjpaa", sum := "d1b552408c4ca8f903560a5e0fe0179ccf0cf836d0020ea2acd949ce75218927", func := "loop.example/g00587/laws.FnExactSameBag", spec := "fnExactSameBag", unfollowed := true, recurses := true, loops := true, apart := false, narrowed := true }
def FnExactSameBagUptoSaid : Prop := fnExactSameBagUptoRow.holds Try.pinned (OpenSpec.upto fnExactSameBagSpec)

/-- 'laws.FnExactCountIn', WHERE WHAT IT READS IS OF BULK AT MOST 1048576: true; the input reads as it did. -/
def fnExactCountInUptoRow : OpenClaim := { program := "ytlikmgkjilmjpaa", sum := "d1b552408c4ca8f903560a5e0fe0179ccf0cf836d0020ea2acd949ce75218927", func := "loop.example/g00587/laws.FnExactCountIn", spec := "fnExactCountIn", unfollowed := true, recurses := true, loops := true, apart := false, narrowed := true }
def FnExactCountInUptoSaid : Prop := fnExactCountInUptoRow.holds Try.pinned (OpenSpec.upto fnExactCountInSpec)

/-- 'laws.FnExactIsCtx', WHERE WHAT IT READS IS OF BULK AT MOST 1048576: true; the input reads as it did. -/
def fnExactIsCtxUptoRow : OpenClaim := { program := "ytlikmgkjilmjpaa", sum := "d1b552408c4ca8f903560a5e0fe0179ccf0cf836d0020ea2acd949ce75218927", func := "loop.example/g00587/laws.FnExactIsCtx", spec := "fnExactIsCtx", unfollowed := true, recurses := true, loops := true, apart := false, narrowed := true }
def FnExactIsCtxUptoSaid : Prop := fnExactIsCtxUptoRow.holds Try.pinned (OpenSpec.upto fnExactIsCtxSpec)

end Rows
end Go.Proofs.Ytlikmgkjilmjpaa
