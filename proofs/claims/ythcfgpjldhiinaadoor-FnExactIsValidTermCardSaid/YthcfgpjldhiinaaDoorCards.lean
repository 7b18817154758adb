/-
  DERIVED. GIVEN WITH THE SEED: THE CARDS: each row of YthcfgpjldhiinaaDoorRows.lean that lists a variable, with what it lists TIED to the program's text (the seventh form; the later family's looks); each row that meets fmt, with fmt's text TOLD by the authors' own Lean function (tested against real Go, not proved from fmt's source: count such statements apart). THE CARD IS WHAT COUNTS. Prove the row's statement (the work); the ties are given (YthcfgpjldhiinaaDoorTie.lean); close each card by the builder's one call (the guide's Derived/Test/ToyasCard.lean, 'card_holds'). Laid BY PROGRAM, IN A SANDBOX (cutbox-door.mjs). By AI agents, Wed Nov 11 2026. No macro, syntax, notation, axiom, sorry.
-/
import Derived.Test.YthcfgpjldhiinaaDoorRows
import GoSem.ClaimSeven
namespace Go.Proofs.YthcfgpjldhiinaaDoor
namespace Rows

/-- THE TIED CARD OF 'laws.FnExactIsValidTerm'. -/
def fnExactIsValidTermCard : Claim7 := { stood := { row := fnExactIsValidTermRow, standIns := [], harness := (true, "10d12ffec6fb4daef6c53d717f218a5cd3d18b737bc54f037522eacbe483e829"), looks := true }, kinds := [], alts := [], laidByText := true, laidKinds := [.data], laidTests := true, laidLooks := .later }
def FnExactIsValidTermCardSaid : Prop := Claim7.holds Tryd.pinned (.plain (OpenSpec.ofChange fnExactIsValidTermSpec)) fnExactIsValidTermCard

/-- THE SECOND FORM's CARD OF 'laws.FnExactIsValidTerm'. -/
def fnExactIsValidTermUptoCard : Claim7 := { stood := { row := fnExactIsValidTermUptoRow, standIns := [], harness := (true, "10d12ffec6fb4daef6c53d717f218a5cd3d18b737bc54f037522eacbe483e829"), looks := true }, kinds := [], alts := [], laidByText := true, laidKinds := [.data], laidTests := true, laidLooks := .later }
def FnExactIsValidTermUptoCardSaid : Prop := Claim7.holds Tryd.pinned (.plain (OpenSpec.upto fnExactIsValidTermSpec)) fnExactIsValidTermUptoCard
end Rows
end Go.Proofs.YthcfgpjldhiinaaDoor
