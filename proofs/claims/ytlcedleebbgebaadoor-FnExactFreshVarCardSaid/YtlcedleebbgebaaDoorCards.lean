/-
  DERIVED. GIVEN WITH THE SEED: THE CARDS: each row of YtlcedleebbgebaaDoorRows.lean that lists a variable, with what it lists TIED to the program's text (the seventh form; the later family's looks); each row that meets fmt, with fmt's text TOLD by the authors' own Lean function (tested against real Go, not proved from fmt's source: count such statements apart). THE CARD IS WHAT COUNTS. Prove the row's statement (the work); the ties are given (YtlcedleebbgebaaDoorTie.lean); close each card by the builder's one call (the guide's Derived/Test/ToyasCard.lean, 'card_holds'). Laid BY PROGRAM, IN A SANDBOX (cutbox-door.mjs). By AI agents, Wed Nov 11 2026. No macro, syntax, notation, axiom, sorry.
-/
import Derived.Test.YtlcedleebbgebaaDoorRows
import GoSem.ClaimSeven
namespace Go.Proofs.YtlcedleebbgebaaDoor
namespace Rows

/-- THE TIED CARD OF 'laws.FnExactFreshVar'. -/
def fnExactFreshVarCard : Claim7 := { stood := { row := fnExactFreshVarRow, standIns := [], harness := (true, "1542ec839a691f3b9d3ddec19ca33ca26ab774b5cc44d8858813acf7e904f397"), looks := false }, kinds := [], alts := [], laidByText := true, laidKinds := [.data, .data, .data], laidTests := true, laidLooks := .later }
def FnExactFreshVarCardSaid : Prop := Claim7.holds Tryd.pinned (.plain (OpenSpec.ofChange fnExactFreshVarSpec)) fnExactFreshVarCard

/-- THE SECOND FORM's CARD OF 'laws.FnExactFreshVar'. -/
def fnExactFreshVarUptoCard : Claim7 := { stood := { row := fnExactFreshVarUptoRow, standIns := [], harness := (true, "1542ec839a691f3b9d3ddec19ca33ca26ab774b5cc44d8858813acf7e904f397"), looks := false }, kinds := [], alts := [], laidByText := true, laidKinds := [.data, .data, .data], laidTests := true, laidLooks := .later }
def FnExactFreshVarUptoCardSaid : Prop := Claim7.holds Tryd.pinned (.plain (OpenSpec.upto fnExactFreshVarSpec)) fnExactFreshVarUptoCard
end Rows
end Go.Proofs.YtlcedleebbgebaaDoor
