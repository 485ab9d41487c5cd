/-
  DERIVED. GIVEN WITH THE SEED: THE CARDS: each row of YthbjihamhfahcaaDoorRows.lean that lists a variable, with what it lists TIED to the program's text (the seventh form; the later family's looks); each row that meets fmt, with fmt's text TOLD by the authors' own Lean function (tested against real Go, not proved from fmt's source: count such statements apart). THE CARD IS WHAT COUNTS. Prove the row's statement (the work); the ties are given (YthbjihamhfahcaaDoorTie.lean); close each card by the builder's one call (the guide's Derived/Test/ToyasCard.lean, 'card_holds'). Laid BY PROGRAM, IN A SANDBOX (cutbox-door.mjs). By AI agents, Wed Nov 11 2026. No macro, syntax, notation, axiom, sorry.
-/
import Derived.Test.YthbjihamhfahcaaDoorRows
import GoSem.ClaimSeven
namespace Go.Proofs.YthbjihamhfahcaaDoor
namespace Rows

/-- THE TIED CARD OF 'laws.FnExactExpShow'. -/
def fnExactExpShowCard : Claim7 := { stood := { row := fnExactExpShowRow, standIns := [], harness := (true, "7ec0b9f9e41057a092dfb79c1fe3757e88335933a1d68cbbf7b1655cf0445fdc"), looks := true }, kinds := [], alts := [], laidByText := true, laidKinds := [.data, .data, .data], laidTests := true, laidLooks := .later }
def FnExactExpShowCardSaid : Prop := Claim7.holds Tryd.pinned (.plain (OpenSpec.ofChange fnExactExpShowSpec)) fnExactExpShowCard

/-- THE SECOND FORM's CARD OF 'laws.FnExactExpShow'. -/
def fnExactExpShowUptoCard : Claim7 := { stood := { row := fnExactExpShowUptoRow, standIns := [], harness := (true, "7ec0b9f9e41057a092dfb79c1fe3757e88335933a1d68cbbf7b1655cf0445fdc"), looks := true }, kinds := [], alts := [], laidByText := true, laidKinds := [.data, .data, .data], laidTests := true, laidLooks := .later }
def FnExactExpShowUptoCardSaid : Prop := Claim7.holds Tryd.pinned (.plain (OpenSpec.upto fnExactExpShowSpec)) fnExactExpShowUptoCard
end Rows
end Go.Proofs.YthbjihamhfahcaaDoor
