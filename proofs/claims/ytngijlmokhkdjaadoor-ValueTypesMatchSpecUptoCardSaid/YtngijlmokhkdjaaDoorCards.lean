/-
  DERIVED. GIVEN WITH THE SEED: THE CARDS: each row of YtngijlmokhkdjaaDoorRows.lean that lists a variable, with what it lists TIED to the program's text (the seventh form; the later family's looks); each row that meets fmt, with fmt's text TOLD by the authors' own Lean function (tested against real Go, not proved from fmt's source: count such statements apart). THE CARD IS WHAT COUNTS. Prove the row's statement (the work); the ties are given (YtngijlmokhkdjaaDoorTie.lean); close each card by the builder's one call (the guide's Derived/Test/ToyasCard.lean, 'card_holds'). Laid BY PROGRAM, IN A SANDBOX (cutbox-door.mjs). By AI agents, Wed Nov 11 2026. No macro, syntax, notation, axiom, sorry.
-/
import Derived.Test.YtngijlmokhkdjaaDoorRows
import GoSem.ClaimSeven
namespace Go.Proofs.YtngijlmokhkdjaaDoor
namespace Rows

/-- THE TIED CARD OF 'canvasslaw1.ValueTypesMatchSpec'. -/
def valueTypesMatchSpecCard : Claim7 := { stood := { row := valueTypesMatchSpecRow, standIns := [], harness := (true, "235d19700fd1dd6cc7a797b096d86031dc60048767397d7a715510cde0440ce8"), looks := false }, kinds := [], alts := [], laidByText := true, laidKinds := [.listed, .data], laidTests := true, laidLooks := .later }
def ValueTypesMatchSpecCardSaid : Prop := Claim7.holds Tryd.pinned (.plain (OpenSpec.ofChange valueTypesMatchSpecSpec)) valueTypesMatchSpecCard

/-- THE SECOND FORM's CARD OF 'canvasslaw1.ValueTypesMatchSpec'. -/
def valueTypesMatchSpecUptoCard : Claim7 := { stood := { row := valueTypesMatchSpecUptoRow, standIns := [], harness := (true, "235d19700fd1dd6cc7a797b096d86031dc60048767397d7a715510cde0440ce8"), looks := false }, kinds := [], alts := [], laidByText := true, laidKinds := [.listed, .data], laidTests := true, laidLooks := .later }
def ValueTypesMatchSpecUptoCardSaid : Prop := Claim7.holds Tryd.pinned (.plain (OpenSpec.upto valueTypesMatchSpecSpec)) valueTypesMatchSpecUptoCard
end Rows
end Go.Proofs.YtngijlmokhkdjaaDoor
