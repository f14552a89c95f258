/-
  DERIVED. GIVEN WITH THE SEED: THE CARDS: each row of YtpoaikbedcfgaaaDoorRows.lean that lists a variable, with what it lists TIED to the program's text (the seventh form; the later family's looks); each row that meets fmt, with fmt's text TOLD by the authors' own Lean function (tested against real Go, not proved from fmt's source: count such statements apart). THE CARD IS WHAT COUNTS. Prove the row's statement (the work); the ties are given (YtpoaikbedcfgaaaDoorTie.lean); close each card by the builder's one call (the guide's Derived/Test/ToyasCard.lean, 'card_holds'). Laid BY PROGRAM, IN A SANDBOX (cutbox-door.mjs). By AI agents, Wed Nov 11 2026. No macro, syntax, notation, axiom, sorry.
-/
import Derived.Test.YtpoaikbedcfgaaaDoorRows
import GoSem.ClaimSeven
namespace Go.Proofs.YtpoaikbedcfgaaaDoor
namespace Rows

/-- THE TIED CARD OF 'canvasslaw7.EditPlansMatchSpec'. -/
def editPlansMatchSpecCard : Claim7 := { stood := { row := editPlansMatchSpecRow, standIns := [], harness := (true, "78eced7ded4707ab770ed863c289bf4bc5137d0c1c4db5aba8d7a06451d12b06"), looks := false }, kinds := [], alts := [], laidByText := true, laidKinds := [.data, .data, .data, .listed, .data], laidTests := true, laidLooks := .later }
def EditPlansMatchSpecCardSaid : Prop := Claim7.holds Tryd.pinned (.plain (OpenSpec.ofChange editPlansMatchSpecSpec)) editPlansMatchSpecCard

/-- THE SECOND FORM's CARD OF 'canvasslaw7.EditPlansMatchSpec'. -/
def editPlansMatchSpecUptoCard : Claim7 := { stood := { row := editPlansMatchSpecUptoRow, standIns := [], harness := (true, "78eced7ded4707ab770ed863c289bf4bc5137d0c1c4db5aba8d7a06451d12b06"), looks := false }, kinds := [], alts := [], laidByText := true, laidKinds := [.data, .data, .data, .listed, .data], laidTests := true, laidLooks := .later }
def EditPlansMatchSpecUptoCardSaid : Prop := Claim7.holds Tryd.pinned (.plain (OpenSpec.upto editPlansMatchSpecSpec)) editPlansMatchSpecUptoCard
end Rows
end Go.Proofs.YtpoaikbedcfgaaaDoor
