/-
  DERIVED. GIVEN WITH THE SEED: THE CARDS: each row of YtcdifmnakppfkaaGreatDoorRows.lean that lists a variable, with what it lists TIED to the program's text (the seventh form; the later family's looks); each row that meets fmt, with fmt's text TOLD by the authors' own Lean function (tested against real Go, not proved from fmt's source: count such statements apart). THE CARD IS WHAT COUNTS. Prove the row's statement (the work); the ties are given (YtcdifmnakppfkaaGreatDoorTie.lean); close each card by the builder's one call (the guide's Derived/Test/ToyasCard.lean, 'card_holds'). Laid BY PROGRAM, IN A SANDBOX (cutbox-door.mjs). By AI agents, Wed Nov 11 2026. No macro, syntax, notation, axiom, sorry.
-/
import Derived.Test.YtcdifmnakppfkaaGreatDoorRows
import GoSem.ClaimSeven
namespace Go.Proofs.YtcdifmnakppfkaaGreatDoor
namespace Rows

/-- THE TIED CARD OF 'canvasslaw1.ValueFormsMatchSpec'. -/
def valueFormsMatchSpecCard : Claim7 := { stood := { row := valueFormsMatchSpecRow, standIns := [], harness := (true, "4f0a84ac55ac4a1c6a9c0736e50fd10007d61b94e4ec1bc393fb4d2f74489c2a"), looks := false }, kinds := [], alts := [], laidByText := true, laidKinds := [.data, .data, .data, .data, .listed, .data, .data, .data, .data, .data, .pinned], laidTests := true, laidLooks := .later }
def ValueFormsMatchSpecCardSaid : Prop := Claim7.holds Tryz.pinned (.plain (OpenSpec.ofChange valueFormsMatchSpecSpec)) valueFormsMatchSpecCard

/-- THE SECOND FORM's CARD OF 'canvasslaw1.ValueFormsMatchSpec'. -/
def valueFormsMatchSpecUptoCard : Claim7 := { stood := { row := valueFormsMatchSpecUptoRow, standIns := [], harness := (true, "4f0a84ac55ac4a1c6a9c0736e50fd10007d61b94e4ec1bc393fb4d2f74489c2a"), looks := false }, kinds := [], alts := [], laidByText := true, laidKinds := [.data, .data, .data, .data, .listed, .data, .data, .data, .data, .data, .pinned], laidTests := true, laidLooks := .later }
def ValueFormsMatchSpecUptoCardSaid : Prop := Claim7.holds Tryz.pinned (.plain (OpenSpec.upto valueFormsMatchSpecSpec)) valueFormsMatchSpecUptoCard
end Rows
end Go.Proofs.YtcdifmnakppfkaaGreatDoor
