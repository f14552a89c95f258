/-
  DERIVED. GIVEN WITH THE SEED: THE CARDS: each row of YtchdfekajjeflaaGreatDoorRows.lean that lists a variable, with what it lists TIED to the program's text (the seventh form; the later family's looks); each row that meets fmt, with fmt's text TOLD by the authors' own Lean function (tested against real Go, not proved from fmt's source: count such statements apart). THE CARD IS WHAT COUNTS. Prove the row's statement (the work); the ties are given (YtchdfekajjeflaaGreatDoorTie.lean); close each card by the builder's one call (the guide's Derived/Test/ToyasCard.lean, 'card_holds'). Laid BY PROGRAM, IN A SANDBOX (cutbox-door.mjs). By AI agents, Wed Nov 11 2026. No macro, syntax, notation, axiom, sorry.
-/
import Derived.Test.YtchdfekajjeflaaGreatDoorRows
import GoSem.ClaimSeven
namespace Go.Proofs.YtchdfekajjeflaaGreatDoor
namespace Rows

/-- THE TIED CARD OF 'canvasslaw9.WeightBasesMatchSpec'. -/
def weightBasesMatchSpecCard : Claim7 := { stood := { row := weightBasesMatchSpecRow, standIns := [], harness := (true, "01e40f3aece4fca7a60a2146c459c7d2897f03dac73e7597c30ce5a2df51208b"), looks := true }, kinds := [], alts := [], laidByText := true, laidKinds := [.data, .data, .data, .data, .sentinel, .sentinel, .pinned], laidTests := true, laidLooks := .later }
def WeightBasesMatchSpecCardSaid : Prop := Claim7.holds Tryz.pinned (.plain (OpenSpec.ofChange weightBasesMatchSpecSpec)) weightBasesMatchSpecCard

/-- THE SECOND FORM's CARD OF 'canvasslaw9.WeightBasesMatchSpec'. -/
def weightBasesMatchSpecUptoCard : Claim7 := { stood := { row := weightBasesMatchSpecUptoRow, standIns := [], harness := (true, "01e40f3aece4fca7a60a2146c459c7d2897f03dac73e7597c30ce5a2df51208b"), looks := true }, kinds := [], alts := [], laidByText := true, laidKinds := [.data, .data, .data, .data, .sentinel, .sentinel, .pinned], laidTests := true, laidLooks := .later }
def WeightBasesMatchSpecUptoCardSaid : Prop := Claim7.holds Tryz.pinned (.plain (OpenSpec.upto weightBasesMatchSpecSpec)) weightBasesMatchSpecUptoCard
end Rows
end Go.Proofs.YtchdfekajjeflaaGreatDoor
