/-
  DERIVED. GIVEN WITH THE SEED: THE CARDS: each row of YtfijhkaalpinhaaGreatDoorRows.lean that lists a variable, with what it lists TIED to the program's text (the seventh form; the later family's looks); each row that meets fmt, with fmt's text TOLD by the authors' own Lean function (tested against real Go, not proved from fmt's source: count such statements apart). THE CARD IS WHAT COUNTS. Prove the row's statement (the work); the ties are given (YtfijhkaalpinhaaGreatDoorTie.lean); close each card by the builder's one call (the guide's Derived/Test/ToyasCard.lean, 'card_holds'). Laid BY PROGRAM, IN A SANDBOX (cutbox-door.mjs). By AI agents, Wed Nov 11 2026. No macro, syntax, notation, axiom, sorry.
-/
import Derived.Test.YtfijhkaalpinhaaGreatDoorRows
import GoSem.ClaimSeven
namespace Go.Proofs.YtfijhkaalpinhaaGreatDoor
namespace Rows

/-- THE TIED CARD OF 'canvasslaw1.ValueRatiosMatchSpec'. -/
def valueRatiosMatchSpecCard : Claim7 := { stood := { row := valueRatiosMatchSpecRow, standIns := [], harness := (true, "10722c40d5c8d2cf7a11e2df56e4f47d88198d3577432513588971e48800cc50"), looks := true }, kinds := [], alts := [], laidByText := true, laidKinds := [.data, .data, .data, .data, .sentinel, .sentinel, .pinned], laidTests := true, laidLooks := .later }
def ValueRatiosMatchSpecCardSaid : Prop := Claim7.holds Tryz.pinned (.plain (OpenSpec.ofChange valueRatiosMatchSpecSpec)) valueRatiosMatchSpecCard

/-- THE TIED CARD OF 'canvasslaw1.ValueRoundingMatchesSpec'. -/
def valueRoundingMatchesSpecCard : Claim7 := { stood := { row := valueRoundingMatchesSpecRow, standIns := [], harness := (true, "10722c40d5c8d2cf7a11e2df56e4f47d88198d3577432513588971e48800cc50"), looks := true }, kinds := [], alts := [], laidByText := true, laidKinds := [.data, .data, .data, .data, .sentinel, .sentinel, .pinned], laidTests := true, laidLooks := .later }
def ValueRoundingMatchesSpecCardSaid : Prop := Claim7.holds Tryz.pinned (.plain (OpenSpec.ofChange valueRoundingMatchesSpecSpec)) valueRoundingMatchesSpecCard

/-- THE SECOND FORM's CARD OF 'canvasslaw1.ValueRatiosMatchSpec'. -/
def valueRatiosMatchSpecUptoCard : Claim7 := { stood := { row := valueRatiosMatchSpecUptoRow, standIns := [], harness := (true, "10722c40d5c8d2cf7a11e2df56e4f47d88198d3577432513588971e48800cc50"), looks := true }, kinds := [], alts := [], laidByText := true, laidKinds := [.data, .data, .data, .data, .sentinel, .sentinel, .pinned], laidTests := true, laidLooks := .later }
def ValueRatiosMatchSpecUptoCardSaid : Prop := Claim7.holds Tryz.pinned (.plain (OpenSpec.upto valueRatiosMatchSpecSpec)) valueRatiosMatchSpecUptoCard

/-- THE SECOND FORM's CARD OF 'canvasslaw1.ValueRoundingMatchesSpec'. -/
def valueRoundingMatchesSpecUptoCard : Claim7 := { stood := { row := valueRoundingMatchesSpecUptoRow, standIns := [], harness := (true, "10722c40d5c8d2cf7a11e2df56e4f47d88198d3577432513588971e48800cc50"), looks := true }, kinds := [], alts := [], laidByText := true, laidKinds := [.data, .data, .data, .data, .sentinel, .sentinel, .pinned], laidTests := true, laidLooks := .later }
def ValueRoundingMatchesSpecUptoCardSaid : Prop := Claim7.holds Tryz.pinned (.plain (OpenSpec.upto valueRoundingMatchesSpecSpec)) valueRoundingMatchesSpecUptoCard
end Rows
end Go.Proofs.YtfijhkaalpinhaaGreatDoor
