/-
  DERIVED. GIVEN WITH THE SEED: THE CARDS: each row of YtcohkmpjendhnaaGreatDoorRows.lean that lists a variable, with what it lists TIED to the program's text (the seventh form; the later family's looks); each row that meets fmt, with fmt's text TOLD by the authors' own Lean function (tested against real Go, not proved from fmt's source: count such statements apart). THE CARD IS WHAT COUNTS. Prove the row's statement (the work); the ties are given (YtcohkmpjendhnaaGreatDoorTie.lean); close each card by the builder's one call (the guide's Derived/Test/ToyasCard.lean, 'card_holds'). Laid BY PROGRAM, IN A SANDBOX (cutbox-door.mjs). By AI agents, Wed Nov 11 2026. No macro, syntax, notation, axiom, sorry.
-/
import Derived.Test.YtcohkmpjendhnaaGreatDoorRows
import GoSem.ClaimSeven
namespace Go.Proofs.YtcohkmpjendhnaaGreatDoor
namespace Rows

/-- THE TIED CARD OF 'canvasslaw1.ValueTextsMatchSpec'. -/
def valueTextsMatchSpecCard : Claim7 := { stood := { row := valueTextsMatchSpecRow, standIns := [], harness := (true, "77d9d963f2856bc2af9781e5be87f5c1fccaf1fcaa64cd1d4dd70252e339ee3f"), looks := true }, kinds := [], alts := [], laidByText := true, laidKinds := [.data, .data, .data, .data, .sentinel, .sentinel, .data, .data, .pinned], laidTests := true, laidLooks := .later }
def ValueTextsMatchSpecCardSaid : Prop := Claim7.holds Tryz.pinned (.plain (OpenSpec.ofChange valueTextsMatchSpecSpec)) valueTextsMatchSpecCard

/-- THE TIED CARD OF 'canvasslaw1.ValueTextsComeBack'. -/
def valueTextsComeBackCard : Claim7 := { stood := { row := valueTextsComeBackRow, standIns := [], harness := (true, "77d9d963f2856bc2af9781e5be87f5c1fccaf1fcaa64cd1d4dd70252e339ee3f"), looks := true }, kinds := [], alts := [], laidByText := true, laidKinds := [.data, .data, .data, .data, .sentinel, .sentinel, .data, .data, .pinned], laidTests := true, laidLooks := .later }
def ValueTextsComeBackCardSaid : Prop := Claim7.holds Tryz.pinned (.plain (OpenSpec.ofChange valueTextsComeBackSpec)) valueTextsComeBackCard

/-- THE SECOND FORM's CARD OF 'canvasslaw1.ValueTextsMatchSpec'. -/
def valueTextsMatchSpecUptoCard : Claim7 := { stood := { row := valueTextsMatchSpecUptoRow, standIns := [], harness := (true, "77d9d963f2856bc2af9781e5be87f5c1fccaf1fcaa64cd1d4dd70252e339ee3f"), looks := true }, kinds := [], alts := [], laidByText := true, laidKinds := [.data, .data, .data, .data, .sentinel, .sentinel, .data, .data, .pinned], laidTests := true, laidLooks := .later }
def ValueTextsMatchSpecUptoCardSaid : Prop := Claim7.holds Tryz.pinned (.plain (OpenSpec.upto valueTextsMatchSpecSpec)) valueTextsMatchSpecUptoCard

/-- THE SECOND FORM's CARD OF 'canvasslaw1.ValueTextsComeBack'. -/
def valueTextsComeBackUptoCard : Claim7 := { stood := { row := valueTextsComeBackUptoRow, standIns := [], harness := (true, "77d9d963f2856bc2af9781e5be87f5c1fccaf1fcaa64cd1d4dd70252e339ee3f"), looks := true }, kinds := [], alts := [], laidByText := true, laidKinds := [.data, .data, .data, .data, .sentinel, .sentinel, .data, .data, .pinned], laidTests := true, laidLooks := .later }
def ValueTextsComeBackUptoCardSaid : Prop := Claim7.holds Tryz.pinned (.plain (OpenSpec.upto valueTextsComeBackSpec)) valueTextsComeBackUptoCard
end Rows
end Go.Proofs.YtcohkmpjendhnaaGreatDoor
