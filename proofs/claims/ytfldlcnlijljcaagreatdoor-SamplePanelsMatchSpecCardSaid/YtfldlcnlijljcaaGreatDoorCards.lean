/-
  DERIVED. GIVEN WITH THE SEED: THE CARDS: each row of YtfldlcnlijljcaaGreatDoorRows.lean that lists a variable, with what it lists TIED to the program's text (the seventh form; the later family's looks); each row that meets fmt, with fmt's text TOLD by the authors' own Lean function (tested against real Go, not proved from fmt's source: count such statements apart). THE CARD IS WHAT COUNTS. Prove the row's statement (the work); the ties are given (YtfldlcnlijljcaaGreatDoorTie.lean); close each card by the builder's one call (the guide's Derived/Test/ToyasCard.lean, 'card_holds'). Laid BY PROGRAM, IN A SANDBOX (cutbox-door.mjs). By AI agents, Wed Nov 11 2026. No macro, syntax, notation, axiom, sorry.
-/
import Derived.Test.YtfldlcnlijljcaaGreatDoorRows
import GoSem.ClaimSeven
namespace Go.Proofs.YtfldlcnlijljcaaGreatDoor
namespace Rows

/-- THE TIED CARD OF 'canvasslaw5.SamplePanelsMatchSpec'. -/
def samplePanelsMatchSpecCard : Claim7 := { stood := { row := samplePanelsMatchSpecRow, standIns := [], harness := (true, "57c85056a70f9df1cfaa48661633e416cdb7350050793e4dbb6188adb6437de4"), looks := false }, kinds := [], alts := [], laidByText := true, laidKinds := [.data, .data, .data, .data, .pinned], laidTests := true, laidLooks := .later }
def SamplePanelsMatchSpecCardSaid : Prop := Claim7.holds Tryz.pinned (.plain (OpenSpec.ofChange samplePanelsMatchSpecSpec)) samplePanelsMatchSpecCard

/-- THE TIED CARD OF 'canvasslaw5.SampleRatesMatchSpec'. -/
def sampleRatesMatchSpecCard : Claim7 := { stood := { row := sampleRatesMatchSpecRow, standIns := [], harness := (true, "57c85056a70f9df1cfaa48661633e416cdb7350050793e4dbb6188adb6437de4"), looks := false }, kinds := [], alts := [], laidByText := true, laidKinds := [.data, .data, .data, .data, .pinned], laidTests := true, laidLooks := .later }
def SampleRatesMatchSpecCardSaid : Prop := Claim7.holds Tryz.pinned (.plain (OpenSpec.ofChange sampleRatesMatchSpecSpec)) sampleRatesMatchSpecCard

/-- THE SECOND FORM's CARD OF 'canvasslaw5.SamplePanelsMatchSpec'. -/
def samplePanelsMatchSpecUptoCard : Claim7 := { stood := { row := samplePanelsMatchSpecUptoRow, standIns := [], harness := (true, "57c85056a70f9df1cfaa48661633e416cdb7350050793e4dbb6188adb6437de4"), looks := false }, kinds := [], alts := [], laidByText := true, laidKinds := [.data, .data, .data, .data, .pinned], laidTests := true, laidLooks := .later }
def SamplePanelsMatchSpecUptoCardSaid : Prop := Claim7.holds Tryz.pinned (.plain (OpenSpec.upto samplePanelsMatchSpecSpec)) samplePanelsMatchSpecUptoCard

/-- THE SECOND FORM's CARD OF 'canvasslaw5.SampleRatesMatchSpec'. -/
def sampleRatesMatchSpecUptoCard : Claim7 := { stood := { row := sampleRatesMatchSpecUptoRow, standIns := [], harness := (true, "57c85056a70f9df1cfaa48661633e416cdb7350050793e4dbb6188adb6437de4"), looks := false }, kinds := [], alts := [], laidByText := true, laidKinds := [.data, .data, .data, .data, .pinned], laidTests := true, laidLooks := .later }
def SampleRatesMatchSpecUptoCardSaid : Prop := Claim7.holds Tryz.pinned (.plain (OpenSpec.upto sampleRatesMatchSpecSpec)) sampleRatesMatchSpecUptoCard
end Rows
end Go.Proofs.YtfldlcnlijljcaaGreatDoor
