/-
  DERIVED. GIVEN WITH THE SEED: THE CARDS: each row of YtfijhkaalpinhaaDoorRows.lean that lists a variable, with what it lists TIED to the program's text (the seventh form; the later family's looks); each row that meets fmt, with fmt's text TOLD by the authors' own Lean function (tested against real Go, not proved from fmt's source: count such statements apart). THE CARD IS WHAT COUNTS. Prove the row's statement (the work); the ties are given (YtfijhkaalpinhaaDoorTie.lean); close each card by the builder's one call (the guide's Derived/Test/ToyasCard.lean, 'card_holds'). Laid BY PROGRAM, IN A SANDBOX (cutbox-door.mjs). By AI agents, Wed Nov 11 2026. No macro, syntax, notation, axiom, sorry.
-/
import Derived.Test.YtfijhkaalpinhaaDoorRows
import GoSem.ClaimSeven
namespace Go.Proofs.YtfijhkaalpinhaaDoor
namespace Rows

/-- THE TIED CARD OF 'canvasslaw1.ValueRatiosAreAField'. -/
def valueRatiosAreAFieldCard : Claim7 := { stood := { row := valueRatiosAreAFieldRow, standIns := [], harness := (true, "991daa5d51368f4ba2b7dd1bf94c460b7970648134d34979b558e01a33f85adb"), looks := false }, kinds := [], alts := [], laidByText := true, laidKinds := [.data, .pinned], laidTests := true, laidLooks := .later }
def ValueRatiosAreAFieldCardSaid : Prop := Claim7.holds Tryd.pinned (.plain (OpenSpec.ofChange valueRatiosAreAFieldSpec)) valueRatiosAreAFieldCard

/-- THE SECOND FORM's CARD OF 'canvasslaw1.ValueRatiosAreAField'. -/
def valueRatiosAreAFieldUptoCard : Claim7 := { stood := { row := valueRatiosAreAFieldUptoRow, standIns := [], harness := (true, "991daa5d51368f4ba2b7dd1bf94c460b7970648134d34979b558e01a33f85adb"), looks := false }, kinds := [], alts := [], laidByText := true, laidKinds := [.data, .pinned], laidTests := true, laidLooks := .later }
def ValueRatiosAreAFieldUptoCardSaid : Prop := Claim7.holds Tryd.pinned (.plain (OpenSpec.upto valueRatiosAreAFieldSpec)) valueRatiosAreAFieldUptoCard
end Rows
end Go.Proofs.YtfijhkaalpinhaaDoor
