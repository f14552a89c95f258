/-
  DERIVED. GIVEN WITH THE SEED: THE CARDS: each row of YtgfjbilhgblbeaaDoorRows.lean that lists a variable, with what it lists TIED to the program's text (the seventh form; the later family's looks); each row that meets fmt, with fmt's text TOLD by the authors' own Lean function (tested against real Go, not proved from fmt's source: count such statements apart). THE CARD IS WHAT COUNTS. Prove the row's statement (the work); the ties are given (YtgfjbilhgblbeaaDoorTie.lean); close each card by the builder's one call (the guide's Derived/Test/ToyasCard.lean, 'card_holds'). Laid BY PROGRAM, IN A SANDBOX (cutbox-door.mjs). By AI agents, Wed Nov 11 2026. No macro, syntax, notation, axiom, sorry.
-/
import Derived.Test.YtgfjbilhgblbeaaDoorRows
import GoSem.ClaimSeven
namespace Go.Proofs.YtgfjbilhgblbeaaDoor
namespace Rows

/-- THE TIED CARD OF 'canvasslaw8.CodeFramesMatchSpec'. -/
def codeFramesMatchSpecCard : Claim7 := { stood := { row := codeFramesMatchSpecRow, standIns := [], harness := (true, "bd04661dfd66beb3d3f176d29da63a99af80873915d6e749b2d36de791ad83fa"), looks := false }, kinds := [], alts := [], laidByText := true, laidKinds := [.data, .data, .data, .data, .pinned], laidTests := true, laidLooks := .later }
def CodeFramesMatchSpecCardSaid : Prop := Claim7.holds Tryd.pinned (.plain (OpenSpec.ofChange codeFramesMatchSpecSpec)) codeFramesMatchSpecCard

/-- THE TIED CARD OF 'canvasslaw8.CodeDistancesAreDistances'. -/
def codeDistancesAreDistancesCard : Claim7 := { stood := { row := codeDistancesAreDistancesRow, standIns := [], harness := (true, "bd04661dfd66beb3d3f176d29da63a99af80873915d6e749b2d36de791ad83fa"), looks := false }, kinds := [], alts := [], laidByText := true, laidKinds := [.data, .pinned], laidTests := true, laidLooks := .later }
def CodeDistancesAreDistancesCardSaid : Prop := Claim7.holds Tryd.pinned (.plain (OpenSpec.ofChange codeDistancesAreDistancesSpec)) codeDistancesAreDistancesCard

/-- THE TIED CARD OF 'canvasslaw8.CodeFinalsMatchSpec'. -/
def codeFinalsMatchSpecCard : Claim7 := { stood := { row := codeFinalsMatchSpecRow, standIns := [], harness := (true, "bd04661dfd66beb3d3f176d29da63a99af80873915d6e749b2d36de791ad83fa"), looks := false }, kinds := [], alts := [], laidByText := true, laidKinds := [.data, .pinned], laidTests := true, laidLooks := .later }
def CodeFinalsMatchSpecCardSaid : Prop := Claim7.holds Tryd.pinned (.plain (OpenSpec.ofChange codeFinalsMatchSpecSpec)) codeFinalsMatchSpecCard

/-- THE TIED CARD OF 'canvasslaw8.CodeMovesMatchSpec'. -/
def codeMovesMatchSpecCard : Claim7 := { stood := { row := codeMovesMatchSpecRow, standIns := [], harness := (true, "bd04661dfd66beb3d3f176d29da63a99af80873915d6e749b2d36de791ad83fa"), looks := false }, kinds := [], alts := [], laidByText := true, laidKinds := [.data, .pinned], laidTests := true, laidLooks := .later }
def CodeMovesMatchSpecCardSaid : Prop := Claim7.holds Tryd.pinned (.plain (OpenSpec.ofChange codeMovesMatchSpecSpec)) codeMovesMatchSpecCard

/-- THE TIED CARD OF 'canvasslaw8.CodeLiftsAgree'. -/
def codeLiftsAgreeCard : Claim7 := { stood := { row := codeLiftsAgreeRow, standIns := [], harness := (true, "bd04661dfd66beb3d3f176d29da63a99af80873915d6e749b2d36de791ad83fa"), looks := false }, kinds := [], alts := [], laidByText := true, laidKinds := [.data, .pinned], laidTests := true, laidLooks := .later }
def CodeLiftsAgreeCardSaid : Prop := Claim7.holds Tryd.pinned (.plain (OpenSpec.ofChange codeLiftsAgreeSpec)) codeLiftsAgreeCard

/-- THE SECOND FORM's CARD OF 'canvasslaw8.CodeFramesMatchSpec'. -/
def codeFramesMatchSpecUptoCard : Claim7 := { stood := { row := codeFramesMatchSpecUptoRow, standIns := [], harness := (true, "bd04661dfd66beb3d3f176d29da63a99af80873915d6e749b2d36de791ad83fa"), looks := false }, kinds := [], alts := [], laidByText := true, laidKinds := [.data, .data, .data, .data, .pinned], laidTests := true, laidLooks := .later }
def CodeFramesMatchSpecUptoCardSaid : Prop := Claim7.holds Tryd.pinned (.plain (OpenSpec.upto codeFramesMatchSpecSpec)) codeFramesMatchSpecUptoCard

/-- THE SECOND FORM's CARD OF 'canvasslaw8.CodeDistancesAreDistances'. -/
def codeDistancesAreDistancesUptoCard : Claim7 := { stood := { row := codeDistancesAreDistancesUptoRow, standIns := [], harness := (true, "bd04661dfd66beb3d3f176d29da63a99af80873915d6e749b2d36de791ad83fa"), looks := false }, kinds := [], alts := [], laidByText := true, laidKinds := [.data, .pinned], laidTests := true, laidLooks := .later }
def CodeDistancesAreDistancesUptoCardSaid : Prop := Claim7.holds Tryd.pinned (.plain (OpenSpec.upto codeDistancesAreDistancesSpec)) codeDistancesAreDistancesUptoCard

/-- THE SECOND FORM's CARD OF 'canvasslaw8.CodeFinalsMatchSpec'. -/
def codeFinalsMatchSpecUptoCard : Claim7 := { stood := { row := codeFinalsMatchSpecUptoRow, standIns := [], harness := (true, "bd04661dfd66beb3d3f176d29da63a99af80873915d6e749b2d36de791ad83fa"), looks := false }, kinds := [], alts := [], laidByText := true, laidKinds := [.data, .pinned], laidTests := true, laidLooks := .later }
def CodeFinalsMatchSpecUptoCardSaid : Prop := Claim7.holds Tryd.pinned (.plain (OpenSpec.upto codeFinalsMatchSpecSpec)) codeFinalsMatchSpecUptoCard

/-- THE SECOND FORM's CARD OF 'canvasslaw8.CodeMovesMatchSpec'. -/
def codeMovesMatchSpecUptoCard : Claim7 := { stood := { row := codeMovesMatchSpecUptoRow, standIns := [], harness := (true, "bd04661dfd66beb3d3f176d29da63a99af80873915d6e749b2d36de791ad83fa"), looks := false }, kinds := [], alts := [], laidByText := true, laidKinds := [.data, .pinned], laidTests := true, laidLooks := .later }
def CodeMovesMatchSpecUptoCardSaid : Prop := Claim7.holds Tryd.pinned (.plain (OpenSpec.upto codeMovesMatchSpecSpec)) codeMovesMatchSpecUptoCard

/-- THE SECOND FORM's CARD OF 'canvasslaw8.CodeLiftsAgree'. -/
def codeLiftsAgreeUptoCard : Claim7 := { stood := { row := codeLiftsAgreeUptoRow, standIns := [], harness := (true, "bd04661dfd66beb3d3f176d29da63a99af80873915d6e749b2d36de791ad83fa"), looks := false }, kinds := [], alts := [], laidByText := true, laidKinds := [.data, .pinned], laidTests := true, laidLooks := .later }
def CodeLiftsAgreeUptoCardSaid : Prop := Claim7.holds Tryd.pinned (.plain (OpenSpec.upto codeLiftsAgreeSpec)) codeLiftsAgreeUptoCard
end Rows
end Go.Proofs.YtgfjbilhgblbeaaDoor
