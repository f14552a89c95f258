/-
  DERIVED. GIVEN WITH THE SEED: THE CARDS: each row of YtadfmplafehjlaaDoorRows.lean that lists a variable, with what it lists TIED to the program's text (the seventh form; the later family's looks); each row that meets fmt, with fmt's text TOLD by the authors' own Lean function (tested against real Go, not proved from fmt's source: count such statements apart). THE CARD IS WHAT COUNTS. Prove the row's statement (the work); the ties are given (YtadfmplafehjlaaDoorTie.lean); close each card by the builder's one call (the guide's Derived/Test/ToyasCard.lean, 'card_holds'). Laid BY PROGRAM, IN A SANDBOX (cutbox-door.mjs). By AI agents, Wed Nov 11 2026. No macro, syntax, notation, axiom, sorry.
-/
import Derived.Test.YtadfmplafehjlaaDoorRows
import GoSem.ClaimSeven
namespace Go.Proofs.YtadfmplafehjlaaDoor
namespace Rows

/-- THE TIED CARD OF 'canvasslaw7.EditRecordsMatchSpec'. -/
def editRecordsMatchSpecCard : Claim7 := { stood := { row := editRecordsMatchSpecRow, standIns := [], harness := (true, "9d2c892434f31f4fd9bb06c4c200217e6baf272db30da83d6561106a6b94876d"), looks := false }, kinds := [], alts := [], laidByText := true, laidKinds := [.data, .listed, .data], laidTests := true, laidLooks := .later }
def EditRecordsMatchSpecCardSaid : Prop := Claim7.holds Tryd.pinned (.plain (OpenSpec.ofChange editRecordsMatchSpecSpec)) editRecordsMatchSpecCard

/-- THE TIED CARD OF 'canvasslaw7.EditPrimesDecide'. -/
def editPrimesDecideCard : Claim7 := { stood := { row := editPrimesDecideRow, standIns := [], harness := (true, "9d2c892434f31f4fd9bb06c4c200217e6baf272db30da83d6561106a6b94876d"), looks := false }, kinds := [], alts := [], laidByText := true, laidKinds := [.data], laidTests := true, laidLooks := .later }
def EditPrimesDecideCardSaid : Prop := Claim7.holds Tryd.pinned (.plain (OpenSpec.ofChange editPrimesDecideSpec)) editPrimesDecideCard

/-- THE TIED CARD OF 'canvasslaw7.EditRulesMatchSpec'. -/
def editRulesMatchSpecCard : Claim7 := { stood := { row := editRulesMatchSpecRow, standIns := [], harness := (true, "9d2c892434f31f4fd9bb06c4c200217e6baf272db30da83d6561106a6b94876d"), looks := false }, kinds := [], alts := [], laidByText := true, laidKinds := [.data, .listed, .data], laidTests := true, laidLooks := .later }
def EditRulesMatchSpecCardSaid : Prop := Claim7.holds Tryd.pinned (.plain (OpenSpec.ofChange editRulesMatchSpecSpec)) editRulesMatchSpecCard

/-- THE TIED CARD OF 'canvasslaw7.EditLeastMatchesSpec'. -/
def editLeastMatchesSpecCard : Claim7 := { stood := { row := editLeastMatchesSpecRow, standIns := [], harness := (true, "9d2c892434f31f4fd9bb06c4c200217e6baf272db30da83d6561106a6b94876d"), looks := false }, kinds := [], alts := [], laidByText := true, laidKinds := [.data, .listed, .data], laidTests := true, laidLooks := .later }
def EditLeastMatchesSpecCardSaid : Prop := Claim7.holds Tryd.pinned (.plain (OpenSpec.ofChange editLeastMatchesSpecSpec)) editLeastMatchesSpecCard

/-- THE TIED CARD OF 'canvasslaw7.EditLeastIsLeast'. -/
def editLeastIsLeastCard : Claim7 := { stood := { row := editLeastIsLeastRow, standIns := [], harness := (true, "9d2c892434f31f4fd9bb06c4c200217e6baf272db30da83d6561106a6b94876d"), looks := false }, kinds := [], alts := [], laidByText := true, laidKinds := [.data], laidTests := true, laidLooks := .later }
def EditLeastIsLeastCardSaid : Prop := Claim7.holds Tryd.pinned (.plain (OpenSpec.ofChange editLeastIsLeastSpec)) editLeastIsLeastCard

/-- THE SECOND FORM's CARD OF 'canvasslaw7.EditRecordsMatchSpec'. -/
def editRecordsMatchSpecUptoCard : Claim7 := { stood := { row := editRecordsMatchSpecUptoRow, standIns := [], harness := (true, "9d2c892434f31f4fd9bb06c4c200217e6baf272db30da83d6561106a6b94876d"), looks := false }, kinds := [], alts := [], laidByText := true, laidKinds := [.data, .listed, .data], laidTests := true, laidLooks := .later }
def EditRecordsMatchSpecUptoCardSaid : Prop := Claim7.holds Tryd.pinned (.plain (OpenSpec.upto editRecordsMatchSpecSpec)) editRecordsMatchSpecUptoCard

/-- THE SECOND FORM's CARD OF 'canvasslaw7.EditPrimesDecide'. -/
def editPrimesDecideUptoCard : Claim7 := { stood := { row := editPrimesDecideUptoRow, standIns := [], harness := (true, "9d2c892434f31f4fd9bb06c4c200217e6baf272db30da83d6561106a6b94876d"), looks := false }, kinds := [], alts := [], laidByText := true, laidKinds := [.data], laidTests := true, laidLooks := .later }
def EditPrimesDecideUptoCardSaid : Prop := Claim7.holds Tryd.pinned (.plain (OpenSpec.upto editPrimesDecideSpec)) editPrimesDecideUptoCard

/-- THE SECOND FORM's CARD OF 'canvasslaw7.EditRulesMatchSpec'. -/
def editRulesMatchSpecUptoCard : Claim7 := { stood := { row := editRulesMatchSpecUptoRow, standIns := [], harness := (true, "9d2c892434f31f4fd9bb06c4c200217e6baf272db30da83d6561106a6b94876d"), looks := false }, kinds := [], alts := [], laidByText := true, laidKinds := [.data, .listed, .data], laidTests := true, laidLooks := .later }
def EditRulesMatchSpecUptoCardSaid : Prop := Claim7.holds Tryd.pinned (.plain (OpenSpec.upto editRulesMatchSpecSpec)) editRulesMatchSpecUptoCard

/-- THE SECOND FORM's CARD OF 'canvasslaw7.EditLeastMatchesSpec'. -/
def editLeastMatchesSpecUptoCard : Claim7 := { stood := { row := editLeastMatchesSpecUptoRow, standIns := [], harness := (true, "9d2c892434f31f4fd9bb06c4c200217e6baf272db30da83d6561106a6b94876d"), looks := false }, kinds := [], alts := [], laidByText := true, laidKinds := [.data, .listed, .data], laidTests := true, laidLooks := .later }
def EditLeastMatchesSpecUptoCardSaid : Prop := Claim7.holds Tryd.pinned (.plain (OpenSpec.upto editLeastMatchesSpecSpec)) editLeastMatchesSpecUptoCard

/-- THE SECOND FORM's CARD OF 'canvasslaw7.EditLeastIsLeast'. -/
def editLeastIsLeastUptoCard : Claim7 := { stood := { row := editLeastIsLeastUptoRow, standIns := [], harness := (true, "9d2c892434f31f4fd9bb06c4c200217e6baf272db30da83d6561106a6b94876d"), looks := false }, kinds := [], alts := [], laidByText := true, laidKinds := [.data], laidTests := true, laidLooks := .later }
def EditLeastIsLeastUptoCardSaid : Prop := Claim7.holds Tryd.pinned (.plain (OpenSpec.upto editLeastIsLeastSpec)) editLeastIsLeastUptoCard
end Rows
end Go.Proofs.YtadfmplafehjlaaDoor
