/-
  DERIVED. GIVEN WITH THE SEED: THE CARDS: each row of YtheekfijbbgbkaaGreatDoorRows.lean that lists a variable, with what it lists TIED to the program's text (the seventh form; the later family's looks); each row that meets fmt, with fmt's text TOLD by the authors' own Lean function (tested against real Go, not proved from fmt's source: count such statements apart). THE CARD IS WHAT COUNTS. Prove the row's statement (the work); the ties are given (YtheekfijbbgbkaaGreatDoorTie.lean); close each card by the builder's one call (the guide's Derived/Test/ToyasCard.lean, 'card_holds'). Laid BY PROGRAM, IN A SANDBOX (cutbox-door.mjs). By AI agents, Wed Nov 11 2026. No macro, syntax, notation, axiom, sorry.
-/
import Derived.Test.YtheekfijbbgbkaaGreatDoorRows
import GoSem.ClaimSeven
namespace Go.Proofs.YtheekfijbbgbkaaGreatDoor
namespace Rows

/-- THE TIED CARD OF 'canvasslaw8.CodeTextsMatchSpec'. -/
def codeTextsMatchSpecCard : Claim7 := { stood := { row := codeTextsMatchSpecRow, standIns := [], harness := (true, "ce161c08b953b39123889b1df9720ad3689c2c8ce496e7a201f53cee6eb76bfc"), looks := true }, kinds := [], alts := [], laidByText := true, laidKinds := [.data, .data, .data, .data, .sentinel, .sentinel, .pinned], laidTests := true, laidLooks := .later }
def CodeTextsMatchSpecCardSaid : Prop := Claim7.holds Tryz.pinned (.plain (OpenSpec.ofChange codeTextsMatchSpecSpec)) codeTextsMatchSpecCard

/-- THE TIED CARD OF 'canvasslaw8.CodeTextsComeBack'. -/
def codeTextsComeBackCard : Claim7 := { stood := { row := codeTextsComeBackRow, standIns := [], harness := (true, "ce161c08b953b39123889b1df9720ad3689c2c8ce496e7a201f53cee6eb76bfc"), looks := true }, kinds := [], alts := [], laidByText := true, laidKinds := [.data, .data, .data, .data, .sentinel, .sentinel, .pinned], laidTests := true, laidLooks := .later }
def CodeTextsComeBackCardSaid : Prop := Claim7.holds Tryz.pinned (.plain (OpenSpec.ofChange codeTextsComeBackSpec)) codeTextsComeBackCard

/-- THE SECOND FORM's CARD OF 'canvasslaw8.CodeTextsMatchSpec'. -/
def codeTextsMatchSpecUptoCard : Claim7 := { stood := { row := codeTextsMatchSpecUptoRow, standIns := [], harness := (true, "ce161c08b953b39123889b1df9720ad3689c2c8ce496e7a201f53cee6eb76bfc"), looks := true }, kinds := [], alts := [], laidByText := true, laidKinds := [.data, .data, .data, .data, .sentinel, .sentinel, .pinned], laidTests := true, laidLooks := .later }
def CodeTextsMatchSpecUptoCardSaid : Prop := Claim7.holds Tryz.pinned (.plain (OpenSpec.upto codeTextsMatchSpecSpec)) codeTextsMatchSpecUptoCard

/-- THE SECOND FORM's CARD OF 'canvasslaw8.CodeTextsComeBack'. -/
def codeTextsComeBackUptoCard : Claim7 := { stood := { row := codeTextsComeBackUptoRow, standIns := [], harness := (true, "ce161c08b953b39123889b1df9720ad3689c2c8ce496e7a201f53cee6eb76bfc"), looks := true }, kinds := [], alts := [], laidByText := true, laidKinds := [.data, .data, .data, .data, .sentinel, .sentinel, .pinned], laidTests := true, laidLooks := .later }
def CodeTextsComeBackUptoCardSaid : Prop := Claim7.holds Tryz.pinned (.plain (OpenSpec.upto codeTextsComeBackSpec)) codeTextsComeBackUptoCard
end Rows
end Go.Proofs.YtheekfijbbgbkaaGreatDoor
