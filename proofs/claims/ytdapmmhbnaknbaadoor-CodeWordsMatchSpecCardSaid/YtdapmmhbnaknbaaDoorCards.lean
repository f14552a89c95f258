/-
  DERIVED. GIVEN WITH THE SEED: THE CARDS: each row of YtdapmmhbnaknbaaDoorRows.lean that lists a variable, with what it lists TIED to the program's text (the seventh form; the later family's looks); each row that meets fmt, with fmt's text TOLD by the authors' own Lean function (tested against real Go, not proved from fmt's source: count such statements apart). THE CARD IS WHAT COUNTS. Prove the row's statement (the work); the ties are given (YtdapmmhbnaknbaaDoorTie.lean); close each card by the builder's one call (the guide's Derived/Test/ToyasCard.lean, 'card_holds'). Laid BY PROGRAM, IN A SANDBOX (cutbox-door.mjs). By AI agents, Wed Nov 11 2026. No macro, syntax, notation, axiom, sorry.
-/
import Derived.Test.YtdapmmhbnaknbaaDoorRows
import GoSem.ClaimSeven
namespace Go.Proofs.YtdapmmhbnaknbaaDoor
namespace Rows

/-- THE TIED CARD OF 'canvasslaw8.CodeWordsMatchSpec'. -/
def codeWordsMatchSpecCard : Claim7 := { stood := { row := codeWordsMatchSpecRow, standIns := [], harness := (true, "9375b720962a879308d1afeb40a14e0f7c3d0ce1707b39169c5e166a3102fda8"), looks := false }, kinds := [], alts := [], laidByText := true, laidKinds := [.data, .pinned, .pinned], laidTests := true, laidLooks := .later }
def CodeWordsMatchSpecCardSaid : Prop := Claim7.holds Tryd.pinned (.plain (OpenSpec.ofChange codeWordsMatchSpecSpec)) codeWordsMatchSpecCard

/-- THE SECOND FORM's CARD OF 'canvasslaw8.CodeWordsMatchSpec'. -/
def codeWordsMatchSpecUptoCard : Claim7 := { stood := { row := codeWordsMatchSpecUptoRow, standIns := [], harness := (true, "9375b720962a879308d1afeb40a14e0f7c3d0ce1707b39169c5e166a3102fda8"), looks := false }, kinds := [], alts := [], laidByText := true, laidKinds := [.data, .pinned, .pinned], laidTests := true, laidLooks := .later }
def CodeWordsMatchSpecUptoCardSaid : Prop := Claim7.holds Tryd.pinned (.plain (OpenSpec.upto codeWordsMatchSpecSpec)) codeWordsMatchSpecUptoCard
end Rows
end Go.Proofs.YtdapmmhbnaknbaaDoor
