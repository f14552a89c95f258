/-
  DERIVED. GIVEN WITH THE SEED: THE CARDS: each row of YtleiapoaoiapbaaDoorRows.lean that lists a variable, with what it lists TIED to the program's text (the seventh form; the later family's looks); each row that meets fmt, with fmt's text TOLD by the authors' own Lean function (tested against real Go, not proved from fmt's source: count such statements apart). THE CARD IS WHAT COUNTS. Prove the row's statement (the work); the ties are given (YtleiapoaoiapbaaDoorTie.lean); close each card by the builder's one call (the guide's Derived/Test/ToyasCard.lean, 'card_holds'). Laid BY PROGRAM, IN A SANDBOX (cutbox-door.mjs). By AI agents, Wed Nov 11 2026. No macro, syntax, notation, axiom, sorry.
-/
import Derived.Test.YtleiapoaoiapbaaDoorRows
import GoSem.ClaimSeven
namespace Go.Proofs.YtleiapoaoiapbaaDoor
namespace Rows

/-- THE TIED CARD OF 'canvasslaw1.ValueDaysMatchSpec'. -/
def valueDaysMatchSpecCard : Claim7 := { stood := { row := valueDaysMatchSpecRow, standIns := [], harness := (true, "9cb95f26983265608f68848d824b4afda6e18ab5bbf147f74d752411923d33ea"), looks := false }, kinds := [], alts := [], laidByText := true, laidKinds := [.data], laidTests := true, laidLooks := .later }
def ValueDaysMatchSpecCardSaid : Prop := Claim7.holds Tryd.pinned (.plain (OpenSpec.ofChange valueDaysMatchSpecSpec)) valueDaysMatchSpecCard

/-- THE TIED CARD OF 'canvasslaw1.ValueDaysAreACalendar'. -/
def valueDaysAreACalendarCard : Claim7 := { stood := { row := valueDaysAreACalendarRow, standIns := [], harness := (true, "9cb95f26983265608f68848d824b4afda6e18ab5bbf147f74d752411923d33ea"), looks := false }, kinds := [], alts := [], laidByText := true, laidKinds := [.data], laidTests := true, laidLooks := .later }
def ValueDaysAreACalendarCardSaid : Prop := Claim7.holds Tryd.pinned (.plain (OpenSpec.ofChange valueDaysAreACalendarSpec)) valueDaysAreACalendarCard

/-- THE SECOND FORM's CARD OF 'canvasslaw1.ValueDaysMatchSpec'. -/
def valueDaysMatchSpecUptoCard : Claim7 := { stood := { row := valueDaysMatchSpecUptoRow, standIns := [], harness := (true, "9cb95f26983265608f68848d824b4afda6e18ab5bbf147f74d752411923d33ea"), looks := false }, kinds := [], alts := [], laidByText := true, laidKinds := [.data], laidTests := true, laidLooks := .later }
def ValueDaysMatchSpecUptoCardSaid : Prop := Claim7.holds Tryd.pinned (.plain (OpenSpec.upto valueDaysMatchSpecSpec)) valueDaysMatchSpecUptoCard

/-- THE SECOND FORM's CARD OF 'canvasslaw1.ValueDaysAreACalendar'. -/
def valueDaysAreACalendarUptoCard : Claim7 := { stood := { row := valueDaysAreACalendarUptoRow, standIns := [], harness := (true, "9cb95f26983265608f68848d824b4afda6e18ab5bbf147f74d752411923d33ea"), looks := false }, kinds := [], alts := [], laidByText := true, laidKinds := [.data], laidTests := true, laidLooks := .later }
def ValueDaysAreACalendarUptoCardSaid : Prop := Claim7.holds Tryd.pinned (.plain (OpenSpec.upto valueDaysAreACalendarSpec)) valueDaysAreACalendarUptoCard
end Rows
end Go.Proofs.YtleiapoaoiapbaaDoor
