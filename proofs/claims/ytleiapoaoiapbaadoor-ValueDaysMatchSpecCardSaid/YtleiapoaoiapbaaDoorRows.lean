/-
  NARROWER THAN 'FOR EVERY INPUT', by the rows' own cells (each row's printed sentence says how): ValueDaysMatchSpec: laid · ValueDaysAreACalendar: laid.
  DERIVED. THE GIVEN ROWS OF THIS SEAT. 2 by the template 'for every input the law returns true; each argument reads behind the call as it read before'; 0 by the template 'total and deterministic' (their statements: YtleiapoaoiapbaaDoorTotals.lean).
  GIVEN WITH THE SEED: the statements are not yours to turn. If you find one false, say at which input.
  Laid BY PROGRAM, IN A SANDBOX (cutbox-rows.mjs): the forced cells as the released guide's own fill.sh prints them over the translation ca00961fe8cab2c5… (all of the seat's roots in one cut). By AI agents, Wed Nov 11 2026. No macro, syntax, notation, axiom, sorry.
-/
import Derived.Test.YtleiapoaoiapbaaDoorChecked
import GoSem.Claim
import GoSem.ClaimJoined
import GoSem.ClaimMapViews
import Derived.JoinedTies
import Derived.KernelRfl
namespace Go.Proofs.YtleiapoaoiapbaaDoor
/- THE CELL 'sum', in the pinned program and in every row, IS THE sha256 OF THE DUMP (.gsa) THAT YtleiapoaoiapbaaDoorProg.lean LOADS. Nothing in Lean hashes anything: it is a label: what it is worth is what the hold of that sum in a sandbox is worth. -/
noncomputable def Tryd.pinned : Pinned := { name := "ytleiapoaoiapbaadoor", sum := "ca00961fe8cab2c53b87c4671a6ef93ec6412c7f99f080ee9da5c0858fbd3de4", checked := Tryd.checked }
namespace Rows
def none {H : Type} : Left H := { results := [], args := [] }

/- WHAT THE LISTED PACKAGE-LEVEL VARIABLES READ AS WHEN THE CALL BEGINS. Each datum BY PROGRAM (the guide's laid-datum.mjs) off the statement by which the dump's own 'gosem.cut.vars' lays the variable. In a bare row this is a premise. The card (YtleiapoaoiapbaaDoorCards.lean) ties it to the program's text. -/
def laid_canvass_value_lengths {H : Type} : DataW H := .agg [.lit (.int .i64 31), .lit (.int .i64 28), .lit (.int .i64 31), .lit (.int .i64 30), .lit (.int .i64 31), .lit (.int .i64 30), .lit (.int .i64 31), .lit (.int .i64 31), .lit (.int .i64 30), .lit (.int .i64 31), .lit (.int .i64 30), .lit (.int .i64 31)]

/-- 'canvasslaw1.ValueDaysMatchSpec': WHATEVER THE INPUT: true; the input reads as it did. -/
def valueDaysMatchSpecSpec : ChangeSpec := { name := "valueDaysMatchSpec", fn := fun _ => fun
  | [d1, d2, d3, d4, d5] => { results := [.lit (.bool true)], args := [d1, d2, d3, d4, d5] }
  | _ => none }
def valueDaysMatchSpecRow : OpenClaim := { program := "ytleiapoaoiapbaadoor", sum := "ca00961fe8cab2c53b87c4671a6ef93ec6412c7f99f080ee9da5c0858fbd3de4", func := "canvass/canvasslaw1.ValueDaysMatchSpec", spec := "valueDaysMatchSpec", named := ["canvass/value.lengths"], apart := false, laid := [("canvass/value.lengths", laid_canvass_value_lengths)] }
def ValueDaysMatchSpecSaid : Prop := valueDaysMatchSpecRow.holds Tryd.pinned (OpenSpec.ofChange valueDaysMatchSpecSpec)

/-- ITS FALSE NEIGHBOUR: 'it returns false'. Refute it at one input. -/
def valueDaysMatchSpecWrong : ChangeSpec := { name := "valueDaysMatchSpec", fn := fun _ => fun
  | [d1, d2, d3, d4, d5] => { results := [.lit (.bool false)], args := [d1, d2, d3, d4, d5] }
  | _ => none }
def ValueDaysMatchSpecWrongFalsely : Prop := valueDaysMatchSpecRow.holds Tryd.pinned (OpenSpec.ofChange valueDaysMatchSpecWrong)

/-- 'canvasslaw1.ValueDaysAreACalendar': WHATEVER THE INPUT: true; the input reads as it did. -/
def valueDaysAreACalendarSpec : ChangeSpec := { name := "valueDaysAreACalendar", fn := fun _ => fun
  | [d] => { results := [.lit (.bool true)], args := [d] }
  | _ => none }
def valueDaysAreACalendarRow : OpenClaim := { program := "ytleiapoaoiapbaadoor", sum := "ca00961fe8cab2c53b87c4671a6ef93ec6412c7f99f080ee9da5c0858fbd3de4", func := "canvass/canvasslaw1.ValueDaysAreACalendar", spec := "valueDaysAreACalendar", named := ["canvass/value.lengths"], apart := false, laid := [("canvass/value.lengths", laid_canvass_value_lengths)] }
def ValueDaysAreACalendarSaid : Prop := valueDaysAreACalendarRow.holds Tryd.pinned (OpenSpec.ofChange valueDaysAreACalendarSpec)

/-- ITS FALSE NEIGHBOUR: 'it returns false'. Refute it at one input. -/
def valueDaysAreACalendarWrong : ChangeSpec := { name := "valueDaysAreACalendar", fn := fun _ => fun
  | [d] => { results := [.lit (.bool false)], args := [d] }
  | _ => none }
def ValueDaysAreACalendarWrongFalsely : Prop := valueDaysAreACalendarRow.holds Tryd.pinned (OpenSpec.ofChange valueDaysAreACalendarWrong)

/- THE SECOND FORM. 'bulk': how many values and letters a reading holds, each counted each time it is reached (what is shared counts as often as it is met; a slice's spare places count too). A statement '..UptoSaid' is the law's where the arguments, and the package variables that the reading takes, are together of bulk at most 1048576: NARROWER than '..Said'. Prove '..Said' where nothing that the law and all that it calls make is longer than what came in: it says more and counts as full. Else prove '..UptoSaid'. A law counts once. -/
mutual
def uptoBulk {H : Type} : DataW H → Nat
  | .lit (.string bytes) => bytes.length + 1
  | .lit _ => 1
  | .nil => 1
  | .ptr d => uptoBulk d + 1
  | .slice elems spare => uptoBulkAll elems + uptoBulkAll spare + 1
  | .agg parts => uptoBulkAll parts + 1
  | .iface _ d => uptoBulk d + 1
  | .map entries => uptoBulkEntries entries + 1
  | .held _ => 1
def uptoBulkAll {H : Type} : List (DataW H) → Nat
  | [] => 0
  | d :: r => uptoBulk d + uptoBulkAll r
def uptoBulkEntries {H : Type} : List (Lit × DataW H) → Nat
  | [] => 0
  | x :: r => uptoBulkEntry x + uptoBulkEntries r
def uptoBulkEntry {H : Type} : Lit × DataW H → Nat
  | (.string bytes, d) => bytes.length + uptoBulk d + 1
  | (_, d) => uptoBulk d + 1
 end
def uptoSmall : (H : Type) → List (DataW H) → Bool := fun _ ds => decide (uptoBulkAll ds ≤ 1048576)
def OpenSpec.upto (s : _root_.Go.ChangeSpec) : _root_.Go.OpenSpec := { _root_.Go.OpenSpec.ofChange s with cond := some uptoSmall }

/-- 'canvasslaw1.ValueDaysMatchSpec', WHERE WHAT IT READS IS OF BULK AT MOST 1048576: true; the input reads as it did. -/
def valueDaysMatchSpecUptoRow : OpenClaim := { program := "ytleiapoaoiapbaadoor", sum := "ca00961fe8cab2c53b87c4671a6ef93ec6412c7f99f080ee9da5c0858fbd3de4", func := "canvass/canvasslaw1.ValueDaysMatchSpec", spec := "valueDaysMatchSpec", named := ["canvass/value.lengths"], apart := false, laid := [("canvass/value.lengths", laid_canvass_value_lengths)], narrowed := true }
def ValueDaysMatchSpecUptoSaid : Prop := valueDaysMatchSpecUptoRow.holds Tryd.pinned (OpenSpec.upto valueDaysMatchSpecSpec)

/-- 'canvasslaw1.ValueDaysAreACalendar', WHERE WHAT IT READS IS OF BULK AT MOST 1048576: true; the input reads as it did. -/
def valueDaysAreACalendarUptoRow : OpenClaim := { program := "ytleiapoaoiapbaadoor", sum := "ca00961fe8cab2c53b87c4671a6ef93ec6412c7f99f080ee9da5c0858fbd3de4", func := "canvass/canvasslaw1.ValueDaysAreACalendar", spec := "valueDaysAreACalendar", named := ["canvass/value.lengths"], apart := false, laid := [("canvass/value.lengths", laid_canvass_value_lengths)], narrowed := true }
def ValueDaysAreACalendarUptoSaid : Prop := valueDaysAreACalendarUptoRow.holds Tryd.pinned (OpenSpec.upto valueDaysAreACalendarSpec)

end Rows
end Go.Proofs.YtleiapoaoiapbaaDoor
