/-
  No cell of these rows narrows 'for every input' (looked for: loops, veiled, ifaces, maps, wideKeys, modest, calm, conditions, laid).
  DERIVED. THE GIVEN ROWS OF THIS SEAT. 2 by the template 'for every input the law returns true; each argument reads behind the call as it read before'; 0 by the template 'total and deterministic' (their statements: YtleiapoaoiapbaaTotals.lean).
  GIVEN WITH THE SEED: the statements are not yours to turn. If you find one false, say at which input.
  Laid BY PROGRAM, IN A SANDBOX (cutbox-rows.mjs): the forced cells as the released guide's own fill.sh prints them over the translation 0c67412438f52858… (all of the seat's roots in one cut). By AI agents, Wed Nov 11 2026. No macro, syntax, notation, axiom, sorry.
-/
import Derived.Test.YtleiapoaoiapbaaChecked
import GoSem.Claim
import GoSem.ClaimJoined
import GoSem.ClaimMapViews
import Derived.JoinedTies
import Derived.KernelRfl
namespace Go.Proofs.Ytleiapoaoiapbaa
/- THE CELL 'sum', in the pinned program and in every row, IS THE sha256 OF THE DUMP (.gsa) THAT YtleiapoaoiapbaaProg.lean LOADS. Nothing in Lean hashes anything: it is a label: what it is worth is what the hold of that sum in a sandbox is worth. -/
noncomputable def Try.pinned : Pinned := { name := "ytleiapoaoiapbaa", sum := "0c67412438f52858c6aab05a8f12e5ba638a78085cc0b3de1c51c251d8979770", checked := Try.checked }
namespace Rows
def none {H : Type} : Left H := { results := [], args := [] }

/-- 'canvasslaw1.ValueChecksMatchSpec': WHATEVER THE INPUT: true; the input reads as it did. -/
def valueChecksMatchSpecSpec : ChangeSpec := { name := "valueChecksMatchSpec", fn := fun _ => fun
  | [d1, d2] => { results := [.lit (.bool true)], args := [d1, d2] }
  | _ => none }
def valueChecksMatchSpecRow : OpenClaim := { program := "ytleiapoaoiapbaa", sum := "0c67412438f52858c6aab05a8f12e5ba638a78085cc0b3de1c51c251d8979770", func := "canvass/canvasslaw1.ValueChecksMatchSpec", spec := "valueChecksMatchSpec", inPlace := ["internal/bytealg.abigen_runtime_cmpstring"], apart := false }
def ValueChecksMatchSpecSaid : Prop := valueChecksMatchSpecRow.holds Try.pinned (OpenSpec.ofChange valueChecksMatchSpecSpec)

/-- ITS FALSE NEIGHBOUR: 'it returns false'. Refute it at one input. -/
def valueChecksMatchSpecWrong : ChangeSpec := { name := "valueChecksMatchSpec", fn := fun _ => fun
  | [d1, d2] => { results := [.lit (.bool false)], args := [d1, d2] }
  | _ => none }
def ValueChecksMatchSpecWrongFalsely : Prop := valueChecksMatchSpecRow.holds Try.pinned (OpenSpec.ofChange valueChecksMatchSpecWrong)

/-- 'canvasslaw1.ValueOrderIsTotal': WHATEVER THE INPUT: true; the input reads as it did. -/
def valueOrderIsTotalSpec : ChangeSpec := { name := "valueOrderIsTotal", fn := fun _ => fun
  | [d1, d2, d3] => { results := [.lit (.bool true)], args := [d1, d2, d3] }
  | _ => none }
def valueOrderIsTotalRow : OpenClaim := { program := "ytleiapoaoiapbaa", sum := "0c67412438f52858c6aab05a8f12e5ba638a78085cc0b3de1c51c251d8979770", func := "canvass/canvasslaw1.ValueOrderIsTotal", spec := "valueOrderIsTotal", inPlace := ["internal/bytealg.abigen_runtime_cmpstring"], apart := false }
def ValueOrderIsTotalSaid : Prop := valueOrderIsTotalRow.holds Try.pinned (OpenSpec.ofChange valueOrderIsTotalSpec)

/-- ITS FALSE NEIGHBOUR: 'it returns false'. Refute it at one input. -/
def valueOrderIsTotalWrong : ChangeSpec := { name := "valueOrderIsTotal", fn := fun _ => fun
  | [d1, d2, d3] => { results := [.lit (.bool false)], args := [d1, d2, d3] }
  | _ => none }
def ValueOrderIsTotalWrongFalsely : Prop := valueOrderIsTotalRow.holds Try.pinned (OpenSpec.ofChange valueOrderIsTotalWrong)

/- THE SECOND FORM. 'bulk': how many values and letters a reading holds, each counted each time it is reached (what is shared counts as often as it is met; a slice's spare places count too). A statement '..UptoSaid' is the law's where the arguments, and the package variables that the reading takes, are together of bulk at most 1048576: NARROWER than '..Said'. Prove '..Said' where nothing that the law and all that it calls make is longer than what came in: it says more and counts as full. Else prove '..UptoSaid'. A law counts once. -/
mutual
def uptoBulk {H : Type} : DataW H → Nat
  | .lit (.string bytes) => bytes.length + 1
  | .lit _ => 1
  | .nil => 1
  | .ptr d => uptoBulk d + 1
  | .slice elems spare => uptoBulkAll elems + uptoBulkAll spare + 1
  | .agg parts => uptoBulkAll parts + 1
  | .iface _ d => uptoBulk d + 1
  | .map entries => uptoBulkEntries entries + 1
  | .held _ => 1
def uptoBulkAll {H : Type} : List (DataW H) → Nat
  | [] => 0
  | d :: r => uptoBulk d + uptoBulkAll r
def uptoBulkEntries {H : Type} : List (Lit × DataW H) → Nat
  | [] => 0
  | x :: r => uptoBulkEntry x + uptoBulkEntries r
def uptoBulkEntry {H : Type} : Lit × DataW H → Nat
  | (.string bytes, d) => bytes.length + uptoBulk d + 1
  | (_, d) => uptoBulk d + 1
 end
def uptoSmall : (H : Type) → List (DataW H) → Bool := fun _ ds => decide (uptoBulkAll ds ≤ 1048576)
def OpenSpec.upto (s : _root_.Go.ChangeSpec) : _root_.Go.OpenSpec := { _root_.Go.OpenSpec.ofChange s with cond := some uptoSmall }

/-- 'canvasslaw1.ValueChecksMatchSpec', WHERE WHAT IT READS IS OF BULK AT MOST 1048576: true; the input reads as it did. -/
def valueChecksMatchSpecUptoRow : OpenClaim := { program := "ytleiapoaoiapbaa", sum := "0c67412438f52858c6aab05a8f12e5ba638a78085cc0b3de1c51c251d8979770", func := "canvass/canvasslaw1.ValueChecksMatchSpec", spec := "valueChecksMatchSpec", inPlace := ["internal/bytealg.abigen_runtime_cmpstring"], apart := false, narrowed := true }
def ValueChecksMatchSpecUptoSaid : Prop := valueChecksMatchSpecUptoRow.holds Try.pinned (OpenSpec.upto valueChecksMatchSpecSpec)

/-- 'canvasslaw1.ValueOrderIsTotal', WHERE WHAT IT READS IS OF BULK AT MOST 1048576: true; the input reads as it did. -/
def valueOrderIsTotalUptoRow : OpenClaim := { program := "ytleiapoaoiapbaa", sum := "0c67412438f52858c6aab05a8f12e5ba638a78085cc0b3de1c51c251d8979770", func := "canvass/canvasslaw1.ValueOrderIsTotal", spec := "valueOrderIsTotal", inPlace := ["internal/bytealg.abigen_runtime_cmpstring"], apart := false, narrowed := true }
def ValueOrderIsTotalUptoSaid : Prop := valueOrderIsTotalUptoRow.holds Try.pinned (OpenSpec.upto valueOrderIsTotalSpec)

end Rows
end Go.Proofs.Ytleiapoaoiapbaa
