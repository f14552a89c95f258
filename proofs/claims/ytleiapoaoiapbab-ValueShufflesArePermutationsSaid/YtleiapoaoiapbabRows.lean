/-
  No cell of these rows narrows 'for every input' (looked for: loops, veiled, ifaces, maps, wideKeys, modest, calm, conditions, laid).
  DERIVED. THE GIVEN ROWS OF THIS SEAT. 2 by the template 'for every input the law returns true; each argument reads behind the call as it read before'; 0 by the template 'total and deterministic' (their statements: YtleiapoaoiapbabTotals.lean).
  GIVEN WITH THE SEED: the statements are not yours to turn. If you find one false, say at which input.
  Laid BY PROGRAM, IN A SANDBOX (cutbox-rows.mjs): the forced cells as the released guide's own fill.sh prints them over the translation b7d31df0742005aa… (all of the seat's roots in one cut). By AI agents, Wed Nov 11 2026. No macro, syntax, notation, axiom, sorry.
-/
import Derived.Test.YtleiapoaoiapbabChecked
import GoSem.Claim
import GoSem.ClaimJoined
import GoSem.ClaimMapViews
import Derived.JoinedTies
import Derived.KernelRfl
namespace Go.Proofs.Ytleiapoaoiapbab
/- THE CELL 'sum', in the pinned program and in every row, IS THE sha256 OF THE DUMP (.gsa) THAT YtleiapoaoiapbabProg.lean LOADS. Nothing in Lean hashes anything: it is a label: what it is worth is what the hold of that sum in a sandbox is worth. -/
noncomputable def Try.pinned : Pinned := { name := "ytleiapoaoiapbab", sum := "b7d31df0742005aac3b00bca5c8114658f03f5381a157672161b658e4857189e", checked := Try.checked }
namespace Rows
def none {H : Type} : Left H := { results := [], args := [] }

/-- 'canvasslaw1.ValueChanceMatchesSpec': WHATEVER THE INPUT: true; the input reads as it did. -/
def valueChanceMatchesSpecSpec : ChangeSpec := { name := "valueChanceMatchesSpec", fn := fun _ => fun
  | [d1, d2] => { results := [.lit (.bool true)], args := [d1, d2] }
  | _ => none }
def valueChanceMatchesSpecRow : OpenClaim := { program := "ytleiapoaoiapbab", sum := "b7d31df0742005aac3b00bca5c8114658f03f5381a157672161b658e4857189e", func := "canvass/canvasslaw1.ValueChanceMatchesSpec", spec := "valueChanceMatchesSpec", unfollowed := true, recurses := true, apart := false }
def ValueChanceMatchesSpecSaid : Prop := valueChanceMatchesSpecRow.holds Try.pinned (OpenSpec.ofChange valueChanceMatchesSpecSpec)

/-- ITS FALSE NEIGHBOUR: 'it returns false'. Refute it at one input. -/
def valueChanceMatchesSpecWrong : ChangeSpec := { name := "valueChanceMatchesSpec", fn := fun _ => fun
  | [d1, d2] => { results := [.lit (.bool false)], args := [d1, d2] }
  | _ => none }
def ValueChanceMatchesSpecWrongFalsely : Prop := valueChanceMatchesSpecRow.holds Try.pinned (OpenSpec.ofChange valueChanceMatchesSpecWrong)

/-- 'canvasslaw1.ValueShufflesArePermutations': WHATEVER THE INPUT: true; the input reads as it did. -/
def valueShufflesArePermutationsSpec : ChangeSpec := { name := "valueShufflesArePermutations", fn := fun _ => fun
  | [d1, d2] => { results := [.lit (.bool true)], args := [d1, d2] }
  | _ => none }
def valueShufflesArePermutationsRow : OpenClaim := { program := "ytleiapoaoiapbab", sum := "b7d31df0742005aac3b00bca5c8114658f03f5381a157672161b658e4857189e", func := "canvass/canvasslaw1.ValueShufflesArePermutations", spec := "valueShufflesArePermutations", unfollowed := true, recurses := true, apart := false }
def ValueShufflesArePermutationsSaid : Prop := valueShufflesArePermutationsRow.holds Try.pinned (OpenSpec.ofChange valueShufflesArePermutationsSpec)

/-- ITS FALSE NEIGHBOUR: 'it returns false'. Refute it at one input. -/
def valueShufflesArePermutationsWrong : ChangeSpec := { name := "valueShufflesArePermutations", fn := fun _ => fun
  | [d1, d2] => { results := [.lit (.bool false)], args := [d1, d2] }
  | _ => none }
def ValueShufflesArePermutationsWrongFalsely : Prop := valueShufflesArePermutationsRow.holds Try.pinned (OpenSpec.ofChange valueShufflesArePermutationsWrong)

/- THE SECOND FORM. 'bulk': how many values and letters a reading holds, each counted each time it is reached (what is shared counts as often as it is met; a slice's spare places count too). A statement '..UptoSaid' is the law's where the arguments, and the package variables that the reading takes, are together of bulk at most 1048576: NARROWER than '..Said'. Prove '..Said' where nothing that the law and all that it calls make is longer than what came in: it says more and counts as full. Else prove '..UptoSaid'. A law counts once. -/
mutual
def uptoBulk {H : Type} : DataW H → Nat
  | .lit (.string bytes) => bytes.length + 1
  | .lit _ => 1
  | .nil => 1
  | .ptr d => uptoBulk d + 1
  | .slice elems spare => uptoBulkAll elems + uptoBulkAll spare + 1
  | .agg parts => uptoBulkAll parts + 1
  | .iface _ d => uptoBulk d + 1
  | .map entries => uptoBulkEntries entries + 1
  | .held _ => 1
def uptoBulkAll {H : Type} : List (DataW H) → Nat
  | [] => 0
  | d :: r => uptoBulk d + uptoBulkAll r
def uptoBulkEntries {H : Type} : List (Lit × DataW H) → Nat
  | [] => 0
  | x :: r => uptoBulkEntry x + uptoBulkEntries r
def uptoBulkEntry {H : Type} : Lit × DataW H → Nat
  | (.string bytes, d) => bytes.length + uptoBulk d + 1
  | (_, d) => uptoBulk d + 1
 end
def uptoSmall : (H : Type) → List (DataW H) → Bool := fun _ ds => decide (uptoBulkAll ds ≤ 1048576)
def OpenSpec.upto (s : _root_.Go.ChangeSpec) : _root_.Go.OpenSpec := { _root_.Go.OpenSpec.ofChange s with cond := some uptoSmall }

/-- 'canvasslaw1.ValueChanceMatchesSpec', WHERE WHAT IT READS IS OF BULK AT MOST 1048576: true; the input reads as it did. -/
def valueChanceMatchesSpecUptoRow : OpenClaim := { program := "ytleiapoaoiapbab", sum := "b7d31df0742005aac3b00bca5c8114658f03f5381a157672161b658e4857189e", func := "canvass/canvasslaw1.ValueChanceMatchesSpec", spec := "valueChanceMatchesSpec", unfollowed := true, recurses := true, apart := false, narrowed := true }
def ValueChanceMatchesSpecUptoSaid : Prop := valueChanceMatchesSpecUptoRow.holds Try.pinned (OpenSpec.upto valueChanceMatchesSpecSpec)

/-- 'canvasslaw1.ValueShufflesArePermutations', WHERE WHAT IT READS IS OF BULK AT MOST 1048576: true; the input reads as it did. -/
def valueShufflesArePermutationsUptoRow : OpenClaim := { program := "ytleiapoaoiapbab", sum := "b7d31df0742005aac3b00bca5c8114658f03f5381a157672161b658e4857189e", func := "canvass/canvasslaw1.ValueShufflesArePermutations", spec := "valueShufflesArePermutations", unfollowed := true, recurses := true, apart := false, narrowed := true }
def ValueShufflesArePermutationsUptoSaid : Prop := valueShufflesArePermutationsUptoRow.holds Try.pinned (OpenSpec.upto valueShufflesArePermutationsSpec)

end Rows
end Go.Proofs.Ytleiapoaoiapbab
