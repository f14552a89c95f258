/-
  No cell of these rows narrows 'for every input' (looked for: loops, veiled, ifaces, maps, wideKeys, modest, calm, conditions, laid).
  DERIVED. THE GIVEN ROWS OF THIS SEAT. 5 by the template 'for every input the law returns true; each argument reads behind the call as it read before'; 0 by the template 'total and deterministic' (their statements: YtaiiobojlipbeaaTotals.lean).
  GIVEN WITH THE SEED: the statements are not yours to turn. If you find one false, say at which input.
  Laid BY PROGRAM, IN A SANDBOX (cutbox-rows.mjs): the forced cells as the released guide's own fill.sh prints them over the translation 8b99cb9393edff97… (all of the seat's roots in one cut). By AI agents, Wed Nov 11 2026. No macro, syntax, notation, axiom, sorry.
-/
import Derived.Test.YtaiiobojlipbeaaChecked
import GoSem.Claim
import GoSem.ClaimJoined
import GoSem.ClaimMapViews
import Derived.JoinedTies
import Derived.KernelRfl
namespace Go.Proofs.Ytaiiobojlipbeaa
/- THE CELL 'sum', in the pinned program and in every row, IS THE sha256 OF THE DUMP (.gsa) THAT YtaiiobojlipbeaaProg.lean LOADS. Nothing in Lean hashes anything: it is a label: what it is worth is what the hold of that sum in a sandbox is worth. -/
noncomputable def Try.pinned : Pinned := { name := "ytaiiobojlipbeaa", sum := "8b99cb9393edff978ee52da74bafd01f9c9379a4c958545a56c9f0049778d225", checked := Try.checked }
namespace Rows
def none {H : Type} : Left H := { results := [], args := [] }

/-- 'canvasslaw5.SampleSharesMatchSpec': WHATEVER THE INPUT: true; the input reads as it did. -/
def sampleSharesMatchSpecSpec : ChangeSpec := { name := "sampleSharesMatchSpec", fn := fun _ => fun
  | [d1, d2, d3, d4] => { results := [.lit (.bool true)], args := [d1, d2, d3, d4] }
  | _ => none }
def sampleSharesMatchSpecRow : OpenClaim := { program := "ytaiiobojlipbeaa", sum := "8b99cb9393edff978ee52da74bafd01f9c9379a4c958545a56c9f0049778d225", func := "canvass/canvasslaw5.SampleSharesMatchSpec", spec := "sampleSharesMatchSpec", apart := false }
def SampleSharesMatchSpecSaid : Prop := sampleSharesMatchSpecRow.holds Try.pinned (OpenSpec.ofChange sampleSharesMatchSpecSpec)

/-- ITS FALSE NEIGHBOUR: 'it returns false'. Refute it at one input. -/
def sampleSharesMatchSpecWrong : ChangeSpec := { name := "sampleSharesMatchSpec", fn := fun _ => fun
  | [d1, d2, d3, d4] => { results := [.lit (.bool false)], args := [d1, d2, d3, d4] }
  | _ => none }
def SampleSharesMatchSpecWrongFalsely : Prop := sampleSharesMatchSpecRow.holds Try.pinned (OpenSpec.ofChange sampleSharesMatchSpecWrong)

/-- 'canvasslaw5.SampleSharesAreFair': WHATEVER THE INPUT: true; the input reads as it did. -/
def sampleSharesAreFairSpec : ChangeSpec := { name := "sampleSharesAreFair", fn := fun _ => fun
  | [d1, d2, d3, d4] => { results := [.lit (.bool true)], args := [d1, d2, d3, d4] }
  | _ => none }
def sampleSharesAreFairRow : OpenClaim := { program := "ytaiiobojlipbeaa", sum := "8b99cb9393edff978ee52da74bafd01f9c9379a4c958545a56c9f0049778d225", func := "canvass/canvasslaw5.SampleSharesAreFair", spec := "sampleSharesAreFair", apart := false }
def SampleSharesAreFairSaid : Prop := sampleSharesAreFairRow.holds Try.pinned (OpenSpec.ofChange sampleSharesAreFairSpec)

/-- ITS FALSE NEIGHBOUR: 'it returns false'. Refute it at one input. -/
def sampleSharesAreFairWrong : ChangeSpec := { name := "sampleSharesAreFair", fn := fun _ => fun
  | [d1, d2, d3, d4] => { results := [.lit (.bool false)], args := [d1, d2, d3, d4] }
  | _ => none }
def SampleSharesAreFairWrongFalsely : Prop := sampleSharesAreFairRow.holds Try.pinned (OpenSpec.ofChange sampleSharesAreFairWrong)

/-- 'canvasslaw5.SampleHitsMatchSpec': WHATEVER THE INPUT: true; the input reads as it did. -/
def sampleHitsMatchSpecSpec : ChangeSpec := { name := "sampleHitsMatchSpec", fn := fun _ => fun
  | [d1, d2, d3] => { results := [.lit (.bool true)], args := [d1, d2, d3] }
  | _ => none }
def sampleHitsMatchSpecRow : OpenClaim := { program := "ytaiiobojlipbeaa", sum := "8b99cb9393edff978ee52da74bafd01f9c9379a4c958545a56c9f0049778d225", func := "canvass/canvasslaw5.SampleHitsMatchSpec", spec := "sampleHitsMatchSpec", apart := false }
def SampleHitsMatchSpecSaid : Prop := sampleHitsMatchSpecRow.holds Try.pinned (OpenSpec.ofChange sampleHitsMatchSpecSpec)

/-- ITS FALSE NEIGHBOUR: 'it returns false'. Refute it at one input. -/
def sampleHitsMatchSpecWrong : ChangeSpec := { name := "sampleHitsMatchSpec", fn := fun _ => fun
  | [d1, d2, d3] => { results := [.lit (.bool false)], args := [d1, d2, d3] }
  | _ => none }
def SampleHitsMatchSpecWrongFalsely : Prop := sampleHitsMatchSpecRow.holds Try.pinned (OpenSpec.ofChange sampleHitsMatchSpecWrong)

/-- 'canvasslaw5.SampleHitsAreFair': WHATEVER THE INPUT: true; the input reads as it did. -/
def sampleHitsAreFairSpec : ChangeSpec := { name := "sampleHitsAreFair", fn := fun _ => fun
  | [d1, d2] => { results := [.lit (.bool true)], args := [d1, d2] }
  | _ => none }
def sampleHitsAreFairRow : OpenClaim := { program := "ytaiiobojlipbeaa", sum := "8b99cb9393edff978ee52da74bafd01f9c9379a4c958545a56c9f0049778d225", func := "canvass/canvasslaw5.SampleHitsAreFair", spec := "sampleHitsAreFair", apart := false }
def SampleHitsAreFairSaid : Prop := sampleHitsAreFairRow.holds Try.pinned (OpenSpec.ofChange sampleHitsAreFairSpec)

/-- ITS FALSE NEIGHBOUR: 'it returns false'. Refute it at one input. -/
def sampleHitsAreFairWrong : ChangeSpec := { name := "sampleHitsAreFair", fn := fun _ => fun
  | [d1, d2] => { results := [.lit (.bool false)], args := [d1, d2] }
  | _ => none }
def SampleHitsAreFairWrongFalsely : Prop := sampleHitsAreFairRow.holds Try.pinned (OpenSpec.ofChange sampleHitsAreFairWrong)

/-- 'canvasslaw5.SampleCallsMatchSpec': WHATEVER THE INPUT: true; the input reads as it did. -/
def sampleCallsMatchSpecSpec : ChangeSpec := { name := "sampleCallsMatchSpec", fn := fun _ => fun
  | [d1, d2, d3] => { results := [.lit (.bool true)], args := [d1, d2, d3] }
  | _ => none }
def sampleCallsMatchSpecRow : OpenClaim := { program := "ytaiiobojlipbeaa", sum := "8b99cb9393edff978ee52da74bafd01f9c9379a4c958545a56c9f0049778d225", func := "canvass/canvasslaw5.SampleCallsMatchSpec", spec := "sampleCallsMatchSpec", unfollowed := true, recurses := true, apart := false }
def SampleCallsMatchSpecSaid : Prop := sampleCallsMatchSpecRow.holds Try.pinned (OpenSpec.ofChange sampleCallsMatchSpecSpec)

/-- ITS FALSE NEIGHBOUR: 'it returns false'. Refute it at one input. -/
def sampleCallsMatchSpecWrong : ChangeSpec := { name := "sampleCallsMatchSpec", fn := fun _ => fun
  | [d1, d2, d3] => { results := [.lit (.bool false)], args := [d1, d2, d3] }
  | _ => none }
def SampleCallsMatchSpecWrongFalsely : Prop := sampleCallsMatchSpecRow.holds Try.pinned (OpenSpec.ofChange sampleCallsMatchSpecWrong)

/- THE SECOND FORM. 'bulk': how many values and letters a reading holds, each counted each time it is reached (what is shared counts as often as it is met; a slice's spare places count too). A statement '..UptoSaid' is the law's where the arguments, and the package variables that the reading takes, are together of bulk at most 1048576: NARROWER than '..Said'. Prove '..Said' where nothing that the law and all that it calls make is longer than what came in: it says more and counts as full. Else prove '..UptoSaid'. A law counts once. -/
mutual
def uptoBulk {H : Type} : DataW H → Nat
  | .lit (.string bytes) => bytes.length + 1
  | .lit _ => 1
  | .nil => 1
  | .ptr d => uptoBulk d + 1
  | .slice elems spare => uptoBulkAll elems + uptoBulkAll spare + 1
  | .agg parts => uptoBulkAll parts + 1
  | .iface _ d => uptoBulk d + 1
  | .map entries => uptoBulkEntries entries + 1
  | .held _ => 1
def uptoBulkAll {H : Type} : List (DataW H) → Nat
  | [] => 0
  | d :: r => uptoBulk d + uptoBulkAll r
def uptoBulkEntries {H : Type} : List (Lit × DataW H) → Nat
  | [] => 0
  | x :: r => uptoBulkEntry x + uptoBulkEntries r
def uptoBulkEntry {H : Type} : Lit × DataW H → Nat
  | (.string bytes, d) => bytes.length + uptoBulk d + 1
  | (_, d) => uptoBulk d + 1
 end
def uptoSmall : (H : Type) → List (DataW H) → Bool := fun _ ds => decide (uptoBulkAll ds ≤ 1048576)
def OpenSpec.upto (s : _root_.Go.ChangeSpec) : _root_.Go.OpenSpec := { _root_.Go.OpenSpec.ofChange s with cond := some uptoSmall }

/-- 'canvasslaw5.SampleSharesMatchSpec', WHERE WHAT IT READS IS OF BULK AT MOST 1048576: true; the input reads as it did. -/
def sampleSharesMatchSpecUptoRow : OpenClaim := { program := "ytaiiobojlipbeaa", sum := "8b99cb9393edff978ee52da74bafd01f9c9379a4c958545a56c9f0049778d225", func := "canvass/canvasslaw5.SampleSharesMatchSpec", spec := "sampleSharesMatchSpec", apart := false, narrowed := true }
def SampleSharesMatchSpecUptoSaid : Prop := sampleSharesMatchSpecUptoRow.holds Try.pinned (OpenSpec.upto sampleSharesMatchSpecSpec)

/-- 'canvasslaw5.SampleSharesAreFair', WHERE WHAT IT READS IS OF BULK AT MOST 1048576: true; the input reads as it did. -/
def sampleSharesAreFairUptoRow : OpenClaim := { program := "ytaiiobojlipbeaa", sum := "8b99cb9393edff978ee52da74bafd01f9c9379a4c958545a56c9f0049778d225", func := "canvass/canvasslaw5.SampleSharesAreFair", spec := "sampleSharesAreFair", apart := false, narrowed := true }
def SampleSharesAreFairUptoSaid : Prop := sampleSharesAreFairUptoRow.holds Try.pinned (OpenSpec.upto sampleSharesAreFairSpec)

/-- 'canvasslaw5.SampleHitsMatchSpec', WHERE WHAT IT READS IS OF BULK AT MOST 1048576: true; the input reads as it did. -/
def sampleHitsMatchSpecUptoRow : OpenClaim := { program := "ytaiiobojlipbeaa", sum := "8b99cb9393edff978ee52da74bafd01f9c9379a4c958545a56c9f0049778d225", func := "canvass/canvasslaw5.SampleHitsMatchSpec", spec := "sampleHitsMatchSpec", apart := false, narrowed := true }
def SampleHitsMatchSpecUptoSaid : Prop := sampleHitsMatchSpecUptoRow.holds Try.pinned (OpenSpec.upto sampleHitsMatchSpecSpec)

/-- 'canvasslaw5.SampleHitsAreFair', WHERE WHAT IT READS IS OF BULK AT MOST 1048576: true; the input reads as it did. -/
def sampleHitsAreFairUptoRow : OpenClaim := { program := "ytaiiobojlipbeaa", sum := "8b99cb9393edff978ee52da74bafd01f9c9379a4c958545a56c9f0049778d225", func := "canvass/canvasslaw5.SampleHitsAreFair", spec := "sampleHitsAreFair", apart := false, narrowed := true }
def SampleHitsAreFairUptoSaid : Prop := sampleHitsAreFairUptoRow.holds Try.pinned (OpenSpec.upto sampleHitsAreFairSpec)

/-- 'canvasslaw5.SampleCallsMatchSpec', WHERE WHAT IT READS IS OF BULK AT MOST 1048576: true; the input reads as it did. -/
def sampleCallsMatchSpecUptoRow : OpenClaim := { program := "ytaiiobojlipbeaa", sum := "8b99cb9393edff978ee52da74bafd01f9c9379a4c958545a56c9f0049778d225", func := "canvass/canvasslaw5.SampleCallsMatchSpec", spec := "sampleCallsMatchSpec", unfollowed := true, recurses := true, apart := false, narrowed := true }
def SampleCallsMatchSpecUptoSaid : Prop := sampleCallsMatchSpecUptoRow.holds Try.pinned (OpenSpec.upto sampleCallsMatchSpecSpec)

end Rows
end Go.Proofs.Ytaiiobojlipbeaa
