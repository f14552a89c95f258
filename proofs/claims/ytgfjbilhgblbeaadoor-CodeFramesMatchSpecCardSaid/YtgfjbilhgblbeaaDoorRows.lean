/-
  NARROWER THAN 'FOR EVERY INPUT', by the rows' own cells (each row's printed sentence says how): CodeFramesMatchSpec: laid · CodeDistancesAreDistances: laid · CodeFinalsMatchSpec: laid · CodeMovesMatchSpec: laid · CodeLiftsAgree: laid.
  DERIVED. THE GIVEN ROWS OF THIS SEAT. 5 by the template 'for every input the law returns true; each argument reads behind the call as it read before'; 0 by the template 'total and deterministic' (their statements: YtgfjbilhgblbeaaDoorTotals.lean).
  GIVEN WITH THE SEED: the statements are not yours to turn. If you find one false, say at which input.
  Laid BY PROGRAM, IN A SANDBOX (cutbox-rows.mjs): the forced cells as the released guide's own fill.sh prints them over the translation 0ab16f662ef19b36… (all of the seat's roots in one cut). By AI agents, Wed Nov 11 2026. No macro, syntax, notation, axiom, sorry.
-/
import Derived.Test.YtgfjbilhgblbeaaDoorChecked
import GoSem.PinnedTables
import GoSem.Claim
import GoSem.ClaimJoined
import GoSem.ClaimMapViews
import Derived.JoinedTies
import Derived.KernelRfl
namespace Go.Proofs.YtgfjbilhgblbeaaDoor
/- THE CELL 'sum', in the pinned program and in every row, IS THE sha256 OF THE DUMP (.gsa) THAT YtgfjbilhgblbeaaDoorProg.lean LOADS. Nothing in Lean hashes anything: it is a label: what it is worth is what the hold of that sum in a sandbox is worth. -/
noncomputable def Tryd.pinned : Pinned := { name := "ytgfjbilhgblbeaadoor", sum := "0ab16f662ef19b366b38ce3bd4ad97fb529ba9196324bab70f633b6ad346ccdd", checked := Tryd.checked }
namespace Rows
def none {H : Type} : Left H := { results := [], args := [] }

/- WHAT THE LISTED PACKAGE-LEVEL VARIABLES READ AS WHEN THE CALL BEGINS. Each datum BY PROGRAM (the guide's laid-datum.mjs) off the statement by which the dump's own 'gosem.cut.vars' lays the variable. In a bare row this is a premise. The card (YtgfjbilhgblbeaaDoorCards.lean) ties it to the program's text. -/
def laid_math_bits_deBruijn32tab {H : Type} : DataW H := .agg [.lit (.int .u8 0), .lit (.int .u8 1), .lit (.int .u8 28), .lit (.int .u8 2), .lit (.int .u8 29), .lit (.int .u8 14), .lit (.int .u8 24), .lit (.int .u8 3), .lit (.int .u8 30), .lit (.int .u8 22), .lit (.int .u8 20), .lit (.int .u8 15), .lit (.int .u8 25), .lit (.int .u8 17), .lit (.int .u8 4), .lit (.int .u8 8), .lit (.int .u8 31), .lit (.int .u8 27), .lit (.int .u8 13), .lit (.int .u8 23), .lit (.int .u8 21), .lit (.int .u8 19), .lit (.int .u8 16), .lit (.int .u8 7), .lit (.int .u8 26), .lit (.int .u8 12), .lit (.int .u8 18), .lit (.int .u8 6), .lit (.int .u8 11), .lit (.int .u8 5), .lit (.int .u8 10), .lit (.int .u8 9)]
def laid_math_bits_deBruijn64tab {H : Type} : DataW H := .agg [.lit (.int .u8 0), .lit (.int .u8 1), .lit (.int .u8 56), .lit (.int .u8 2), .lit (.int .u8 57), .lit (.int .u8 49), .lit (.int .u8 28), .lit (.int .u8 3), .lit (.int .u8 61), .lit (.int .u8 58), .lit (.int .u8 42), .lit (.int .u8 50), .lit (.int .u8 38), .lit (.int .u8 29), .lit (.int .u8 17), .lit (.int .u8 4), .lit (.int .u8 62), .lit (.int .u8 47), .lit (.int .u8 59), .lit (.int .u8 36), .lit (.int .u8 45), .lit (.int .u8 43), .lit (.int .u8 51), .lit (.int .u8 22), .lit (.int .u8 53), .lit (.int .u8 39), .lit (.int .u8 33), .lit (.int .u8 30), .lit (.int .u8 24), .lit (.int .u8 18), .lit (.int .u8 12), .lit (.int .u8 5), .lit (.int .u8 63), .lit (.int .u8 55), .lit (.int .u8 48), .lit (.int .u8 27), .lit (.int .u8 60), .lit (.int .u8 41), .lit (.int .u8 37), .lit (.int .u8 16), .lit (.int .u8 46), .lit (.int .u8 35), .lit (.int .u8 44), .lit (.int .u8 21), .lit (.int .u8 52), .lit (.int .u8 32), .lit (.int .u8 23), .lit (.int .u8 11), .lit (.int .u8 54), .lit (.int .u8 26), .lit (.int .u8 40), .lit (.int .u8 15), .lit (.int .u8 34), .lit (.int .u8 20), .lit (.int .u8 31), .lit (.int .u8 10), .lit (.int .u8 25), .lit (.int .u8 14), .lit (.int .u8 19), .lit (.int .u8 9), .lit (.int .u8 13), .lit (.int .u8 8), .lit (.int .u8 7), .lit (.int .u8 6)]
def laid_internal_strconv_uint64pow10 {H : Type} : DataW H := .agg [.lit (.int .u64 1), .lit (.int .u64 10), .lit (.int .u64 100), .lit (.int .u64 1000), .lit (.int .u64 10000), .lit (.int .u64 100000), .lit (.int .u64 1000000), .lit (.int .u64 10000000), .lit (.int .u64 100000000), .lit (.int .u64 1000000000), .lit (.int .u64 10000000000), .lit (.int .u64 100000000000), .lit (.int .u64 1000000000000), .lit (.int .u64 10000000000000), .lit (.int .u64 100000000000000), .lit (.int .u64 1000000000000000), .lit (.int .u64 10000000000000000), .lit (.int .u64 100000000000000000), .lit (.int .u64 1000000000000000000), .lit (.int .u64 10000000000000000000)]
def laid_unicode_utf8_acceptRanges {H : Type} : DataW H := .agg [.agg [.lit (.int .u8 128), .lit (.int .u8 191)], .agg [.lit (.int .u8 160), .lit (.int .u8 191)], .agg [.lit (.int .u8 128), .lit (.int .u8 159)], .agg [.lit (.int .u8 144), .lit (.int .u8 191)], .agg [.lit (.int .u8 128), .lit (.int .u8 143)], .agg [.lit (.int .u8 0), .lit (.int .u8 0)], .agg [.lit (.int .u8 0), .lit (.int .u8 0)], .agg [.lit (.int .u8 0), .lit (.int .u8 0)], .agg [.lit (.int .u8 0), .lit (.int .u8 0)], .agg [.lit (.int .u8 0), .lit (.int .u8 0)], .agg [.lit (.int .u8 0), .lit (.int .u8 0)], .agg [.lit (.int .u8 0), .lit (.int .u8 0)], .agg [.lit (.int .u8 0), .lit (.int .u8 0)], .agg [.lit (.int .u8 0), .lit (.int .u8 0)], .agg [.lit (.int .u8 0), .lit (.int .u8 0)], .agg [.lit (.int .u8 0), .lit (.int .u8 0)]]
/-- One of Go's own tables, pinned by name: the form's constant. -/
def laid_unicode_utf8_first : DataW Unit := Go.Pinned.utf8First

/-- 'canvasslaw8.CodeFramesMatchSpec': WHATEVER THE INPUT: true; the input reads as it did. -/
def codeFramesMatchSpecSpec : ChangeSpec := { name := "codeFramesMatchSpec", fn := fun _ => fun
  | [d1, d2, d3] => { results := [.lit (.bool true)], args := [d1, d2, d3] }
  | _ => none }
def codeFramesMatchSpecRow : OpenClaim := { program := "ytgfjbilhgblbeaadoor", sum := "0ab16f662ef19b366b38ce3bd4ad97fb529ba9196324bab70f633b6ad346ccdd", func := "canvass/canvasslaw8.CodeFramesMatchSpec", spec := "codeFramesMatchSpec", inPlace := ["internal/bytealg.IndexByteString", "internal/bytealg.IndexString", "internal/abi.NoEscape", "internal/bytealg.MakeNoZero"], unfollowed := true, recurses := true, named := ["unicode/utf8.first", "unicode/utf8.acceptRanges", "internal/strconv.uint64pow10", "math/bits.deBruijn32tab", "math/bits.deBruijn64tab", "internal/bytealg.MaxLen"], apart := false, laid := [("math/bits.deBruijn32tab", laid_math_bits_deBruijn32tab), ("math/bits.deBruijn64tab", laid_math_bits_deBruijn64tab), ("internal/strconv.uint64pow10", laid_internal_strconv_uint64pow10), ("unicode/utf8.acceptRanges", laid_unicode_utf8_acceptRanges), ("unicode/utf8.first", laid_unicode_utf8_first)] }
def CodeFramesMatchSpecSaid : Prop := codeFramesMatchSpecRow.holds Tryd.pinned (OpenSpec.ofChange codeFramesMatchSpecSpec)

/-- ITS FALSE NEIGHBOUR: 'it returns false'. Refute it at one input. -/
def codeFramesMatchSpecWrong : ChangeSpec := { name := "codeFramesMatchSpec", fn := fun _ => fun
  | [d1, d2, d3] => { results := [.lit (.bool false)], args := [d1, d2, d3] }
  | _ => none }
def CodeFramesMatchSpecWrongFalsely : Prop := codeFramesMatchSpecRow.holds Tryd.pinned (OpenSpec.ofChange codeFramesMatchSpecWrong)

/-- 'canvasslaw8.CodeDistancesAreDistances': WHATEVER THE INPUT: true; the input reads as it did. -/
def codeDistancesAreDistancesSpec : ChangeSpec := { name := "codeDistancesAreDistances", fn := fun _ => fun
  | [d1, d2, d3, d4] => { results := [.lit (.bool true)], args := [d1, d2, d3, d4] }
  | _ => none }
def codeDistancesAreDistancesRow : OpenClaim := { program := "ytgfjbilhgblbeaadoor", sum := "0ab16f662ef19b366b38ce3bd4ad97fb529ba9196324bab70f633b6ad346ccdd", func := "canvass/canvasslaw8.CodeDistancesAreDistances", spec := "codeDistancesAreDistances", inPlace := ["internal/bytealg.IndexByteString", "internal/bytealg.IndexString"], unfollowed := true, recurses := true, named := ["unicode/utf8.first", "unicode/utf8.acceptRanges", "internal/bytealg.MaxLen"], apart := false, laid := [("unicode/utf8.acceptRanges", laid_unicode_utf8_acceptRanges), ("unicode/utf8.first", laid_unicode_utf8_first)] }
def CodeDistancesAreDistancesSaid : Prop := codeDistancesAreDistancesRow.holds Tryd.pinned (OpenSpec.ofChange codeDistancesAreDistancesSpec)

/-- ITS FALSE NEIGHBOUR: 'it returns false'. Refute it at one input. -/
def codeDistancesAreDistancesWrong : ChangeSpec := { name := "codeDistancesAreDistances", fn := fun _ => fun
  | [d1, d2, d3, d4] => { results := [.lit (.bool false)], args := [d1, d2, d3, d4] }
  | _ => none }
def CodeDistancesAreDistancesWrongFalsely : Prop := codeDistancesAreDistancesRow.holds Tryd.pinned (OpenSpec.ofChange codeDistancesAreDistancesWrong)

/-- 'canvasslaw8.CodeFinalsMatchSpec': WHATEVER THE INPUT: true; the input reads as it did. -/
def codeFinalsMatchSpecSpec : ChangeSpec := { name := "codeFinalsMatchSpec", fn := fun _ => fun
  | [d1, d2] => { results := [.lit (.bool true)], args := [d1, d2] }
  | _ => none }
def codeFinalsMatchSpecRow : OpenClaim := { program := "ytgfjbilhgblbeaadoor", sum := "0ab16f662ef19b366b38ce3bd4ad97fb529ba9196324bab70f633b6ad346ccdd", func := "canvass/canvasslaw8.CodeFinalsMatchSpec", spec := "codeFinalsMatchSpec", inPlace := ["internal/bytealg.IndexByteString", "internal/bytealg.IndexString"], unfollowed := true, recurses := true, named := ["unicode/utf8.first", "unicode/utf8.acceptRanges", "internal/bytealg.MaxLen"], apart := false, laid := [("unicode/utf8.acceptRanges", laid_unicode_utf8_acceptRanges), ("unicode/utf8.first", laid_unicode_utf8_first)] }
def CodeFinalsMatchSpecSaid : Prop := codeFinalsMatchSpecRow.holds Tryd.pinned (OpenSpec.ofChange codeFinalsMatchSpecSpec)

/-- ITS FALSE NEIGHBOUR: 'it returns false'. Refute it at one input. -/
def codeFinalsMatchSpecWrong : ChangeSpec := { name := "codeFinalsMatchSpec", fn := fun _ => fun
  | [d1, d2] => { results := [.lit (.bool false)], args := [d1, d2] }
  | _ => none }
def CodeFinalsMatchSpecWrongFalsely : Prop := codeFinalsMatchSpecRow.holds Tryd.pinned (OpenSpec.ofChange codeFinalsMatchSpecWrong)

/-- 'canvasslaw8.CodeMovesMatchSpec': WHATEVER THE INPUT: true; the input reads as it did. -/
def codeMovesMatchSpecSpec : ChangeSpec := { name := "codeMovesMatchSpec", fn := fun _ => fun
  | [d1, d2, d3, d4, d5] => { results := [.lit (.bool true)], args := [d1, d2, d3, d4, d5] }
  | _ => none }
def codeMovesMatchSpecRow : OpenClaim := { program := "ytgfjbilhgblbeaadoor", sum := "0ab16f662ef19b366b38ce3bd4ad97fb529ba9196324bab70f633b6ad346ccdd", func := "canvass/canvasslaw8.CodeMovesMatchSpec", spec := "codeMovesMatchSpec", inPlace := ["internal/bytealg.IndexByteString", "internal/bytealg.IndexString"], unfollowed := true, recurses := true, named := ["unicode/utf8.first", "unicode/utf8.acceptRanges", "internal/bytealg.MaxLen"], apart := false, laid := [("unicode/utf8.acceptRanges", laid_unicode_utf8_acceptRanges), ("unicode/utf8.first", laid_unicode_utf8_first)] }
def CodeMovesMatchSpecSaid : Prop := codeMovesMatchSpecRow.holds Tryd.pinned (OpenSpec.ofChange codeMovesMatchSpecSpec)

/-- ITS FALSE NEIGHBOUR: 'it returns false'. Refute it at one input. -/
def codeMovesMatchSpecWrong : ChangeSpec := { name := "codeMovesMatchSpec", fn := fun _ => fun
  | [d1, d2, d3, d4, d5] => { results := [.lit (.bool false)], args := [d1, d2, d3, d4, d5] }
  | _ => none }
def CodeMovesMatchSpecWrongFalsely : Prop := codeMovesMatchSpecRow.holds Tryd.pinned (OpenSpec.ofChange codeMovesMatchSpecWrong)

/-- 'canvasslaw8.CodeLiftsAgree': WHATEVER THE INPUT: true; the input reads as it did. -/
def codeLiftsAgreeSpec : ChangeSpec := { name := "codeLiftsAgree", fn := fun _ => fun
  | [d1, d2, d3, d4] => { results := [.lit (.bool true)], args := [d1, d2, d3, d4] }
  | _ => none }
def codeLiftsAgreeRow : OpenClaim := { program := "ytgfjbilhgblbeaadoor", sum := "0ab16f662ef19b366b38ce3bd4ad97fb529ba9196324bab70f633b6ad346ccdd", func := "canvass/canvasslaw8.CodeLiftsAgree", spec := "codeLiftsAgree", inPlace := ["internal/bytealg.IndexByteString", "internal/bytealg.IndexString"], unfollowed := true, recurses := true, named := ["unicode/utf8.first", "unicode/utf8.acceptRanges", "internal/bytealg.MaxLen"], apart := false, laid := [("unicode/utf8.acceptRanges", laid_unicode_utf8_acceptRanges), ("unicode/utf8.first", laid_unicode_utf8_first)] }
def CodeLiftsAgreeSaid : Prop := codeLiftsAgreeRow.holds Tryd.pinned (OpenSpec.ofChange codeLiftsAgreeSpec)

/-- ITS FALSE NEIGHBOUR: 'it returns false'. Refute it at one input. -/
def codeLiftsAgreeWrong : ChangeSpec := { name := "codeLiftsAgree", fn := fun _ => fun
  | [d1, d2, d3, d4] => { results := [.lit (.bool false)], args := [d1, d2, d3, d4] }
  | _ => none }
def CodeLiftsAgreeWrongFalsely : Prop := codeLiftsAgreeRow.holds Tryd.pinned (OpenSpec.ofChange codeLiftsAgreeWrong)

/- THE SECOND FORM. 'bulk': how many values and letters a reading holds, each counted each time it is reached (what is shared counts as often as it is met; a slice's spare places count too). A statement '..UptoSaid' is the law's where the arguments, and the package variables that the reading takes, are together of bulk at most 1048576: NARROWER than '..Said'. Prove '..Said' where nothing that the law and all that it calls make is longer than what came in: it says more and counts as full. Else prove '..UptoSaid'. A law counts once. -/
mutual
def uptoBulk {H : Type} : DataW H → Nat
  | .lit (.string bytes) => bytes.length + 1
  | .lit _ => 1
  | .nil => 1
  | .ptr d => uptoBulk d + 1
  | .slice elems spare => uptoBulkAll elems + uptoBulkAll spare + 1
  | .agg parts => uptoBulkAll parts + 1
  | .iface _ d => uptoBulk d + 1
  | .map entries => uptoBulkEntries entries + 1
  | .held _ => 1
def uptoBulkAll {H : Type} : List (DataW H) → Nat
  | [] => 0
  | d :: r => uptoBulk d + uptoBulkAll r
def uptoBulkEntries {H : Type} : List (Lit × DataW H) → Nat
  | [] => 0
  | x :: r => uptoBulkEntry x + uptoBulkEntries r
def uptoBulkEntry {H : Type} : Lit × DataW H → Nat
  | (.string bytes, d) => bytes.length + uptoBulk d + 1
  | (_, d) => uptoBulk d + 1
 end
def uptoSmall : (H : Type) → List (DataW H) → Bool := fun _ ds => decide (uptoBulkAll ds ≤ 1048576)
def OpenSpec.upto (s : _root_.Go.ChangeSpec) : _root_.Go.OpenSpec := { _root_.Go.OpenSpec.ofChange s with cond := some uptoSmall }

/-- 'canvasslaw8.CodeFramesMatchSpec', WHERE WHAT IT READS IS OF BULK AT MOST 1048576: true; the input reads as it did. -/
def codeFramesMatchSpecUptoRow : OpenClaim := { program := "ytgfjbilhgblbeaadoor", sum := "0ab16f662ef19b366b38ce3bd4ad97fb529ba9196324bab70f633b6ad346ccdd", func := "canvass/canvasslaw8.CodeFramesMatchSpec", spec := "codeFramesMatchSpec", inPlace := ["internal/bytealg.IndexByteString", "internal/bytealg.IndexString", "internal/abi.NoEscape", "internal/bytealg.MakeNoZero"], unfollowed := true, recurses := true, named := ["unicode/utf8.first", "unicode/utf8.acceptRanges", "internal/strconv.uint64pow10", "math/bits.deBruijn32tab", "math/bits.deBruijn64tab", "internal/bytealg.MaxLen"], apart := false, laid := [("math/bits.deBruijn32tab", laid_math_bits_deBruijn32tab), ("math/bits.deBruijn64tab", laid_math_bits_deBruijn64tab), ("internal/strconv.uint64pow10", laid_internal_strconv_uint64pow10), ("unicode/utf8.acceptRanges", laid_unicode_utf8_acceptRanges), ("unicode/utf8.first", laid_unicode_utf8_first)], narrowed := true }
def CodeFramesMatchSpecUptoSaid : Prop := codeFramesMatchSpecUptoRow.holds Tryd.pinned (OpenSpec.upto codeFramesMatchSpecSpec)

/-- 'canvasslaw8.CodeDistancesAreDistances', WHERE WHAT IT READS IS OF BULK AT MOST 1048576: true; the input reads as it did. -/
def codeDistancesAreDistancesUptoRow : OpenClaim := { program := "ytgfjbilhgblbeaadoor", sum := "0ab16f662ef19b366b38ce3bd4ad97fb529ba9196324bab70f633b6ad346ccdd", func := "canvass/canvasslaw8.CodeDistancesAreDistances", spec := "codeDistancesAreDistances", inPlace := ["internal/bytealg.IndexByteString", "internal/bytealg.IndexString"], unfollowed := true, recurses := true, named := ["unicode/utf8.first", "unicode/utf8.acceptRanges", "internal/bytealg.MaxLen"], apart := false, laid := [("unicode/utf8.acceptRanges", laid_unicode_utf8_acceptRanges), ("unicode/utf8.first", laid_unicode_utf8_first)], narrowed := true }
def CodeDistancesAreDistancesUptoSaid : Prop := codeDistancesAreDistancesUptoRow.holds Tryd.pinned (OpenSpec.upto codeDistancesAreDistancesSpec)

/-- 'canvasslaw8.CodeFinalsMatchSpec', WHERE WHAT IT READS IS OF BULK AT MOST 1048576: true; the input reads as it did. -/
def codeFinalsMatchSpecUptoRow : OpenClaim := { program := "ytgfjbilhgblbeaadoor", sum := "0ab16f662ef19b366b38ce3bd4ad97fb529ba9196324bab70f633b6ad346ccdd", func := "canvass/canvasslaw8.CodeFinalsMatchSpec", spec := "codeFinalsMatchSpec", inPlace := ["internal/bytealg.IndexByteString", "internal/bytealg.IndexString"], unfollowed := true, recurses := true, named := ["unicode/utf8.first", "unicode/utf8.acceptRanges", "internal/bytealg.MaxLen"], apart := false, laid := [("unicode/utf8.acceptRanges", laid_unicode_utf8_acceptRanges), ("unicode/utf8.first", laid_unicode_utf8_first)], narrowed := true }
def CodeFinalsMatchSpecUptoSaid : Prop := codeFinalsMatchSpecUptoRow.holds Tryd.pinned (OpenSpec.upto codeFinalsMatchSpecSpec)

/-- 'canvasslaw8.CodeMovesMatchSpec', WHERE WHAT IT READS IS OF BULK AT MOST 1048576: true; the input reads as it did. -/
def codeMovesMatchSpecUptoRow : OpenClaim := { program := "ytgfjbilhgblbeaadoor", sum := "0ab16f662ef19b366b38ce3bd4ad97fb529ba9196324bab70f633b6ad346ccdd", func := "canvass/canvasslaw8.CodeMovesMatchSpec", spec := "codeMovesMatchSpec", inPlace := ["internal/bytealg.IndexByteString", "internal/bytealg.IndexString"], unfollowed := true, recurses := true, named := ["unicode/utf8.first", "unicode/utf8.acceptRanges", "internal/bytealg.MaxLen"], apart := false, laid := [("unicode/utf8.acceptRanges", laid_unicode_utf8_acceptRanges), ("unicode/utf8.first", laid_unicode_utf8_first)], narrowed := true }
def CodeMovesMatchSpecUptoSaid : Prop := codeMovesMatchSpecUptoRow.holds Tryd.pinned (OpenSpec.upto codeMovesMatchSpecSpec)

/-- 'canvasslaw8.CodeLiftsAgree', WHERE WHAT IT READS IS OF BULK AT MOST 1048576: true; the input reads as it did. -/
def codeLiftsAgreeUptoRow : OpenClaim := { program := "ytgfjbilhgblbeaadoor", sum := "0ab16f662ef19b366b38ce3bd4ad97fb529ba9196324bab70f633b6ad346ccdd", func := "canvass/canvasslaw8.CodeLiftsAgree", spec := "codeLiftsAgree", inPlace := ["internal/bytealg.IndexByteString", "internal/bytealg.IndexString"], unfollowed := true, recurses := true, named := ["unicode/utf8.first", "unicode/utf8.acceptRanges", "internal/bytealg.MaxLen"], apart := false, laid := [("unicode/utf8.acceptRanges", laid_unicode_utf8_acceptRanges), ("unicode/utf8.first", laid_unicode_utf8_first)], narrowed := true }
def CodeLiftsAgreeUptoSaid : Prop := codeLiftsAgreeUptoRow.holds Tryd.pinned (OpenSpec.upto codeLiftsAgreeSpec)

end Rows
end Go.Proofs.YtgfjbilhgblbeaaDoor
