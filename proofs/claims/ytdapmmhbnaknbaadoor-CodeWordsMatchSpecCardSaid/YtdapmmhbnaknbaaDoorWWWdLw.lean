/-
  The law CodeWordsMatchSpec returns true.
-/
import Derived.Test.YtdapmmhbnaknbaaDoorWW11
import Derived.Test.YtdapmmhbnaknbaaDoorWW12
namespace Go.Proofs.YtdapmmhbnaknbaaDoor
open Go.RowKit
theorem law_words (an sa ae ar ax : Option Addr) (k0 k1 k2 k3 k4 : Nat) (C : Cod) (s : ByteArray) (w : World) (hC : CoR w an sa ae ar ax C) (hT : Lib.Utf8Tabs 0 1 w) :
    Calls Tryd.prog 3 #[.agg #[.slice an C.nd.length k0, .slice sa C.st.length k1, .slice ae C.en.length k2, .slice ar C.ru.length k3, .slice ax C.ex.length k4], .string s] w fun e w' => e = .returned (.bool true) ∧ Below w.heap.size w w' :=
  law_of an sa ae ar ax k0 k1 k2 k3 k4 C s w hC fun m V hb hst _ h30 hs => words_c m ae k2 C.st C.en s V hst (hC.en.below hb) (tabs_below hT hb) h30 hs
end Go.Proofs.YtdapmmhbnaknbaaDoor
