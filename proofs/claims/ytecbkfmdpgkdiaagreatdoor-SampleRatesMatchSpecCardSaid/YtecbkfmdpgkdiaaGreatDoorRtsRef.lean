/-
  Rates of the reference.
-/
import Derived.Test.YtecbkfmdpgkdiaaGreatDoorRtsRefZ
import Derived.Test.YtecbkfmdpgkdiaaGreatDoorRtsRefP
namespace Go.Proofs.YtecbkfmdpgkdiaaGreatDoor
open Go.RowKit

theorem RRates_c (a : Option Addr) (c : Nat) (l : List Int) (w : World) (h : Rd w a l) (hE : Pow w) : Calls Tryz.prog 13 #[.slice a l.length c] w (RtsPost l w) := by
  by_cases hk : KN l = 0
  · exact RRates_z a c l w h hE hk
  · exact RRates_p a c l w h hE hk
end Go.Proofs.YtecbkfmdpgkdiaaGreatDoor
