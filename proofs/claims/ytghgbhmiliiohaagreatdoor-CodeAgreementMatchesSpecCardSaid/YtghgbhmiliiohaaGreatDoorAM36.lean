/-
  Numbers of the reference: the greatest number that divides both.
-/
import Derived.Test.YtghgbhmiliiohaaGreatDoorAM32
import Derived.Laws.OwnMore
namespace Go.Proofs.YtghgbhmiliiohaaGreatDoor
open Go.RowKit
end Go.Proofs.YtghgbhmiliiohaaGreatDoor
