/-
  What the walks of expressions need of memory where nothing is printed: the library's table of blanks.
-/
import Derived.Test.YtngijlmokhkdjaaDoorTxtBase
import Derived.Test.YtngijlmokhkdjaaDoorShelf
import Derived.Lib.QuietBelow
namespace Go.Proofs.YtngijlmokhkdjaaDoor
open Go.RowKit

/-- A text of bytes. -/
def bs (l : List UInt8) : ByteArray := ⟨l.toArray⟩
theorem bs_size (l : List UInt8) : (bs l).size = l.length := by simp [bs, ByteArray.size]
theorem bs_list (l : List UInt8) : (bs l).data.toList = l := by simp [bs]
theorem bs_of (s : ByteArray) : bs s.data.toList = s := by cases s; simp [bs]
theorem bs_app (a b : List UInt8) : bs a ++ bs b = bs (a ++ b) := by
  apply ByteArray.ext; simp [bs, ByteArray.data_append]

theorem gSpace : Tryd.prog.globalNamed "strings.asciiSpace" = some 0 := by kernel_rfl

/-- What the package-level variables hold. -/
structure Env (w : World) : Prop where
  asp : Lib.TabIs Tryd.prog w "strings.asciiSpace" .u8 Lib.asciiSpaceTab
  big : 2 ≤ w.heap.size
theorem Env.below {w w' : World} (h : Env w) (hb : Below w.heap.size w w') : Env w' := by
  have hs := hb.size
  have hg := h.big
  exact ⟨Go.Joins.tab_stays gSpace h.asp hb (Nat.le_refl _), by omega⟩
theorem Env.alloc {w : World} (h : Env w) (o : Obj) : Env (w.alloc o) := h.below ((Below.refl _ _).alloc (Nat.le_refl _) o)
end Go.Proofs.YtngijlmokhkdjaaDoor
