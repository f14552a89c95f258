/-
  Ratios in the reference: CheckRatio.
-/
import Derived.Test.YtghgbhmiliiohaaGreatDoorAM35
import Derived.Test.YtghgbhmiliiohaaGreatDoorAM36
import Derived.Test.YtghgbhmiliiohaaGreatDoorAM20
namespace Go.Proofs.YtghgbhmiliiohaaGreatDoor
open Go.RowKit
structure B3 (W:World) (g:Nat) (x0 x1 x2:Value):Prop where
 c0:W.cell? ⟨g,0,none⟩=some x0
 c1:W.cell? ⟨g,1,none⟩=some x1
 c2:W.cell? ⟨g,2,none⟩=some x2
 fr:∀ o,W.frozen? ⟨g,o,none⟩=false
 lt:g<W.heap.size
def three(W:World)(g:Nat)(y0 y1 y2:Value):World:=((W.setCell ⟨g,0,none⟩ y0).setCell ⟨g,1,none⟩ y1).setCell ⟨g,2,none⟩ y2
/-! ### The texts of lowest terms -/
def shV(b:Bool)(m e:Nat):ByteArray×ByteArray×Int:=
 if (decide ((Lib.decDigits m).length≤2000) && decide ((Lib.decDigits e).length≤2000))=true then ((if (b && decide (0<m))=true then ⟨#[45]⟩ ++ decB m else decB m),decB e,0) else (⟨#[]⟩,⟨#[]⟩,2)
theorem tdiv_zv(b:Bool)(p g:Nat):(zv b p).tdiv (g:Int)=zv b (p / g):=by
 cases b
 ·show (p:Int).tdiv g=((p / g:Nat):Int)
  rw[Int.tdiv_eq_ediv_of_nonneg (by omega)]
  omega
 ·show (-(p:Int)).tdiv g=-((p / g:Nat):Int)
  rw[Int.neg_tdiv,Int.tdiv_eq_ediv_of_nonneg (by omega)]
  omega
theorem tzB_zv(b:Bool)(m:Nat):tzB (zv b m)=if (b && decide (0<m))=true then ⟨#[45]⟩ ++ decB m else decB m:=by
 unfold tzB tz
 cases b
 ·rw[zv_false,if_neg (by omega),Bool.false_and,if_neg (by simp)]
  rfl
 ·rw[zv_true]
  rcases Nat.eq_zero_or_pos m with e|e
  ·subst e;rfl
  ·rw[if_pos (by omega),Bool.true_and,if_pos (by simpa using e),Int.natAbs_neg]
   apply ByteArray.ext
   simp[decB,ByteArray.data_append]
theorem raR_zv(b:Bool)(p d:Nat)(hd:0<d):raR (zv b p) d=shV b (p / Nat.gcd p d) (d / Nat.gcd p d):=by
 have hg:ovG (zv b p) (d:Int)=((Nat.gcd p d:Nat):Int):=by
  unfold ovG
  rw[if_neg (by omega)]
  unfold Int.gcd
  rw[zv_abs,Int.natAbs_natCast]
 have h2:(d:Int).tdiv ((Nat.gcd p d:Nat):Int)=((d / Nat.gcd p d:Nat):Int):=tdiv_zv false d _
 unfold raR red
 rw[hg,tdiv_zv,h2]
 generalize p / Nat.gcd p d=m
 generalize d / Nat.gcd p d=e
 unfold ra fits shV
 rw[zv_abs,Int.natAbs_natCast,tzB_zv]
 have:tzB (e:Int)=decB e:=tzB_zv false e
 rw[this]
def S2(g:Nat)(s t:ByteArray)(W:World):Prop:=W.cell? ⟨g,0,none⟩=some (.string s)∧W.cell? ⟨g,1,none⟩=some (.string t)
end Go.Proofs.YtghgbhmiliiohaaGreatDoor
