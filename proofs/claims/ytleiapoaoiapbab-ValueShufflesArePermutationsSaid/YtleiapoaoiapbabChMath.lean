/-
  The stream of a seed in plain integers, and what an exchange of two places does to a list. Nothing of the program stands here but the spelling of the 64-bit operations of the model.
-/
import Derived.Test.YtleiapoaoiapbabRows
import Derived.WalkKit
import Derived.Laws.BitsAllLaws
namespace Go.Proofs.Ytleiapoaoiapbab.Ch
open Go

/-- One byte of a seed. -/
def fh (st : Int) (c : UInt8) : Int := IntKind.u64.wrap (bits BinOp.xor IntKind.u64 st (IntKind.u64.wrap (c.toNat : Int)) * 1099511628211)
/-- The state after the first k bytes of a seed. -/
def seedAt (s : ByteArray) (k : Nat) : Int := (s.data.toList.take k).foldl fh 14695981039346656037
def seed (s : ByteArray) : Int := seedAt s s.size
/-- The next state, and the number that belongs to it. -/
def nx (st : Int) : Int := IntKind.u64.wrap (st + 11400714819323198485)
def m1 (z : Int) : Int := IntKind.u64.wrap (bits BinOp.xor IntKind.u64 z (z / 1073741824) * 13787848793156543929)
def m2 (z : Int) : Int := IntKind.u64.wrap (bits BinOp.xor IntKind.u64 z (z / 134217728) * 10723151780598845931)
def m3 (z : Int) : Int := bits BinOp.xor IntKind.u64 z (z / 2147483648)
def ot (st : Int) : Int := m3 (m2 (m1 (nx st)))
/-- The state after k numbers, and number k. -/
def stAt (s0 : Int) : Nat → Int
  | 0 => s0
  | k + 1 => nx (stAt s0 k)
def outAt (s0 : Int) (k : Nat) : Int := ot (stAt s0 k)

theorem wrap_u64 (x : Int) : 0 ≤ IntKind.u64.wrap x ∧ IntKind.u64.wrap x < 18446744073709551616 := by
  rw [IntKind.wrap_u64]; omega
/-- The first k numbers. -/
def outs (s0 : Int) (k : Nat) : List Int := (List.range k).map (outAt s0)
theorem outs_succ (s0 : Int) (k : Nat) : outs s0 (k + 1) = outs s0 k ++ [outAt s0 k] := by simp [outs, List.range_succ]
theorem outs_len (s0 : Int) (k : Nat) : (outs s0 k).length = k := by simp [outs]
theorem outs_at (s0 : Int) (n k : Nat) (h : k < n) : (outs s0 n).getD k 0 = outAt s0 k := by simp [outs, h]
/-- Two places exchanged. -/
def sw (f : Nat → Int) (i j : Nat) (p : Nat) : Int := if p = j then f i else if p = i then f j else f p
/-- The place with which place i is exchanged, and the order behind k exchanges. -/
def jx (s0 : Int) (n i : Nat) : Nat := (outAt s0 (n - 1 - i) % ((i : Int) + 1)).toNat
def pm (s0 : Int) (n : Nat) : Nat → Nat → Int
  | 0 => fun p => (p : Int)
  | k + 1 => sw (pm s0 n k) (n - 1 - k) (jx s0 n (n - 1 - k))
theorem jx_lt (s0 : Int) (n i : Nat) : jx s0 n i ≤ i := by
  unfold jx
  have := Int.emod_lt_of_pos (outAt s0 (n - 1 - i)) (show (0 : Int) < (i : Int) + 1 by omega)
  omega
theorem jx_cast (s0 : Int) (n i : Nat) : ((jx s0 n i : Nat) : Int) = outAt s0 (n - 1 - i) % ((i : Int) + 1) := by
  unfold jx
  have := Int.emod_nonneg (outAt s0 (n - 1 - i)) (show ((i : Int) + 1) ≠ 0 by omega)
  omega
/-- The exchange of place m + 1. -/
theorem pm_next (s0 : Int) (n m : Nat) (h : m + 1 < n) : pm s0 n (n - 1 - m) = sw (pm s0 n (n - 1 - (m + 1))) (m + 1) (jx s0 n (m + 1)) := by
  have e : n - 1 - m = (n - 1 - (m + 1)) + 1 := by omega
  have e2 : n - 1 - (n - 1 - (m + 1)) = m + 1 := by omega
  rw [e]
  show sw _ _ _ = _
  rw [e2]
theorem stAt_next (s0 : Int) (n m : Nat) (h : m + 1 < n) : stAt s0 (n - 1 - m) = nx (stAt s0 (n - 1 - (m + 1))) := by
  have e : n - 1 - m = (n - 1 - (m + 1)) + 1 := by omega
  rw [e]; rfl
theorem m3_nonneg (z : Int) (h1 : 0 ≤ z) (h2 : z < 18446744073709551616) : 0 ≤ m3 z := by
  unfold m3
  rw [u64_xor z (z / 2147483648) h1 h2 (by omega) (by omega)]
  omega
theorem ot_nonneg (st : Int) : 0 ≤ ot st := by
  obtain ⟨h1, h2⟩ := wrap_u64 (bits BinOp.xor IntKind.u64 (m1 (nx st)) (m1 (nx st) / 134217728) * 10723151780598845931)
  exact m3_nonneg (m2 (m1 (nx st))) h1 h2
theorem tmod_ot (st : Int) (k : Int) : (ot st).tmod k = ot st % k := Int.tmod_eq_emod_of_nonneg (ot_nonneg st)
end Go.Proofs.Ytleiapoaoiapbab.Ch
