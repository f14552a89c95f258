/-
  The rows of the table of expressions, and the signs between their parts.
-/
import Derived.Test.YtcdifmnakppfkaaGreatDoorExTx
import Derived.Test.YtcdifmnakppfkaaGreatDoorTxtRefChk
namespace Go.Proofs.YtcdifmnakppfkaaGreatDoor
open Go.RowKit

theorem rowOf_o (k o : Int) (nm : ByteArray) (vk vn : Int) (vs : ByteArray) (p : Option Addr) (m q : Nat) (a : Option Addr) (n c : Nat) (w : World) (hk : k ≠ 4) :
    Calls Tryz.prog 21 #[.agg #[.int .i64 k, .int .i64 o, .string nm, .int .i64 vk, .int .i64 vn, .string vs, .slice p m q, .slice a n c]] w fun e w' => e = .returned (.int .i64 (rowS k o)) ∧ Below w.heap.size w w' := by
  have e : Hid (rowS k o = 8) := by unfold Hid rowS; rw [if_pos hk]
  have k1 : (k != 4) = true := by simpa using hk
  clear hk
  go_enter Tryz.func21, Tryz.ntmps21
  go_wp2
  go_ret
  exact ⟨ret_int e.out.symm, (Below.refl _ _).alloc (Nat.le_refl _) _⟩
set_option maxHeartbeats 4000000 in
theorem rowOf_0 (o : Int) (nm : ByteArray) (vk vn : Int) (vs : ByteArray) (p : Option Addr) (m q : Nat) (a : Option Addr) (n c : Nat) (w : World) (h1 : 1 ≤ o) (h2 : o ≤ 20) :
    Calls Tryz.prog 21 #[.agg #[.int .i64 4, .int .i64 o, .string nm, .int .i64 vk, .int .i64 vn, .string vs, .slice p m q, .slice a n c]] w fun e w' => e = .returned (.int .i64 (rowS 4 o)) ∧ Below w.heap.size w w' := by
  have ho : o = 1 ∨ o = 2 ∨ o = 3 ∨ o = 4 ∨ o = 5 ∨ o = 6 ∨ o = 7 ∨ o = 8 ∨ o = 9 ∨ o = 10 ∨ o = 11 ∨ o = 12 ∨ o = 13 ∨ o = 14 ∨ o = 15 ∨ o = 16 ∨ o = 17 ∨ o = 18 ∨ o = 19 ∨ o = 20 := by omega
  clear h1 h2
  rcases ho with rfl | rfl | rfl | rfl | rfl | rfl | rfl | rfl | rfl | rfl | rfl | rfl | rfl | rfl | rfl | rfl | rfl | rfl | rfl | rfl
  all_goals
    go_enter Tryz.func21, Tryz.ntmps21
    go_wp2
    go_ret
    exact ⟨rfl, (Below.refl _ _).alloc (Nat.le_refl _) _⟩
set_option maxHeartbeats 4000000 in
theorem rowOf_1 (o : Int) (nm : ByteArray) (vk vn : Int) (vs : ByteArray) (p : Option Addr) (m q : Nat) (a : Option Addr) (n c : Nat) (w : World) (h1 : 21 ≤ o) (h2 : o ≤ 39) :
    Calls Tryz.prog 21 #[.agg #[.int .i64 4, .int .i64 o, .string nm, .int .i64 vk, .int .i64 vn, .string vs, .slice p m q, .slice a n c]] w fun e w' => e = .returned (.int .i64 (rowS 4 o)) ∧ Below w.heap.size w w' := by
  have ho : o = 21 ∨ o = 22 ∨ o = 23 ∨ o = 24 ∨ o = 25 ∨ o = 26 ∨ o = 27 ∨ o = 28 ∨ o = 29 ∨ o = 30 ∨ o = 31 ∨ o = 32 ∨ o = 33 ∨ o = 34 ∨ o = 35 ∨ o = 36 ∨ o = 37 ∨ o = 38 ∨ o = 39 := by omega
  clear h1 h2
  rcases ho with rfl | rfl | rfl | rfl | rfl | rfl | rfl | rfl | rfl | rfl | rfl | rfl | rfl | rfl | rfl | rfl | rfl | rfl | rfl
  all_goals
    go_enter Tryz.func21, Tryz.ntmps21
    go_wp2
    go_ret
    exact ⟨rfl, (Below.refl _ _).alloc (Nat.le_refl _) _⟩
theorem rowOf_c (k o : Int) (nm : ByteArray) (vk vn : Int) (vs : ByteArray) (p : Option Addr) (m q : Nat) (a : Option Addr) (n c : Nat) (w : World) (h : k ≠ 4 ∨ (1 ≤ o ∧ o ≤ 39)) :
    Calls Tryz.prog 21 #[.agg #[.int .i64 k, .int .i64 o, .string nm, .int .i64 vk, .int .i64 vn, .string vs, .slice p m q, .slice a n c]] w fun e w' => e = .returned (.int .i64 (rowS k o)) ∧ Below w.heap.size w w' := by
  by_cases hk : k = 4
  · subst hk
    by_cases h2 : o ≤ 20
    · exact rowOf_0 o nm vk vn vs p m q a n c w (by omega) h2
    · exact rowOf_1 o nm vk vn vs p m q a n c w (by omega) (by omega)
  · exact rowOf_o k o nm vk vn vs p m q a n c w hk
end Go.Proofs.YtcdifmnakppfkaaGreatDoor
