/-
  The rows of the table in the reference, and its signs between parts (made by a program).
-/
import Derived.Test.YtcdifmnakppfkaaGreatDoorExRows
namespace Go.Proofs.YtcdifmnakppfkaaGreatDoor
open Go.RowKit

/-- The row that the reference gives: 7 for a Number below 0. -/
def rrowS (k o vk vn : Int) : Int := if k = 1 ∧ vk = 2 ∧ vn < 0 then 7 else rowS k o
theorem rrow_lt (k o vk vn r : Int) (h : r ≤ 7) : (rrowS k o vk vn < r) ↔ (rowS k o < r) := by
  unfold rrowS
  split
  · rename_i h1
    have : rowS k o = 8 := by unfold rowS; rw [if_pos (by omega)]
    omega
  · rfl
theorem rrow_o (k o : Int) (nm : ByteArray) (vk vn : Int) (vs : ByteArray) (p : Option Addr) (m q : Nat) (a : Option Addr) (n c : Nat) (w : World) (hk : k ≠ 4) :
    Calls Tryz.prog 24 #[.agg #[.int .i64 k, .int .i64 o, .string nm, .int .i64 vk, .int .i64 vn, .string vs, .slice p m q, .slice a n c]] w fun e w' => e = .returned (.int .i64 (rrowS k o vk vn)) ∧ Below w.heap.size w w' := by
  have k4 : (k != 4) = true := by simpa using hk
  have e8 : rowS k o = 8 := by unfold rowS; rw [if_pos hk]
  by_cases h1 : k = 1
  · have k1 : (k == 1) = true := by simpa using h1
    by_cases h2 : vk = 2
    · have k2 : (vk == 2) = true := by simpa using h2
      by_cases h3 : vn < 0
      · have e : Hid (rrowS k o vk vn = 7) := by unfold Hid rrowS; rw [if_pos ⟨h1, h2, h3⟩]
        clear hk h1 h2 e8
        go_enter Tryz.func24, Tryz.ntmps24
        go_wp2_with fail
        go_ret
        exact ⟨ret_int e.out.symm, (Below.refl _ _).alloc (Nat.le_refl _) _⟩
      · have k3 : decide (vn < 0) = false := by simpa using h3
        have e : Hid (rrowS k o vk vn = 8) := by unfold Hid rrowS; rw [if_neg (fun h => h3 h.2.2), e8]
        clear hk h1 h2 h3 e8
        go_enter Tryz.func24, Tryz.ntmps24
        go_wp2_with fail
        go_ret
        exact ⟨ret_int e.out.symm, (Below.refl _ _).alloc (Nat.le_refl _) _⟩
    · have k2 : (vk == 2) = false := by rw [beq_eq_false_iff_ne]; exact h2
      have e : Hid (rrowS k o vk vn = 8) := by unfold Hid rrowS; rw [if_neg (fun h => h2 h.2.1), e8]
      clear hk h1 h2 e8
      go_enter Tryz.func24, Tryz.ntmps24
      go_wp2_with fail
      go_ret
      exact ⟨ret_int e.out.symm, (Below.refl _ _).alloc (Nat.le_refl _) _⟩
  · have k1 : (k == 1) = false := by rw [beq_eq_false_iff_ne]; exact h1
    have e : Hid (rrowS k o vk vn = 8) := by unfold Hid rrowS; rw [if_neg (fun h => h1 h.1), e8]
    clear hk h1 e8
    go_enter Tryz.func24, Tryz.ntmps24
    go_wp2_with fail
    go_ret
    exact ⟨ret_int e.out.symm, (Below.refl _ _).alloc (Nat.le_refl _) _⟩
set_option maxHeartbeats 4000000 in
theorem rrow_0 (o : Int) (nm : ByteArray) (vk vn : Int) (vs : ByteArray) (p : Option Addr) (m q : Nat) (a : Option Addr) (n c : Nat) (w : World) (h1 : 1 ≤ o) (h2 : o ≤ 20) :
    Calls Tryz.prog 24 #[.agg #[.int .i64 4, .int .i64 o, .string nm, .int .i64 vk, .int .i64 vn, .string vs, .slice p m q, .slice a n c]] w fun e w' => e = .returned (.int .i64 (rowS 4 o)) ∧ Below w.heap.size w w' := by
  have ho : o = 1 ∨ o = 2 ∨ o = 3 ∨ o = 4 ∨ o = 5 ∨ o = 6 ∨ o = 7 ∨ o = 8 ∨ o = 9 ∨ o = 10 ∨ o = 11 ∨ o = 12 ∨ o = 13 ∨ o = 14 ∨ o = 15 ∨ o = 16 ∨ o = 17 ∨ o = 18 ∨ o = 19 ∨ o = 20 := by omega
  clear h1 h2
  rcases ho with rfl | rfl | rfl | rfl | rfl | rfl | rfl | rfl | rfl | rfl | rfl | rfl | rfl | rfl | rfl | rfl | rfl | rfl | rfl | rfl
  all_goals
    go_enter Tryz.func24, Tryz.ntmps24
    go_wp2
    go_ret
    exact ⟨rfl, (Below.refl _ _).alloc (Nat.le_refl _) _⟩
set_option maxHeartbeats 4000000 in
theorem rrow_1 (o : Int) (nm : ByteArray) (vk vn : Int) (vs : ByteArray) (p : Option Addr) (m q : Nat) (a : Option Addr) (n c : Nat) (w : World) (h1 : 21 ≤ o) (h2 : o ≤ 39) :
    Calls Tryz.prog 24 #[.agg #[.int .i64 4, .int .i64 o, .string nm, .int .i64 vk, .int .i64 vn, .string vs, .slice p m q, .slice a n c]] w fun e w' => e = .returned (.int .i64 (rowS 4 o)) ∧ Below w.heap.size w w' := by
  have ho : o = 21 ∨ o = 22 ∨ o = 23 ∨ o = 24 ∨ o = 25 ∨ o = 26 ∨ o = 27 ∨ o = 28 ∨ o = 29 ∨ o = 30 ∨ o = 31 ∨ o = 32 ∨ o = 33 ∨ o = 34 ∨ o = 35 ∨ o = 36 ∨ o = 37 ∨ o = 38 ∨ o = 39 := by omega
  clear h1 h2
  rcases ho with rfl | rfl | rfl | rfl | rfl | rfl | rfl | rfl | rfl | rfl | rfl | rfl | rfl | rfl | rfl | rfl | rfl | rfl | rfl
  all_goals
    go_enter Tryz.func24, Tryz.ntmps24
    go_wp2
    go_ret
    exact ⟨rfl, (Below.refl _ _).alloc (Nat.le_refl _) _⟩
theorem rrow_c (k o : Int) (nm : ByteArray) (vk vn : Int) (vs : ByteArray) (p : Option Addr) (m q : Nat) (a : Option Addr) (n c : Nat) (w : World) (h : k ≠ 4 ∨ (1 ≤ o ∧ o ≤ 39)) :
    Calls Tryz.prog 24 #[.agg #[.int .i64 k, .int .i64 o, .string nm, .int .i64 vk, .int .i64 vn, .string vs, .slice p m q, .slice a n c]] w fun e w' => e = .returned (.int .i64 (rrowS k o vk vn)) ∧ Below w.heap.size w w' := by
  by_cases hk : k = 4
  · subst hk
    rw [show rrowS 4 o vk vn = rowS 4 o by unfold rrowS; rw [if_neg (by omega)]]
    by_cases h2 : o ≤ 20
    · exact rrow_0 o nm vk vn vs p m q a n c w (by omega) h2
    · exact rrow_1 o nm vk vn vs p m q a n c w (by omega) (by omega)
  · exact rrow_o k o nm vk vn vs p m q a n c w hk
theorem infix_c (o : Nat) (w : World) (h : (4 ≤ o ∧ o ≤ 11) ∨ (15 ≤ o ∧ o ≤ 19)) :
    Calls Tryz.prog 27 #[.int .i64 o] w fun e w' => e = .returned (.string (bs (opW o))) ∧ w' = w := by
  have ho : o = 4 ∨ o = 5 ∨ o = 6 ∨ o = 7 ∨ o = 8 ∨ o = 9 ∨ o = 10 ∨ o = 11 ∨ o = 15 ∨ o = 16 ∨ o = 17 ∨ o = 18 ∨ o = 19 := by omega
  clear h
  rcases ho with rfl | rfl | rfl | rfl | rfl | rfl | rfl | rfl | rfl | rfl | rfl | rfl | rfl
  all_goals
    go_enter Tryz.func27, Tryz.ntmps27
    go_wp2
    go_ret
    exact ⟨rfl, rfl⟩
end Go.Proofs.YtcdifmnakppfkaaGreatDoor
