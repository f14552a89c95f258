/-
  One part of an expression, as package value looks at it: known kinds, zero values, numbers of arguments.
  One part of an expression, as package value looks at it: numbers of arguments, and its form.
-/
import Derived.Test.YtngijlmokhkdjaaDoorExName
namespace Go.Proofs.YtngijlmokhkdjaaDoor
open Go.RowKit

def knownS (k o : Int) : Bool := decide (k = 1 ∨ k = 2 ∨ k = 3 ∨ (k = 4 ∧ 1 ≤ o ∧ o ≤ 39) ∨ (k = 5 ∧ 1 ≤ o ∧ o ≤ 6))
set_option maxHeartbeats 1000000 in
theorem isKnown_c (k o : Int) (nm : ByteArray) (vk vn : Int) (vs : ByteArray) (p : Option Addr) (m q : Nat) (a : Option Addr) (n c : Nat) (w : World) :
    Calls Tryd.prog 63 #[.agg #[.int .i64 k, .int .i64 o, .string nm, .int .i64 vk, .int .i64 vn, .string vs, .slice p m q, .slice a n c]] w fun e w' => e = .returned (.bool (knownS k o)) ∧ Below w.heap.size w w' := by
  by_cases h1 : k = 1
  · subst h1
    have e : Hid (knownS 1 o = true) := by unfold Hid knownS; simp
    go_enter Tryd.func63, Tryd.ntmps63
    go_wp2
    go_ret
    exact ⟨by rw [e.out]; rfl, (Below.refl _ _).alloc (Nat.le_refl _) _⟩
  by_cases h2 : k = 2
  · subst h2
    clear h1
    have e : Hid (knownS 2 o = true) := by unfold Hid knownS; simp
    go_enter Tryd.func63, Tryd.ntmps63
    go_wp2
    go_ret
    exact ⟨by rw [e.out]; rfl, (Below.refl _ _).alloc (Nat.le_refl _) _⟩
  by_cases h3 : k = 3
  · subst h3
    clear h1 h2
    have e : Hid (knownS 3 o = true) := by unfold Hid knownS; simp
    go_enter Tryd.func63, Tryd.ntmps63
    go_wp2
    go_ret
    exact ⟨by rw [e.out]; rfl, (Below.refl _ _).alloc (Nat.le_refl _) _⟩
  by_cases h4 : k = 4
  · subst h4
    clear h1 h2 h3
    by_cases g1 : 1 ≤ o
    · by_cases g2 : o ≤ 39
      · have e : Hid (knownS 4 o = true) := by unfold Hid knownS; simp; omega
        go_enter Tryd.func63, Tryd.ntmps63
        go_wp2
        go_ret
        exact ⟨by rw [e.out]; rfl, (Below.refl _ _).alloc (Nat.le_refl _) _⟩
      · have e : Hid (knownS 4 o = false) := by unfold Hid knownS; simp; omega
        have g2' : decide (o ≤ 39) = false := by simp; omega
        clear g2
        go_enter Tryd.func63, Tryd.ntmps63
        go_wp2
        go_ret
        exact ⟨by rw [e.out]; rfl, (Below.refl _ _).alloc (Nat.le_refl _) _⟩
    · have e : Hid (knownS 4 o = false) := by unfold Hid knownS; simp; omega
      have g1' : decide (1 ≤ o) = false := by simp; omega
      clear g1
      go_enter Tryd.func63, Tryd.ntmps63
      go_wp2
      go_ret
      exact ⟨by rw [e.out]; rfl, (Below.refl _ _).alloc (Nat.le_refl _) _⟩
  by_cases h5 : k = 5
  · subst h5
    clear h1 h2 h3 h4
    by_cases g1 : 1 ≤ o
    · by_cases g2 : o ≤ 6
      · have e : Hid (knownS 5 o = true) := by unfold Hid knownS; simp; omega
        go_enter Tryd.func63, Tryd.ntmps63
        go_wp2
        go_ret
        exact ⟨by rw [e.out]; rfl, (Below.refl _ _).alloc (Nat.le_refl _) _⟩
      · have e : Hid (knownS 5 o = false) := by unfold Hid knownS; simp; omega
        have g2' : decide (o ≤ 6) = false := by simp; omega
        clear g2
        go_enter Tryd.func63, Tryd.ntmps63
        go_wp2
        go_ret
        exact ⟨by rw [e.out]; rfl, (Below.refl _ _).alloc (Nat.le_refl _) _⟩
    · have e : Hid (knownS 5 o = false) := by unfold Hid knownS; simp; omega
      have g1' : decide (1 ≤ o) = false := by simp; omega
      clear g1
      go_enter Tryd.func63, Tryd.ntmps63
      go_wp2
      go_ret
      exact ⟨by rw [e.out]; rfl, (Below.refl _ _).alloc (Nat.le_refl _) _⟩
  have e : Hid (knownS k o = false) := by unfold Hid knownS; simp; omega
  have n1 : (k == 1) = false := by rw [beq_eq_false_iff_ne]; exact h1
  have n2 : (k == 2) = false := by rw [beq_eq_false_iff_ne]; exact h2
  have n3 : (k == 3) = false := by rw [beq_eq_false_iff_ne]; exact h3
  have n4 : (k == 4) = false := by rw [beq_eq_false_iff_ne]; exact h4
  have n5 : (k == 5) = false := by rw [beq_eq_false_iff_ne]; exact h5
  clear h1 h2 h3 h4 h5
  go_enter Tryd.func63, Tryd.ntmps63
  go_wp2
  go_ret
  exact ⟨by rw [e.out]; rfl, (Below.refl _ _).alloc (Nat.le_refl _) _⟩

def zeroS (vk vn : Int) (vs : ByteArray) (m : Nat) : Bool := decide (vk = 0 ∧ vn = 0 ∧ vs.data.toList = [] ∧ m = 0)
set_option maxHeartbeats 1000000 in
theorem isZero_c (vk vn : Int) (vs : ByteArray) (p : Option Addr) (m q : Nat) (w : World) :
    Calls Tryd.prog 84 #[.agg #[.int .i64 vk, .int .i64 vn, .string vs, .slice p m q]] w fun e w' => e = .returned (.bool (zeroS vk vn vs m)) ∧ Below w.heap.size w w' := by
  by_cases h1 : vk = 0
  · subst h1
    by_cases h2 : vn = 0
    · subst h2
      by_cases h3 : vs.data.toList = []
      · have b3 : (vs.toList == []) = true := by rw [Lib.toList_data, h3]; rfl
        by_cases h4 : m = 0
        · subst h4
          have e : Hid (zeroS 0 0 vs 0 = true) := by unfold Hid zeroS; simp [h3]
          clear h3
          go_enter Tryd.func84, Tryd.ntmps84
          go_wp2
          go_ret
          exact ⟨by rw [e.out]; rfl, (Below.refl _ _).alloc (Nat.le_refl _) _⟩
        · have e : Hid (zeroS 0 0 vs m = false) := by unfold Hid zeroS; simp [h4]
          have b4 : ((m : Int) == 0) = false := by rw [beq_eq_false_iff_ne]; omega
          clear h3 h4
          go_enter Tryd.func84, Tryd.ntmps84
          go_wp2
          go_ret
          exact ⟨by rw [e.out]; rfl, (Below.refl _ _).alloc (Nat.le_refl _) _⟩
      · have b3 : (vs.toList == []) = false := beq_no h3
        have e : Hid (zeroS 0 0 vs m = false) := by unfold Hid zeroS; simp only [h3]; simp
        clear h3
        go_enter Tryd.func84, Tryd.ntmps84
        go_wp2
        go_ret
        exact ⟨by rw [e.out]; rfl, (Below.refl _ _).alloc (Nat.le_refl _) _⟩
    · have e : Hid (zeroS 0 vn vs m = false) := by unfold Hid zeroS; simp [h2]
      have b2 : (vn == 0) = false := by rw [beq_eq_false_iff_ne]; exact h2
      clear h2
      go_enter Tryd.func84, Tryd.ntmps84
      go_wp2
      go_ret
      exact ⟨by rw [e.out]; rfl, (Below.refl _ _).alloc (Nat.le_refl _) _⟩
  · have e : Hid (zeroS vk vn vs m = false) := by unfold Hid zeroS; simp [h1]
    have b1 : (vk == 0) = false := by rw [beq_eq_false_iff_ne]; exact h1
    clear h1
    go_enter Tryd.func84, Tryd.ntmps84
    go_wp2
    go_ret
    exact ⟨by rw [e.out]; rfl, (Below.refl _ _).alloc (Nat.le_refl _) _⟩

def aboutS (o : Int) : Bool := decide (o = 12 ∨ o = 13 ∨ o = 14)
theorem isAboutAnswer_c (o : Int) (w : World) : Calls Tryd.prog 65 #[.int .i64 o] w fun e w' => e = .returned (.bool (aboutS o)) ∧ w' = w := by
  by_cases h1 : o = 12
  · subst h1
    have e : Hid (aboutS 12 = true) := rfl
    go_enter Tryd.func65, Tryd.ntmps65
    go_wp2
    go_ret
    exact ⟨by rw [e.out]; rfl, rfl⟩
  by_cases h2 : o = 13
  · subst h2
    clear h1
    have e : Hid (aboutS 13 = true) := rfl
    go_enter Tryd.func65, Tryd.ntmps65
    go_wp2
    go_ret
    exact ⟨by rw [e.out]; rfl, rfl⟩
  by_cases h3 : o = 14
  · subst h3
    clear h1 h2
    have e : Hid (aboutS 14 = true) := rfl
    go_enter Tryd.func65, Tryd.ntmps65
    go_wp2
    go_ret
    exact ⟨by rw [e.out]; rfl, rfl⟩
  have e : Hid (aboutS o = false) := by unfold Hid aboutS; simp; omega
  have n1 : (o == 12) = false := by rw [beq_eq_false_iff_ne]; exact h1
  have n2 : (o == 13) = false := by rw [beq_eq_false_iff_ne]; exact h2
  have n3 : (o == 14) = false := by rw [beq_eq_false_iff_ne]; exact h3
  clear h1 h2 h3
  go_enter Tryd.func65, Tryd.ntmps65
  go_wp2
  go_ret
  exact ⟨by rw [e.out]; rfl, rfl⟩
end Go.Proofs.YtngijlmokhkdjaaDoor

namespace Go.Proofs.YtngijlmokhkdjaaDoor
open Go.RowKit

def leastS (o : Int) : Int := if o = 26 then 3 else if o = 1 ∨ o = 12 ∨ o = 13 ∨ o = 14 ∨ o = 20 ∨ o = 21 ∨ o = 22 ∨ o = 23 ∨ o = 28 ∨ o = 29 ∨ o = 30 ∨ o = 34 ∨ o = 35 ∨ o = 36 then 1 else 2
def mostS (o : Int) : Int := if o = 2 ∨ o = 3 ∨ o = 24 ∨ o = 25 then 9223372036854775807 else leastS o
set_option maxHeartbeats 4000000 in
theorem argsOf_c (o : Int) (w : World) : Calls Tryd.prog 83 #[.int .i64 o] w fun e w' => e = .returned (.tuple #[.int .i64 (leastS o), .int .i64 (mostS o)]) ∧ w' = w := by
  by_cases hx : o = 2 ∨ o = 3 ∨ o = 24 ∨ o = 25 ∨ o = 26 ∨ o = 1 ∨ o = 12 ∨ o = 13 ∨ o = 14 ∨ o = 20 ∨ o = 21 ∨ o = 22 ∨ o = 23 ∨ o = 28 ∨ o = 29 ∨ o = 30 ∨ o = 34 ∨ o = 35 ∨ o = 36
  · rcases hx with rfl | rfl | rfl | rfl | rfl | rfl | rfl | rfl | rfl | rfl | rfl | rfl | rfl | rfl | rfl | rfl | rfl | rfl | rfl
    all_goals
      go_enter Tryd.func83, Tryd.ntmps83
      go_wp2
      go_ret2
      exact ⟨rfl, rfl⟩
  · have e1 : Hid (leastS o = 2) := by unfold Hid leastS; rw [if_neg (by omega), if_neg (by omega)]
    have e2 : Hid (mostS o = 2) := by unfold Hid mostS; rw [if_neg (by omega)]; exact e1.out
    have n2 : (o == 2) = false := by rw [beq_eq_false_iff_ne]; omega
    have n3 : (o == 3) = false := by rw [beq_eq_false_iff_ne]; omega
    have n24 : (o == 24) = false := by rw [beq_eq_false_iff_ne]; omega
    have n25 : (o == 25) = false := by rw [beq_eq_false_iff_ne]; omega
    have n26 : (o == 26) = false := by rw [beq_eq_false_iff_ne]; omega
    have n1 : (o == 1) = false := by rw [beq_eq_false_iff_ne]; omega
    have n12 : (o == 12) = false := by rw [beq_eq_false_iff_ne]; omega
    have n13 : (o == 13) = false := by rw [beq_eq_false_iff_ne]; omega
    have n14 : (o == 14) = false := by rw [beq_eq_false_iff_ne]; omega
    have n20 : (o == 20) = false := by rw [beq_eq_false_iff_ne]; omega
    have n21 : (o == 21) = false := by rw [beq_eq_false_iff_ne]; omega
    have n22 : (o == 22) = false := by rw [beq_eq_false_iff_ne]; omega
    have n23 : (o == 23) = false := by rw [beq_eq_false_iff_ne]; omega
    have n28 : (o == 28) = false := by rw [beq_eq_false_iff_ne]; omega
    have n29 : (o == 29) = false := by rw [beq_eq_false_iff_ne]; omega
    have n30 : (o == 30) = false := by rw [beq_eq_false_iff_ne]; omega
    have n34 : (o == 34) = false := by rw [beq_eq_false_iff_ne]; omega
    have n35 : (o == 35) = false := by rw [beq_eq_false_iff_ne]; omega
    have n36 : (o == 36) = false := by rw [beq_eq_false_iff_ne]; omega
    clear hx
    go_enter Tryd.func83, Tryd.ntmps83
    go_wp2
    go_ret2
    exact ⟨by rw [e1.out, e2.out]; rfl, rfl⟩
end Go.Proofs.YtngijlmokhkdjaaDoor
