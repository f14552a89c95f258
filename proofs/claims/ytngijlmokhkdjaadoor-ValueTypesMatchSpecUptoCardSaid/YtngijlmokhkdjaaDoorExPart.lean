/-
  One part of an expression, as package value looks at it: bytes of names, known kinds, zero values.
-/
import Derived.Test.YtngijlmokhkdjaaDoorExMath
namespace Go.Proofs.YtngijlmokhkdjaaDoor
open Go.RowKit

def letB (n : Int) : Bool := decide (97 ≤ n ∧ n ≤ 122)
def digB (n : Int) : Bool := decide (48 ≤ n ∧ n ≤ 57)
def wordB (n : Int) : Bool := letB n || digB n || decide (n = 95)
theorem isLetter_c (n : Int) (w : World) : Calls Tryd.prog 66 #[.int .u8 n] w fun e w' => e = .returned (.bool (letB n)) ∧ w' = w := by
  by_cases h1 : 97 ≤ n
  · by_cases h2 : n ≤ 122
    · have e : Hid (letB n = true) := by unfold Hid letB; simp; omega
      go_enter Tryd.func66, Tryd.ntmps66
      go_wp2
      go_ret
      exact ⟨by rw [e.out]; rfl, rfl⟩
    · have e : Hid (letB n = false) := by unfold Hid letB; simp; omega
      have h2' : decide (n ≤ 122) = false := by simp; omega
      clear h2
      go_enter Tryd.func66, Tryd.ntmps66
      go_wp2
      go_ret
      exact ⟨by rw [e.out]; rfl, rfl⟩
  · have e : Hid (letB n = false) := by unfold Hid letB; simp; omega
    have h1' : decide (97 ≤ n) = false := by simp; omega
    clear h1
    go_enter Tryd.func66, Tryd.ntmps66
    go_wp2
    go_ret
    exact ⟨by rw [e.out]; rfl, rfl⟩
theorem isDigit_c (n : Int) (w : World) : Calls Tryd.prog 85 #[.int .u8 n] w fun e w' => e = .returned (.bool (digB n)) ∧ w' = w := by
  by_cases h1 : 48 ≤ n
  · by_cases h2 : n ≤ 57
    · have e : Hid (digB n = true) := by unfold Hid digB; simp; omega
      go_enter Tryd.func85, Tryd.ntmps85
      go_wp2
      go_ret
      exact ⟨by rw [e.out]; rfl, rfl⟩
    · have e : Hid (digB n = false) := by unfold Hid digB; simp; omega
      have h2' : decide (n ≤ 57) = false := by simp; omega
      clear h2
      go_enter Tryd.func85, Tryd.ntmps85
      go_wp2
      go_ret
      exact ⟨by rw [e.out]; rfl, rfl⟩
  · have e : Hid (digB n = false) := by unfold Hid digB; simp; omega
    have h1' : decide (48 ≤ n) = false := by simp; omega
    clear h1
    go_enter Tryd.func85, Tryd.ntmps85
    go_wp2
    go_ret
    exact ⟨by rw [e.out]; rfl, rfl⟩
theorem isWordByte_c (n : Int) (w : World) : Calls Tryd.prog 67 #[.int .u8 n] w fun e w' => e = .returned (.bool (wordB n)) ∧ w' = w := by
  have hL := Lib.hid (fun w => isLetter_c n w)
  have hD := Lib.hid (fun w => isDigit_c n w)
  have e : Hid (wordB n = (letB n || digB n || decide (n = 95))) := rfl
  generalize letB n = a at hL e
  generalize digB n = b at hD e
  cases a
  · cases b
    · by_cases h : n = 95
      · have h' : (n == 95) = true := by simpa using h
        have e2 : Hid (wordB n = true) := by unfold Hid; rw [e.out]; simp [h]
        clear h e
        go_enter Tryd.func67, Tryd.ntmps67
        go_wp2_with fail
        refine (hL.out _).mono ?_
        rintro e w1 ⟨rfl, rfl⟩
        go_wp2_with fail
        refine (hD.out _).mono ?_
        rintro e w1 ⟨rfl, rfl⟩
        go_wp2
        go_ret
        exact ⟨by rw [e2.out]; rfl, rfl⟩
      · have h' : (n == 95) = false := by simpa using h
        have e2 : Hid (wordB n = false) := by unfold Hid; rw [e.out]; simp [h]
        clear h e
        go_enter Tryd.func67, Tryd.ntmps67
        go_wp2_with fail
        refine (hL.out _).mono ?_
        rintro e w1 ⟨rfl, rfl⟩
        go_wp2_with fail
        refine (hD.out _).mono ?_
        rintro e w1 ⟨rfl, rfl⟩
        go_wp2
        go_ret
        exact ⟨by rw [e2.out]; rfl, rfl⟩
    · have e2 : Hid (wordB n = true) := by unfold Hid; rw [e.out]; simp
      clear e
      go_enter Tryd.func67, Tryd.ntmps67
      go_wp2_with fail
      refine (hL.out _).mono ?_
      rintro e w1 ⟨rfl, rfl⟩
      go_wp2_with fail
      refine (hD.out _).mono ?_
      rintro e w1 ⟨rfl, rfl⟩
      go_wp2
      go_ret
      exact ⟨by rw [e2.out]; rfl, rfl⟩
  · have e2 : Hid (wordB n = true) := by unfold Hid; rw [e.out]; simp
    clear e
    go_enter Tryd.func67, Tryd.ntmps67
    go_wp2_with fail
    refine (hL.out _).mono ?_
    rintro e w1 ⟨rfl, rfl⟩
    go_wp2
    go_ret
    exact ⟨by rw [e2.out]; rfl, rfl⟩
end Go.Proofs.YtngijlmokhkdjaaDoor
