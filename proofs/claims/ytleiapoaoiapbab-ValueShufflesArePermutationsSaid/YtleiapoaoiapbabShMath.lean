/-
  Every order that Shuffle makes has each number once: exchanges keep the range and that no two places have the same number.
-/
import Derived.Test.YtleiapoaoiapbabChLaw
namespace Go.Proofs.Ytleiapoaoiapbab.Ch
open Go

theorem sw_range {f : Nat → Int} {n i j : Nat} (hi : i < n) (hj : j < n) (h : ∀ p, p < n → 0 ≤ f p ∧ f p < n) : ∀ p, p < n → 0 ≤ sw f i j p ∧ sw f i j p < n := by
  intro p hp
  unfold sw
  split
  · exact h i hi
  · split
    · exact h j hj
    · exact h p hp
theorem sw_inj {f : Nat → Int} {n i j : Nat} (hi : i < n) (hj : j < n) (h : ∀ p q, p < n → q < n → f p = f q → p = q) : ∀ p q, p < n → q < n → sw f i j p = sw f i j q → p = q := by
  intro p q hp hq e
  unfold sw at e
  by_cases p1 : p = j
  · by_cases q1 : q = j
    · omega
    · rw [if_pos p1, if_neg q1] at e
      by_cases q2 : q = i
      · rw [if_pos q2] at e
        have := h i j hi hj e; omega
      · rw [if_neg q2] at e
        have := h i q hi hq e; omega
  · rw [if_neg p1] at e
    by_cases p2 : p = i
    · rw [if_pos p2] at e
      by_cases q1 : q = j
      · rw [if_pos q1] at e
        have := h j i hj hi e; omega
      · rw [if_neg q1] at e
        by_cases q2 : q = i
        · omega
        · rw [if_neg q2] at e
          have := h j q hj hq e; omega
    · rw [if_neg p2] at e
      by_cases q1 : q = j
      · rw [if_pos q1] at e
        have := h p i hp hi e; omega
      · rw [if_neg q1] at e
        by_cases q2 : q = i
        · rw [if_pos q2] at e
          have := h p j hp hj e; omega
        · rw [if_neg q2] at e
          exact h p q hp hq e
theorem pm_ok (s0 : Int) (n : Nat) (hn : 0 < n) (k : Nat) : (∀ p, p < n → 0 ≤ pm s0 n k p ∧ pm s0 n k p < n) ∧ ∀ p q, p < n → q < n → pm s0 n k p = pm s0 n k q → p = q := by
  induction k with
  | zero => exact ⟨fun p hp => by unfold pm; omega, fun p q _ _ h => by unfold pm at h; omega⟩
  | succ k ih =>
    have hi : n - 1 - k < n := by omega
    have hj : jx s0 n (n - 1 - k) < n := Nat.lt_of_le_of_lt (jx_lt _ _ _) hi
    exact ⟨sw_range hi hj ih.1, sw_inj hi hj ih.2⟩
end Go.Proofs.Ytleiapoaoiapbab.Ch
