/-
  SampleRatesMatchSpec: how often a number stands at the beginning of a list, and the fraction of the estimated rate.
-/
import Derived.Test.YtecbkfmdpgkdiaaGreatDoorRatBase
namespace Go.Proofs.YtecbkfmdpgkdiaaGreatDoor
open Go.RowKit

/-- How many of the first k values are j. -/
def cn (f : Nat → Int) (j : Int) : Nat → Nat
  | 0 => 0
  | k + 1 => cn f j k + (if f k = j then 1 else 0)
theorem cn_zero (f : Nat → Int) (j : Int) : cn f j 0 = 0 := rfl
theorem cn_hit {f : Nat → Int} {j : Int} {k : Nat} (h : f k = j) : cn f j (k + 1) = cn f j k + 1 := by
  show cn f j k + (if f k = j then 1 else 0) = cn f j k + 1
  rw [if_pos h]
theorem cn_miss {f : Nat → Int} {j : Int} {k : Nat} (h : f k ≠ j) : cn f j (k + 1) = cn f j k := by
  show cn f j k + (if f k = j then 1 else 0) = cn f j k
  rw [if_neg h]; omega
theorem one_hit (x : Int) : (if x = 1 then 1 else 0) + (if x = 2 then 1 else 0) + (if x = 3 then 1 else 0) + (if x = 4 then 1 else 0) + (if x = 5 then 1 else 0) + (if x = 6 then 1 else 0) + (if x = 7 then 1 else 0) ≤ 1 := by
  by_cases h1 : x = 1
  · subst h1; decide
  by_cases h2 : x = 2
  · subst h2; decide
  by_cases h3 : x = 3
  · subst h3; decide
  by_cases h4 : x = 4
  · subst h4; decide
  by_cases h5 : x = 5
  · subst h5; decide
  by_cases h6 : x = 6
  · subst h6; decide
  by_cases h7 : x = 7
  · subst h7; decide
  simp [h1, h2, h3, h4, h5, h6, h7]
/-- All counts together are at most the length. -/
theorem cn_sum (f : Nat → Int) : ∀ k, cn f 1 k + cn f 2 k + cn f 3 k + cn f 4 k + cn f 5 k + cn f 6 k + cn f 7 k ≤ k
  | 0 => by simp [cn]
  | k + 1 => by
    have h := cn_sum f k
    have g := one_hit (f k)
    simp only [cn]
    omega
theorem cn_le (f : Nat → Int) (j : Int) : ∀ k, cn f j k ≤ k
  | 0 => Nat.le_refl _
  | k + 1 => by
    have h := cn_le f j k
    show cn f j k + (if f k = j then 1 else 0) ≤ k + 1
    split <;> omega
/-- Eight counters in a block. -/
def Tl (g : Nat) (f : Nat → Int) (k : Nat) (W : World) : Prop := ∀ j, j < 8 → W.cell? ⟨g, j, none⟩ = some (.int .i64 (cn f (j : Nat) k : Nat)) ∧ W.frozen? ⟨g, j, none⟩ = false
theorem Tl.miss {g : Nat} {f : Nat → Int} {k : Nat} {W : World} (h : Tl g f k W) {m : Nat} (hm : m < 8) (e : f k = (m : Nat)) :
    Tl g f (k + 1) (W.setCell ⟨g, m, none⟩ (.int .i64 (cn f (m : Nat) k + 1 : Nat))) := by
  intro j hj
  refine ⟨?_, by rw [World.frozen?_setCell]; exact (h j hj).2⟩
  by_cases ej : j = m
  · subst ej
    rw [World.cell?_setCell_same _ _ _ (h j hj).1, cn_hit e]
  · rw [World.cell?_setCell_other _ _ _ _ (by intro h; exact ej (by injection h with _ h2; exact h2.symm)), cn_miss (by rw [e]; omega)]
    exact (h j hj).1
theorem Tl.keep {g : Nat} {f : Nat → Int} {k : Nat} {W W' : World} (h : Tl g f k W) (hb : Below W.heap.size W W') (hg : g < W.heap.size) : Tl g f k W' :=
  fun j hj => ⟨by rw [hb.cell (p := ⟨g, j, none⟩) hg]; exact (h j hj).1, by rw [hb.frozen (p := ⟨g, j, none⟩) hg]; exact (h j hj).2⟩
/-- Whether the first k values are outcomes. -/
def isOc (x : Int) : Prop := 1 ≤ x ∧ x ≤ 7
instance (x : Int) : Decidable (isOc x) := inferInstanceAs (Decidable (_ ∧ _))
end Go.Proofs.YtecbkfmdpgkdiaaGreatDoor
