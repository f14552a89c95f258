/-
  sightOf of package value: all cells, all loops, and the places of all cells.
-/
import Derived.Test.YtngijlmokhkdjaaDoorTyAdd
namespace Go.Proofs.YtngijlmokhkdjaaDoor
open Go.RowKit

/-- What cells say from an index on: as a step and the rest. -/
theorem cellsS_step (seen : List Cl) (c : Cl) (r : List Cl) : cellsS seen (c :: r) = if stepC seen c ≠ 0 then stepC seen c else cellsS (seen ++ [c]) r := by
  by_cases h1 : nameS c.nm = false
  · have e1 : stepC seen c = 5 := by unfold stepC; rw [if_pos h1]
    have e2 : cellsS seen (c :: r) = 5 := by simp only [cellsS]; rw [if_pos h1]
    rw [e1, e2]; rfl
  by_cases h2 : (findC seen c.nm).isSome = true
  · have e1 : stepC seen c = 6 := by unfold stepC; rw [if_neg h1, if_pos h2]
    have e2 : cellsS seen (c :: r) = 6 := by simp only [cellsS]; rw [if_neg h1, if_pos h2]
    rw [e1, e2]; rfl
  by_cases h3 : c.kind < 2 ∨ 7 < c.kind
  · have e1 : stepC seen c = 4 := by unfold stepC; rw [if_neg h1, if_neg h2, if_pos h3]
    have e2 : cellsS seen (c :: r) = 4 := by simp only [cellsS]; rw [if_neg h1, if_neg h2, if_pos h3]
    rw [e1, e2]; rfl
  · have e1 : stepC seen c = 0 := by unfold stepC; rw [if_neg h1, if_neg h2, if_neg h3]
    have e2 : cellsS seen (c :: r) = cellsS (seen ++ [c]) r := by simp only [cellsS]; rw [if_neg h1, if_neg h2, if_neg h3]
    rw [e1, e2]; rfl
theorem loopsS_step (seen : List Ne) (c : Ne) (r : List Ne) : loopsS seen (c :: r) = if stepL seen c ≠ 0 then stepL seen c else loopsS (seen ++ [c]) r := by
  by_cases h1 : nameS c.nm = false
  · have e1 : stepL seen c = 5 := by unfold stepL; rw [if_pos h1]
    have e2 : loopsS seen (c :: r) = 5 := by simp only [loopsS]; rw [if_pos h1]
    rw [e1, e2]; rfl
  by_cases h2 : (findL seen c.nm).isSome = true
  · have e1 : stepL seen c = 6 := by unfold stepL; rw [if_neg h1, if_pos h2]
    have e2 : loopsS seen (c :: r) = 6 := by simp only [loopsS]; rw [if_neg h1, if_pos h2]
    rw [e1, e2]; rfl
  by_cases h3 : placeS seen c.lp = false
  · have e1 : stepL seen c = 7 := by unfold stepL; rw [if_neg h1, if_neg h2, if_pos h3]
    have e2 : loopsS seen (c :: r) = 7 := by simp only [loopsS]; rw [if_neg h1, if_neg h2, if_pos h3]
    rw [e1, e2]; rfl
  · have e1 : stepL seen c = 0 := by unfold stepL; rw [if_neg h1, if_neg h2, if_neg h3]
    have e2 : loopsS seen (c :: r) = loopsS (seen ++ [c]) r := by simp only [loopsS]; rw [if_neg h1, if_neg h2, if_neg h3]
    rw [e1, e2]; rfl
theorem stepL_none {seen : List Ne} {c : Ne} (h : stepL seen c = 0) : findL seen c.nm = none := by
  unfold stepL at h
  by_cases h1 : nameS c.nm = false
  · simp [h1] at h
  · rw [if_neg h1] at h
    by_cases h2 : (findL seen c.nm).isSome = true
    · simp [h2] at h
    · simpa using h2
/-- A loop of a new name behind loops that are there once. -/
theorem OnceL.more {L : List Ne} {c : Ne} (h : OnceL L) (hn : findL L c.nm = none) : OnceL (L ++ [c]) := by
  have hno := findL_none.1 hn
  intro i j x y hi hj hxy
  have hi' := hi; have hj' := hj
  rw [List.getElem?_append] at hi hj
  split at hi <;> split at hj
  · exact h i j x y hi hj hxy
  · rename_i h1 h2
    have hy : y = c := by
      cases e : j - L.length with
      | zero => rw [e] at hj; simpa using hj.symm
      | succ k => rw [e] at hj; simp at hj
    subst hy
    exact absurd hxy (hno x (List.mem_of_getElem? hi))
  · rename_i h1 h2
    have hx : x = c := by
      cases e : i - L.length with
      | zero => rw [e] at hi; simpa using hi.symm
      | succ k => rw [e] at hi; simp at hi
    subst hx
    exact absurd hxy.symm (hno y (List.mem_of_getElem? hj))
  · rename_i h1 h2
    have e1 : i - L.length = 0 := by
      cases e : i - L.length with
      | zero => rfl
      | succ k => rw [e] at hi; simp at hi
    have e2 : j - L.length = 0 := by
      cases e : j - L.length with
      | zero => rfl
      | succ k => rw [e] at hj; simp at hj
    omega
theorem OnceL.nil : OnceL [] := fun i j x y h => by simp at h
/-- Cells, loops and places from an index on. -/
theorem cellsS_drop {seen C : List Cl} {k : Nat} {c : Cl} (h : C[k]? = some c) (hs : seen = C.take k) : cellsS seen (C.drop k) = if stepC seen c ≠ 0 then stepC seen c else cellsS (C.take (k + 1)) (C.drop (k + 1)) := by
  obtain ⟨hk, he⟩ := List.getElem?_eq_some_iff.1 h
  rw [List.drop_eq_getElem_cons hk, he, cellsS_step, hs, List.take_add_one, h]; rfl
theorem loopsS_drop {seen C : List Ne} {k : Nat} {c : Ne} (h : C[k]? = some c) (hs : seen = C.take k) : loopsS seen (C.drop k) = if stepL seen c ≠ 0 then stepL seen c else loopsS (C.take (k + 1)) (C.drop (k + 1)) := by
  obtain ⟨hk, he⟩ := List.getElem?_eq_some_iff.1 h
  rw [List.drop_eq_getElem_cons hk, he, loopsS_step, hs, List.take_add_one, h]; rfl
theorem atS_drop {L : List Ne} {C : List Cl} {k : Nat} {c : Cl} (h : C[k]? = some c) : atS L (C.drop k) = if placeS L c.lp = false then 9 else atS L (C.drop (k + 1)) := by
  obtain ⟨hk, he⟩ := List.getElem?_eq_some_iff.1 h
  rw [List.drop_eq_getElem_cons hk, he]; rfl
end Go.Proofs.YtngijlmokhkdjaaDoor
