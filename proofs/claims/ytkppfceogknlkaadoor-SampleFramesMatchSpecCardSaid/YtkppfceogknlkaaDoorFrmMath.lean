/-
  SampleFramesMatchSpec: what is known of lists that are sorted and compacted.
-/
import Derived.Lib.SlicesCompact
import Derived.Sort.KeysCollected
namespace Go.Proofs.YtkppfceogknlkaaDoor
open Go.Lib

section
variable {α : Type} [Inhabited α] [DecidableEq α] (le : α → α → Bool)

theorem compact_sub (zs : List α) : (compact zs).Sublist zs := by
  unfold compact compactUpTo
  have h : (((List.range zs.length).filter (keeps zs.toArray)).map (zs.toArray[·]!)).Sublist ((List.range zs.length).map (zs.toArray[·]!)) := (List.filter_sublist).map _
  have e := range_map_get zs.toArray
  rw [List.size_toArray] at e
  rw [e] at h
  simpa using h
theorem compact_nodup (anti : ∀ a b, le a b = true → le b a = true → a = b) {zs : List α} (hs : zs.Pairwise (fun a b => le a b = true)) (refl : ∀ a, le a a = true) : (compact zs).Nodup := by
  unfold compact compactUpTo
  have at_ : ∀ i j, i ≤ j → j < zs.length → le zs.toArray[i]! zs.toArray[j]! = true := fun i j h1 h2 => by
    rcases Nat.eq_or_lt_of_le h1 with e | e
    · subst e; exact refl _
    · have t := List.pairwise_iff_getElem.1 hs i j (by omega) h2 e
      rw [getElem!_pos zs.toArray i (by simp; omega), getElem!_pos zs.toArray j (by simp; omega)]
      simpa using t
  refine List.pairwise_map.2 (List.Pairwise.imp_of_mem (fun {i j} hi hj (hlt : i < j) e => ?_) (List.Pairwise.filter _ List.pairwise_lt_range))
  simp only [List.mem_filter, List.mem_range] at hi hj
  have k := hj.2
  unfold keeps at k
  have k' : zs.toArray[j]! ≠ zs.toArray[j - 1]! := by
    rcases of_decide_eq_true k with h | h
    · omega
    · exact h
  exact k' (anti _ _ (by rw [← e]; exact at_ i (j - 1) (by omega) (by omega)) (at_ (j - 1) j (by omega) hj.1))
theorem mem_compact {zs : List α} {x : α} : x ∈ compact zs ↔ x ∈ zs := by
  refine ⟨fun h => (compact_sub zs).subset h, fun h => ?_⟩
  obtain ⟨j, hj, rfl⟩ := List.mem_iff_getElem.1 h
  have key : ∀ j, (hj : j < zs.length) → zs.toArray[j]! ∈ compact zs := by
    intro j
    induction j with
    | zero =>
      intro hj
      unfold compact compactUpTo
      exact List.mem_map.2 ⟨0, List.mem_filter.2 ⟨List.mem_range.2 hj, by simp [keeps]⟩, rfl⟩
    | succ j ih =>
      intro hj
      by_cases e : zs.toArray[j + 1]! = zs.toArray[j]!
      · rw [e]; exact ih (by omega)
      · unfold compact compactUpTo
        exact List.mem_map.2 ⟨j + 1, List.mem_filter.2 ⟨List.mem_range.2 hj, by unfold keeps; exact decide_eq_true (.inr (by simpa using e))⟩, rfl⟩
  have t := key j hj
  rw [getElem!_pos zs.toArray j (by simpa using hj)] at t
  simpa using t
/-- A list that is sorted and compacted is any list with its members, each once, sorted. -/
theorem compact_sorted (tr : ∀ a b c, le a b = true → le b c = true → le a c = true) (to : ∀ a b, (le a b || le b a) = true) (anti : ∀ a b, le a b = true → le b a = true → a = b)
    {zs ks : List α} (hn : ks.Nodup) (hm : ∀ x, x ∈ ks ↔ x ∈ zs) : compact (zs.mergeSort le) = ks.mergeSort le := by
  have refl : ∀ a, le a a = true := fun a => by have := to a a; simpa using this
  have hs := List.pairwise_mergeSort tr to zs
  have h1 := compact_nodup le anti hs refl
  have h2 : ∀ x, x ∈ compact (zs.mergeSort le) ↔ x ∈ ks := fun x => by rw [mem_compact, List.mem_mergeSort, hm]
  have hp : (compact (zs.mergeSort le)).Perm ks := (List.perm_ext_iff_of_nodup h1 hn).2 h2
  refine List.Perm.eq_of_pairwise (le := fun a b => le a b = true) (fun a b _ _ => anti a b) (hs.sublist (compact_sub _)) (List.pairwise_mergeSort tr to ks) (hp.trans (List.mergeSort_perm ks le).symm)
end
theorem leB_tr (a b c : List UInt8) (h1 : decide (a ≤ b) = true) (h2 : decide (b ≤ c) = true) : decide (a ≤ c) = true := by
  simp only [decide_eq_true_eq] at *; exact List.le_trans h1 h2
theorem leB_to (a b : List UInt8) : (decide (a ≤ b) || decide (b ≤ a)) = true := by
  simp only [Bool.or_eq_true, decide_eq_true_eq]; exact List.le_total a b
theorem leB_anti (a b : List UInt8) (h1 : decide (a ≤ b) = true) (h2 : decide (b ≤ a) = true) : a = b := by
  simp only [decide_eq_true_eq] at *; exact List.le_antisymm h1 h2
theorem leI_tr (a b c : Int) (h1 : decide (a ≤ b) = true) (h2 : decide (b ≤ c) = true) : decide (a ≤ c) = true := by
  simp only [decide_eq_true_eq] at *; omega
theorem leI_to (a b : Int) : (decide (a ≤ b) || decide (b ≤ a)) = true := by
  simp only [Bool.or_eq_true, decide_eq_true_eq]; omega
theorem leI_anti (a b : Int) (h1 : decide (a ≤ b) = true) (h2 : decide (b ≤ a) = true) : a = b := by
  simp only [decide_eq_true_eq] at *; omega
end Go.Proofs.YtkppfceogknlkaaDoor
