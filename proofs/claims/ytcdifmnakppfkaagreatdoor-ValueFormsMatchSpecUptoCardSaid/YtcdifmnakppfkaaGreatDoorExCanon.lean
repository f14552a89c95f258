/-
  Lists of texts, put in order, each once: they depend on nothing but which texts there are.
-/
import Derived.Test.YtcdifmnakppfkaaGreatDoorDaysMath
import Derived.Lib.SlicesCompact
import Derived.Sort.EncStr
import Derived.RowKit
namespace Go.Proofs.YtcdifmnakppfkaaGreatDoor
open Go.RowKit

def canon (l : List (List UInt8)) : List (List UInt8) := Lib.compact (l.mergeSort fun x y => decide (x ≤ y))

theorem cu_mem {d : Array (List UInt8)} : ∀ m x, x ∈ Lib.compactUpTo d m ↔ ∃ j, j < m ∧ d[j]! = x := by
  intro m
  induction m with
  | zero => intro x; simp [Lib.compactUpTo]
  | succ m ih =>
    intro x
    rw [Lib.compactUpTo_succ, List.mem_append, ih]
    constructor
    · rintro (⟨j, hj, e⟩ | h)
      · exact ⟨j, by omega, e⟩
      · split at h
        · simp at h; exact ⟨m, by omega, h.symm⟩
        · simp at h
    · rintro ⟨j, hj, e⟩
      by_cases hjm : j < m
      · exact .inl ⟨j, hjm, e⟩
      · obtain rfl : j = m := by omega
        by_cases hk : Lib.keeps d j = true
        · right; rw [hk]; simp [e]
        · left
          simp only [Lib.keeps, decide_eq_true_eq, not_or, Decidable.not_not] at hk
          obtain ⟨h0, h1⟩ := hk
          exact ⟨j - 1, by omega, by rw [← h1]; exact e⟩
theorem lt_of_le_ne {x y : List UInt8} (h : x ≤ y) (hn : x ≠ y) : x < y := by
  rcases Classical.em (x < y) with h1 | h1
  · exact h1
  · exact absurd (List.le_antisymm h (List.not_lt.1 h1)) hn
theorem cu_pair {d : Array (List UInt8)} (hs : ∀ i j, i < j → j < d.size → d[i]! ≤ d[j]!) : ∀ m, m ≤ d.size → (Lib.compactUpTo d m).Pairwise (· < ·) := by
  intro m
  induction m with
  | zero => intro _; simp [Lib.compactUpTo]
  | succ m ih =>
    intro hm
    rw [Lib.compactUpTo_succ, List.pairwise_append]
    refine ⟨ih (by omega), by split <;> simp, ?_⟩
    intro a ha b hb
    split at hb
    · rename_i hk
      simp only [List.mem_singleton] at hb
      subst hb
      obtain ⟨j, hj, rfl⟩ := (cu_mem m a).1 ha
      simp only [Lib.keeps, decide_eq_true_eq] at hk
      rcases hk with hk | hk
      · omega
      · have h1 : d[m - 1]! ≤ d[m]! := hs (m - 1) m (by omega) (by omega)
        have h2 : d[m - 1]! < d[m]! := lt_of_le_ne h1 (fun e => hk e.symm)
        by_cases e : j = m - 1
        · subst e; exact h2
        · exact lt_of_le_ne (List.le_trans (hs j (m - 1) (by omega) (by omega)) h1) (fun e' => by
            have h3 := hs j (m - 1) (by omega) (by omega)
            rw [e'] at h3
            exact absurd h2 (List.not_lt.2 h3))
    · simp at hb
theorem canon_mem (l : List (List UInt8)) (x : List UInt8) : x ∈ canon l ↔ x ∈ l := by
  unfold canon Lib.compact
  rw [cu_mem]
  constructor
  · rintro ⟨j, hj, e⟩
    rw [getElem!_pos _ _ (by simpa using hj)] at e
    have : x ∈ l.mergeSort fun x y => decide (x ≤ y) := by rw [← e]; simp
    simpa using this
  · intro h
    have : x ∈ l.mergeSort fun x y => decide (x ≤ y) := by simpa using h
    obtain ⟨j, hj, e⟩ := List.getElem_of_mem this
    exact ⟨j, hj, by rw [getElem!_pos _ _ (by simpa using hj)]; simpa using e⟩
theorem canon_pair (l : List (List UInt8)) : (canon l).Pairwise (· < ·) := by
  have hp := List.pairwise_mergeSort (le := fun x y : List UInt8 => decide (x ≤ y)) (fun a b c h1 h2 => by
    simp only [decide_eq_true_eq] at *; exact List.le_trans h1 h2) (fun a b => by
    simp only [Bool.or_eq_true, decide_eq_true_eq]; exact List.le_total a b) l
  refine cu_pair (fun i j hij hj => ?_) _ (by simp)
  have hj' : j < (l.mergeSort fun x y => decide (x ≤ y)).length := by simpa using hj
  have hi' : i < (l.mergeSort fun x y => decide (x ≤ y)).length := by omega
  rw [getElem!_pos _ j (by simpa using hj), getElem!_pos _ i (by simpa using hi')]
  have := List.pairwise_iff_getElem.1 hp i j (by omega) hj' hij
  simpa using this
theorem pair_ext : ∀ {a b : List (List UInt8)}, a.Pairwise (· < ·) → b.Pairwise (· < ·) → (∀ x, x ∈ a ↔ x ∈ b) → a = b := by
  intro a
  induction a with
  | nil =>
    intro b _ _ h
    cases b with
    | nil => rfl
    | cons y r => exact absurd ((h y).2 (by simp)) (by simp)
  | cons x r ih =>
    intro b ha hb h
    cases b with
    | nil => exact absurd ((h x).1 (by simp)) (by simp)
    | cons y s =>
      rw [List.pairwise_cons] at ha hb
      have hxy : x = y := by
        rcases List.mem_cons.1 ((h x).1 (by simp)) with e | e
        · exact e
        · rcases List.mem_cons.1 ((h y).2 (by simp)) with e' | e'
          · exact e'.symm
          · exact absurd (ha.1 y e') (fun h3 => absurd (hb.1 x e) (fun h4 => List.lt_irrefl x (List.lt_trans h3 h4)))
      subst hxy
      rw [ih ha.2 hb.2 (fun z => ⟨fun hz => by
        rcases List.mem_cons.1 ((h z).1 (by simp [hz])) with e | e
        · subst e; exact absurd (ha.1 z hz) (List.lt_irrefl z)
        · exact e, fun hz => by
        rcases List.mem_cons.1 ((h z).2 (by simp [hz])) with e | e
        · subst e; exact absurd (hb.1 z hz) (List.lt_irrefl z)
        · exact e⟩)]
theorem canon_ext {a b : List (List UInt8)} (h : ∀ x, x ∈ a ↔ x ∈ b) : canon a = canon b :=
  pair_ext (canon_pair a) (canon_pair b) fun x => by rw [canon_mem, canon_mem]; exact h x
theorem canon_len (l : List (List UInt8)) : (canon l).length ≤ l.length := by
  have h : (canon l).Nodup := (canon_pair l).imp fun {a b} h e => by subst e; exact List.lt_irrefl a h
  unfold canon Lib.compact Lib.compactUpTo
  rw [List.length_map]
  refine Nat.le_trans (List.length_filter_le _ _) ?_
  simp
end Go.Proofs.YtcdifmnakppfkaaGreatDoor
