/-
  Slices of ints that read as lists; what an outcome is, in the program and in the reference.
-/
import Derived.Test.YtecbkfmdpgkdiaaGreatDoorRtsMath
namespace Go.Proofs.YtecbkfmdpgkdiaaGreatDoor
open Go.RowKit

/-- The places of a list. -/
def fn (l : List Int) : Nat → Int := fun j => l.getD j 0
/-- A slice that reads as a list of ints. -/
def Rd (w : World) (a : Option Addr) (l : List Int) : Prop :=
  l.length ≤ 9223372036854775807 ∧ (0 < l.length → ∃ b off, a = some ⟨b, off, none⟩ ∧ b < w.heap.size ∧ ∀ j, j < l.length → w.cell? ⟨b, off + j, none⟩ = some (.int .i64 (fn l j)))
theorem Rd.below {w w' : World} {a : Option Addr} {l : List Int} (h : Rd w a l) (hb : Below w.heap.size w w') : Rd w' a l :=
  ⟨h.1, fun h0 => by
    obtain ⟨b, off, e, hl, hc⟩ := h.2 h0
    exact ⟨b, off, e, Nat.lt_of_lt_of_le hl hb.size, fun j hj => by rw [hb.cell (p := ⟨b, off + j, none⟩) hl]; exact hc j hj⟩⟩
theorem Rd.at_ {w : World} {a : Option Addr} {l : List Int} (h : Rd w a l) {k : Nat} (hk : k < l.length) :
    ∃ b off, a = some ⟨b, off, none⟩ ∧ w.cell? ⟨b, off + k, none⟩ = some (.int .i64 (fn l k)) := by
  obtain ⟨b, off, e, _, hc⟩ := h.2 (by omega)
  exact ⟨b, off, e, hc k hk⟩
theorem Rd.none_ (w : World) : Rd w none [] := ⟨by simp, fun h => by simp at h⟩
theorem isOutcome_c (x : Int) (w : World) : Calls Tryz.prog 22 #[.int .i64 x] w fun e w' => e = .returned (.bool (decide (isOc x))) ∧ w = w' := by
  by_cases h1 : 1 ≤ x
  · by_cases h2 : x ≤ 7
    · have e : decide (isOc x) = true := decide_eq_true (show 1 ≤ x ∧ x ≤ 7 from ⟨h1, h2⟩)
      rw [e]
      clear e
      go_enter Tryz.func22, Tryz.ntmps22
      go_wp2
      go_ret
      exact ⟨rfl, rfl⟩
    · have e : decide (isOc x) = false := decide_eq_false (fun (h : 1 ≤ x ∧ x ≤ 7) => h2 h.2)
      rw [e]
      clear e
      go_enter Tryz.func22, Tryz.ntmps22
      go_wp2
      go_ret
      exact ⟨rfl, rfl⟩
  · have e : decide (isOc x) = false := decide_eq_false (fun (h : 1 ≤ x ∧ x ≤ 7) => h1 h.1)
    rw [e]
    clear e
    go_enter Tryz.func22, Tryz.ntmps22
    go_wp2
    go_ret
    exact ⟨rfl, rfl⟩
theorem withinOc_c (x : Int) (w : World) : Calls Tryz.prog 15 #[.int .i64 x, .int .i64 1, .int .i64 7] w fun e w' => e = .returned (.bool (decide (isOc x))) ∧ w = w' := by
  by_cases h1 : 1 ≤ x
  · by_cases h2 : x ≤ 7
    · have e : decide (isOc x) = true := decide_eq_true (show 1 ≤ x ∧ x ≤ 7 from ⟨h1, h2⟩)
      rw [e]
      clear e
      go_enter Tryz.func15, Tryz.ntmps15
      go_wp2
      go_ret
      exact ⟨rfl, rfl⟩
    · have e : decide (isOc x) = false := decide_eq_false (fun (h : 1 ≤ x ∧ x ≤ 7) => h2 h.2)
      rw [e]
      clear e
      go_enter Tryz.func15, Tryz.ntmps15
      go_wp2
      go_ret
      exact ⟨rfl, rfl⟩
  · have e : decide (isOc x) = false := decide_eq_false (fun (h : 1 ≤ x ∧ x ≤ 7) => h1 h.1)
    rw [e]
    clear e
    go_enter Tryz.func15, Tryz.ntmps15
    go_wp2
    go_ret
    exact ⟨rfl, rfl⟩
end Go.Proofs.YtecbkfmdpgkdiaaGreatDoor
