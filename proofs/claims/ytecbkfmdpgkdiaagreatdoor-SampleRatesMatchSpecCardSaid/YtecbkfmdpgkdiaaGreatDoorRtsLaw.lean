/-
  SampleRatesMatchSpec: the walk of the law.
-/
import Derived.Test.YtecbkfmdpgkdiaaGreatDoorRtsProg
import Derived.Test.YtecbkfmdpgkdiaaGreatDoorRtsRef
namespace Go.Proofs.YtecbkfmdpgkdiaaGreatDoor
open Go.RowKit

set_option maxRecDepth 100000 in
set_option maxHeartbeats 4000000 in
theorem law_rates (a : Option Addr) (c : Nat) (l : List Int) (w : World) (h : Rd w a l) (hE : Pow w) :
    Calls Tryz.prog 4 #[.slice a l.length c] w fun e w' => e = .returned (.bool true) ∧ Below w.heap.size w w' := by
  have HC := fun W (hW : Rd W a l) => Rates_c a c l W hW
  have HR := fun W (hW : Rd W a l) (hP : Pow W) => RRates_c a c l W hW hP
  unfold RtsPost ratesV at HC HR
  generalize ns l 0 = n0 at *
  generalize ds l 0 = d0 at *
  generalize ns l 1 = n1 at *
  generalize ds l 1 = d1 at *
  generalize ns l 2 = n2 at *
  generalize ds l 2 = d2 at *
  generalize ns l 3 = n3 at *
  generalize ds l 3 = d3 at *
  generalize ns l 4 = n4 at *
  generalize ds l 4 = d4 at *
  generalize ns l 5 = n5 at *
  generalize ds l 5 = d5 at *
  generalize ns l 6 = n6 at *
  generalize ds l 6 = d6 at *
  generalize rf l = f at *
  have C1 := Lib.hid HC
  have C2 := Lib.hid HR
  have H := Lib.hid h
  have HP := Lib.hid hE
  clear HC HR h hE
  go_enter Tryz.func4, Tryz.ntmps4
  go_wp2_with fail
  refine (C1.out w H.out).mono ?_
  rintro e w1 ⟨rfl, b1⟩
  have B1 := Lib.hid b1
  clear b1
  obtain ⟨W2, hW2⟩ : ∃ W2, w1.alloc (.cells #[.string n0, .string d0, .string n1, .string d1, .string n2, .string d2, .string n3, .string d3, .string n4, .string d4, .string n5, .string d5, .string n6, .string d6] 36) = W2 := ⟨_, rfl⟩
  have B2 : Hid (Below w.heap.size w W2) := by unfold Hid; rw [← hW2]; exact B1.out.trans ((bel_one' w1 _).mono B1.out.size)
  have Q2 : Hid ((W2.heap.size = w1.heap.size + 1) ∧ W2.cell? ⟨w1.heap.size, 0, none⟩ = some (.string n0) ∧ W2.cell? ⟨w1.heap.size, 1, none⟩ = some (.string d0) ∧ W2.cell? ⟨w1.heap.size, 2, none⟩ = some (.string n1) ∧ W2.cell? ⟨w1.heap.size, 3, none⟩ = some (.string d1) ∧ W2.cell? ⟨w1.heap.size, 4, none⟩ = some (.string n2) ∧ W2.cell? ⟨w1.heap.size, 5, none⟩ = some (.string d2) ∧ W2.cell? ⟨w1.heap.size, 6, none⟩ = some (.string n3) ∧ W2.cell? ⟨w1.heap.size, 7, none⟩ = some (.string d3) ∧ W2.cell? ⟨w1.heap.size, 8, none⟩ = some (.string n4) ∧ W2.cell? ⟨w1.heap.size, 9, none⟩ = some (.string d4) ∧ W2.cell? ⟨w1.heap.size, 10, none⟩ = some (.string n5) ∧ W2.cell? ⟨w1.heap.size, 11, none⟩ = some (.string d5) ∧ W2.cell? ⟨w1.heap.size, 12, none⟩ = some (.string n6) ∧ W2.cell? ⟨w1.heap.size, 13, none⟩ = some (.string d6)) := by
    unfold Hid
    exact ⟨by rw [← hW2]; simp, by rw [← hW2, World.cell?_alloc_at _ _ _ _ rfl]; rfl, by rw [← hW2, World.cell?_alloc_at _ _ _ _ rfl]; rfl, by rw [← hW2, World.cell?_alloc_at _ _ _ _ rfl]; rfl, by rw [← hW2, World.cell?_alloc_at _ _ _ _ rfl]; rfl, by rw [← hW2, World.cell?_alloc_at _ _ _ _ rfl]; rfl, by rw [← hW2, World.cell?_alloc_at _ _ _ _ rfl]; rfl, by rw [← hW2, World.cell?_alloc_at _ _ _ _ rfl]; rfl, by rw [← hW2, World.cell?_alloc_at _ _ _ _ rfl]; rfl, by rw [← hW2, World.cell?_alloc_at _ _ _ _ rfl]; rfl, by rw [← hW2, World.cell?_alloc_at _ _ _ _ rfl]; rfl, by rw [← hW2, World.cell?_alloc_at _ _ _ _ rfl]; rfl, by rw [← hW2, World.cell?_alloc_at _ _ _ _ rfl]; rfl, by rw [← hW2, World.cell?_alloc_at _ _ _ _ rfl]; rfl, by rw [← hW2, World.cell?_alloc_at _ _ _ _ rfl]; rfl⟩
  go_wp2_with fail
  clear hW2
  refine (C2.out W2 (H.out.below B2.out) (Go.Joins.tab_stays gPow HP.out B2.out (Nat.le_refl _))).mono ?_
  rintro e w3 ⟨rfl, b3⟩
  have B3 := Lib.hid (B2.out.trans (b3.mono B2.out.size))
  have lt : w1.heap.size < W2.heap.size := by have := Q2.out.1; omega
  have k := fun (o : Nat) => b3.cell (p := ⟨w1.heap.size, o, none⟩) lt
  have s3 : w1.heap.size < w3.heap.size := Nat.lt_of_lt_of_le lt b3.size
  obtain ⟨W4, hW4⟩ : ∃ W4, w3.alloc (.cells #[.string n0, .string d0, .string n1, .string d1, .string n2, .string d2, .string n3, .string d3, .string n4, .string d4, .string n5, .string d5, .string n6, .string d6] 36) = W4 := ⟨_, rfl⟩
  have B4 : Hid (Below w.heap.size w W4) := by unfold Hid; rw [← hW4]; exact B3.out.trans ((bel_one' w3 _).mono B3.out.size)
  have k4 := fun (o : Nat) => (bel_one' w3 (.cells #[.string n0, .string d0, .string n1, .string d1, .string n2, .string d2, .string n3, .string d3, .string n4, .string d4, .string n5, .string d5, .string n6, .string d6] 36)).cell (p := ⟨w1.heap.size, o, none⟩) s3
  rw [hW4] at k4
  have Q4 : W4.cell? ⟨w1.heap.size, 0, none⟩ = some (.string n0) ∧ W4.cell? ⟨w1.heap.size, 1, none⟩ = some (.string d0) ∧ W4.cell? ⟨w1.heap.size, 2, none⟩ = some (.string n1) ∧ W4.cell? ⟨w1.heap.size, 3, none⟩ = some (.string d1) ∧ W4.cell? ⟨w1.heap.size, 4, none⟩ = some (.string n2) ∧ W4.cell? ⟨w1.heap.size, 5, none⟩ = some (.string d2) ∧ W4.cell? ⟨w1.heap.size, 6, none⟩ = some (.string n3) ∧ W4.cell? ⟨w1.heap.size, 7, none⟩ = some (.string d3) ∧ W4.cell? ⟨w1.heap.size, 8, none⟩ = some (.string n4) ∧ W4.cell? ⟨w1.heap.size, 9, none⟩ = some (.string d4) ∧ W4.cell? ⟨w1.heap.size, 10, none⟩ = some (.string n5) ∧ W4.cell? ⟨w1.heap.size, 11, none⟩ = some (.string d5) ∧ W4.cell? ⟨w1.heap.size, 12, none⟩ = some (.string n6) ∧ W4.cell? ⟨w1.heap.size, 13, none⟩ = some (.string d6) := by
    obtain ⟨_, q0, q1, q2, q3, q4, q5, q6, q7, q8, q9, q10, q11, q12, q13⟩ := Q2.out
    exact ⟨(k4 _).trans ((k _).trans q0), (k4 _).trans ((k _).trans q1), (k4 _).trans ((k _).trans q2), (k4 _).trans ((k _).trans q3), (k4 _).trans ((k _).trans q4), (k4 _).trans ((k _).trans q5), (k4 _).trans ((k _).trans q6), (k4 _).trans ((k _).trans q7), (k4 _).trans ((k _).trans q8), (k4 _).trans ((k _).trans q9), (k4 _).trans ((k _).trans q10), (k4 _).trans ((k _).trans q11), (k4 _).trans ((k _).trans q12), (k4 _).trans ((k _).trans q13)⟩
  have Q5 : W4.cell? ⟨w3.heap.size, 0, none⟩ = some (.string n0) ∧ W4.cell? ⟨w3.heap.size, 1, none⟩ = some (.string d0) ∧ W4.cell? ⟨w3.heap.size, 2, none⟩ = some (.string n1) ∧ W4.cell? ⟨w3.heap.size, 3, none⟩ = some (.string d1) ∧ W4.cell? ⟨w3.heap.size, 4, none⟩ = some (.string n2) ∧ W4.cell? ⟨w3.heap.size, 5, none⟩ = some (.string d2) ∧ W4.cell? ⟨w3.heap.size, 6, none⟩ = some (.string n3) ∧ W4.cell? ⟨w3.heap.size, 7, none⟩ = some (.string d3) ∧ W4.cell? ⟨w3.heap.size, 8, none⟩ = some (.string n4) ∧ W4.cell? ⟨w3.heap.size, 9, none⟩ = some (.string d4) ∧ W4.cell? ⟨w3.heap.size, 10, none⟩ = some (.string n5) ∧ W4.cell? ⟨w3.heap.size, 11, none⟩ = some (.string d5) ∧ W4.cell? ⟨w3.heap.size, 12, none⟩ = some (.string n6) ∧ W4.cell? ⟨w3.heap.size, 13, none⟩ = some (.string d6) := ⟨by rw [← hW4, World.cell?_alloc_at _ _ _ _ rfl]; rfl, by rw [← hW4, World.cell?_alloc_at _ _ _ _ rfl]; rfl, by rw [← hW4, World.cell?_alloc_at _ _ _ _ rfl]; rfl, by rw [← hW4, World.cell?_alloc_at _ _ _ _ rfl]; rfl, by rw [← hW4, World.cell?_alloc_at _ _ _ _ rfl]; rfl, by rw [← hW4, World.cell?_alloc_at _ _ _ _ rfl]; rfl, by rw [← hW4, World.cell?_alloc_at _ _ _ _ rfl]; rfl, by rw [← hW4, World.cell?_alloc_at _ _ _ _ rfl]; rfl, by rw [← hW4, World.cell?_alloc_at _ _ _ _ rfl]; rfl, by rw [← hW4, World.cell?_alloc_at _ _ _ _ rfl]; rfl, by rw [← hW4, World.cell?_alloc_at _ _ _ _ rfl]; rfl, by rw [← hW4, World.cell?_alloc_at _ _ _ _ rfl]; rfl, by rw [← hW4, World.cell?_alloc_at _ _ _ _ rfl]; rfl, by rw [← hW4, World.cell?_alloc_at _ _ _ _ rfl]; rfl⟩
  clear k k4 b3 lt s3 Q2
  go_wp2
  go_ret
  exact ⟨rfl, B4.out⟩
end Go.Proofs.YtecbkfmdpgkdiaaGreatDoor
