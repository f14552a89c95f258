/-
  SampleRatesMatchSpec: what Rates gives, of a list of ints.
-/
import Derived.Test.YtecbkfmdpgkdiaaGreatDoorRtsBox
namespace Go.Proofs.YtecbkfmdpgkdiaaGreatDoor
open Go.RowKit

/-- The counts, and the sums of them. -/
def C (l : List Int) (j : Int) : Nat := cn (fn l) j l.length
def IV (l : List Int) : Nat := C l 1 + C l 3
def RA (l : List Int) : Nat := IV l + C l 4
def RE (l : List Int) : Nat := RA l + C l 5
def EL (l : List Int) : Nat := RE l + C l 6
def KN (l : List Int) : Nat := EL l + C l 2
def AL (l : List Int) : Nat := EL l + C l 7
def P1 (l : List Int) : Nat := C l 1 * KN l
def KU (l : List Int) : Nat := KN l + C l 7
def Q (l : List Int) : Nat := EL l * KU l
def EU (l : List Int) : Nat := EL l * C l 7
/-- All bounds. -/
theorem bounds {l : List Int} (h : l.length ≤ 5000) : KU l ≤ 5000 ∧ P1 l ≤ 25000000 ∧ Q l ≤ 25000000 ∧ EU l ≤ 25000000 := by
  have s := cn_sum (fn l) l.length
  have hk : KU l ≤ 5000 := by unfold KU KN EL RE RA IV C; omega
  have h1 : C l 1 ≤ KU l := by unfold KU KN EL RE RA IV; omega
  have h2 : KN l ≤ KU l := by unfold KU; omega
  have h3 : EL l ≤ KU l := by unfold KU KN; omega
  have h4 : C l 7 ≤ KU l := by unfold KU; omega
  refine ⟨hk, ?_, ?_, ?_⟩
  · exact Nat.le_trans (Nat.mul_le_mul (Nat.le_trans h1 hk) (Nat.le_trans h2 hk)) (by decide)
  · exact Nat.le_trans (Nat.mul_le_mul (Nat.le_trans h3 hk) hk) (by decide)
  · exact Nat.le_trans (Nat.mul_le_mul (Nat.le_trans h3 hk) (Nat.le_trans h4 hk)) (by decide)
/-- The pairs of which the rates are the ratios. -/
def rp (l : List Int) : Nat → Nat × Nat
  | 0 => (C l 1, AL l)
  | 1 => (IV l, AL l)
  | 2 => (P1 l, Q l)
  | 3 => (C l 1, EL l)
  | 4 => (C l 1, RE l)
  | 5 => (C l 4, AL l)
  | _ => (RE l, AL l)
/-- Whether the list has outcomes alone. -/
def okL (l : List Int) : Prop := ∀ j, j < l.length → isOc (fn l j)
open Classical in
noncomputable def ns (l : List Int) (p : Nat) : ByteArray := if l.length ≤ 5000 ∧ okL l then decB (rtN (rp l p).1 (rp l p).2) else ⟨#[]⟩
open Classical in
noncomputable def ds (l : List Int) (p : Nat) : ByteArray := if l.length ≤ 5000 ∧ okL l then decB (rtD (rp l p).1 (rp l p).2) else ⟨#[]⟩
open Classical in
noncomputable def rf (l : List Int) : Int := if l.length ≤ 5000 then (if okL l then 0 else 4) else 2
/-- What Rates gives. -/
noncomputable def ratesV (l : List Int) : Value := .agg #[.string (ns l 0), .string (ds l 0), .string (ns l 1), .string (ds l 1), .string (ns l 2), .string (ds l 2), .string (ns l 3), .string (ds l 3), .string (ns l 4), .string (ds l 4), .string (ns l 5), .string (ds l 5), .string (ns l 6), .string (ds l 6)]
theorem ratesV_no {l : List Int} (h : ¬ (l.length ≤ 5000 ∧ okL l)) : ratesV l = .agg #[.string ⟨#[]⟩, .string ⟨#[]⟩, .string ⟨#[]⟩, .string ⟨#[]⟩, .string ⟨#[]⟩, .string ⟨#[]⟩, .string ⟨#[]⟩, .string ⟨#[]⟩, .string ⟨#[]⟩, .string ⟨#[]⟩, .string ⟨#[]⟩, .string ⟨#[]⟩, .string ⟨#[]⟩, .string ⟨#[]⟩] := by
  unfold ratesV ns ds
  simp only [if_neg h]
theorem ratesV_ok {l : List Int} (h : l.length ≤ 5000 ∧ okL l) : ratesV l = .agg #[.string (decB (rtN (C l 1) (AL l))), .string (decB (rtD (C l 1) (AL l))), .string (decB (rtN (IV l) (AL l))), .string (decB (rtD (IV l) (AL l))), .string (decB (rtN (P1 l) (Q l))), .string (decB (rtD (P1 l) (Q l))), .string (decB (rtN (C l 1) (EL l))), .string (decB (rtD (C l 1) (EL l))), .string (decB (rtN (C l 1) (RE l))), .string (decB (rtD (C l 1) (RE l))), .string (decB (rtN (C l 4) (AL l))), .string (decB (rtD (C l 4) (AL l))), .string (decB (rtN (RE l) (AL l))), .string (decB (rtD (RE l) (AL l)))] := by
  unfold ratesV ns ds
  simp only [if_pos h, rp]
theorem rf_large {l : List Int} (h : ¬ l.length ≤ 5000) : rf l = 2 := by unfold rf; rw [if_neg h]
theorem rf_kind {l : List Int} (h : l.length ≤ 5000) (h2 : ¬ okL l) : rf l = 4 := by unfold rf; rw [if_pos h, if_neg h2]
theorem rf_ok {l : List Int} (h : l.length ≤ 5000) (h2 : okL l) : rf l = 0 := by unfold rf; rw [if_pos h, if_pos h2]
def RtsPost (l : List Int) (w : World) (e : Ending) (w' : World) : Prop := e = .returned (.tuple #[ratesV l, .int .i64 (rf l)]) ∧ Below w.heap.size w w'
end Go.Proofs.YtecbkfmdpgkdiaaGreatDoor
