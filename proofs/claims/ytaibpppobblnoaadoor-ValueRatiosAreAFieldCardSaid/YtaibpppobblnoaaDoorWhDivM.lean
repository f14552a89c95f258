/-
  Numbers of any size: the arithmetic of a division of two limbs by one.
-/
import Derived.Test.YtaibpppobblnoaaDoorWhMathB
namespace Go.Proofs.YtaibpppobblnoaaDoor

/-- One half of the quotient so far: not too small, and what is left of it. -/
def HalfInv (y yn1 un32 un1 q rhat : Nat) : Prop := q * yn1 + rhat = un32 ∧ un32 * 4294967296 + un1 < (q + 1) * y
theorem half_start {y yn0 yn1 un32 un1 : Nat} (hy : y = yn1 * 4294967296 + yn0) (h1 : un1 < 4294967296) (hp : 0 < yn1) :
    HalfInv y yn1 un32 un1 (un32 / yn1) (un32 - un32 / yn1 * yn1) := by
  refine ⟨?_, half_init hy rfl h1 hp⟩
  have := Nat.div_mul_le_self un32 yn1
  omega
theorem half_next {y yn0 yn1 un32 un1 q rhat : Nat} (hy : y = yn1 * 4294967296 + yn0) (h1 : un1 < 4294967296) (h32 : un32 < y) (hI : HalfInv y yn1 un32 un1 (q + 1) rhat)
    (ht : 4294967296 ≤ q + 1 ∨ 4294967296 * rhat + un1 < (q + 1) * yn0) : HalfInv y yn1 un32 un1 q (rhat + yn1) := by
  refine ⟨?_, half_step hy rfl h1 h32 hI.1 ht⟩
  have := hI.1
  rw [Nat.add_mul, Nat.one_mul] at this
  omega
theorem half_end {y yn0 yn1 un32 un1 q rhat : Nat} (hy : y = yn1 * 4294967296 + yn0) (h0 : yn0 < 4294967296) (h32 : un32 < y) (hI : HalfInv y yn1 un32 un1 q rhat)
    (ht : q * yn0 ≤ 4294967296 * rhat + un1 ∨ 4294967296 ≤ rhat) : q = (un32 * 4294967296 + un1) / y := by
  have hd : q * yn0 ≤ 4294967296 * rhat + un1 := by
    rcases ht with h | h
    · exact h
    · exact half_break hy h0 h32 hI.1 h
  have a := half_done hy rfl hI.1 hd
  have hy0 : 0 < y := by omega
  exact (Nat.div_eq_of_lt_le (by rw [Nat.mul_comm] at a; rw [Nat.mul_comm]; exact a) hI.2).symm
theorem half_qlt {y un32 un1 : Nat} (h1 : un1 < 4294967296) (h32 : un32 < y) : (un32 * 4294967296 + un1) / y < 4294967296 := by
  refine Nat.div_lt_of_lt_mul ?_
  have : (un32 + 1) * 4294967296 ≤ y * 4294967296 := Nat.mul_le_mul_right _ h32
  rw [Nat.add_mul, Nat.one_mul] at this
  omega
/-- Both halves are the whole quotient. -/
theorem halves0 {y u k un0 : Nat} (hy : 0 < y) :
    u / y * k + (u % y * k + un0) / y = (u * k + un0) / y ∧ (u % y * k + un0) % y = (u * k + un0) % y := by
  have hd := Nat.div_add_mod u y
  have e : u * k + un0 = (u % y * k + un0) + y * (u / y * k) := by
    have : u * k = (y * (u / y) + u % y) * k := by rw [hd]
    rw [this, Nat.add_mul, Nat.mul_assoc]
    omega
  rw [e, Nat.add_mul_div_left _ _ hy, Nat.add_mul_mod_self_left]
  omega
/-- A divisor whose highest bit is set: the two limbs, shifted. -/
theorem norm_hi {h l y s : Nat} (hs : s < 64) (hh : h < y) (hl : l < 18446744073709551616) (hY : y * 2 ^ s < 18446744073709551616) :
    h * 2 ^ s < 18446744073709551616 ∧ (h * 2 ^ s ||| l / 2 ^ (64 - s)) = h * 2 ^ s + l / 2 ^ (64 - s) ∧ h * 2 ^ s + l / 2 ^ (64 - s) < y * 2 ^ s ∧
    (h * 2 ^ s + l / 2 ^ (64 - s)) * 18446744073709551616 + l * 2 ^ s % 18446744073709551616 = (h * 18446744073709551616 + l) * 2 ^ s := by
  have hp : 0 < 2 ^ s := Nat.pow_pos (by decide)
  have e1 : l / 2 ^ (64 - s) = l * 2 ^ s / 18446744073709551616 := (shr_is hs).symm
  have e2 : l * 2 ^ s / 18446744073709551616 < 2 ^ s := shl_high hl
  have hm := Nat.div_add_mod (l * 2 ^ s) 18446744073709551616
  have a : (h + 1) * 2 ^ s ≤ y * 2 ^ s := Nat.mul_le_mul_right _ hh
  rw [Nat.add_mul, Nat.one_mul] at a
  rw [e1]
  refine ⟨by omega, ?_, by omega, ?_⟩
  · rw [Nat.or_comm, Nat.mul_comm h, or_add e2]; omega
  · rw [Nat.add_mul, Nat.add_mul]
    have : h * 18446744073709551616 * 2 ^ s = h * 2 ^ s * 18446744073709551616 := by rw [Nat.mul_assoc, Nat.mul_comm 18446744073709551616, Nat.mul_assoc]
    omega
theorem norm_out {N y s : Nat} : N * 2 ^ s / (y * 2 ^ s) = N / y ∧ N * 2 ^ s % (y * 2 ^ s) / 2 ^ s = N % y := by
  have hp : 0 < 2 ^ s := Nat.pow_pos (by decide)
  refine ⟨Nat.mul_div_mul_right _ _ hp, ?_⟩
  rw [Nat.mul_mod_mul_right, Nat.mul_div_cancel _ hp]
/-- The highest bit of a number that is shifted by the zeros ahead of it. -/
theorem lead {y b : Nat} (h1 : 2 ^ b ≤ y) (h2 : y < 2 ^ (b + 1)) (hb : b < 64) : 9223372036854775808 ≤ y * 2 ^ (63 - b) ∧ y * 2 ^ (63 - b) < 18446744073709551616 := by
  have hp : 0 < 2 ^ (63 - b) := Nat.pow_pos (by decide)
  have e1 : 2 ^ b * 2 ^ (63 - b) = 9223372036854775808 := by rw [← Nat.pow_add, show b + (63 - b) = 63 by omega]
  have e2 : 2 ^ (b + 1) * 2 ^ (63 - b) = 18446744073709551616 := by rw [← Nat.pow_add, show b + 1 + (63 - b) = 64 by omega]
  exact ⟨by rw [← e1]; exact Nat.mul_le_mul_right _ h1, by rw [← e2]; exact Nat.mul_lt_mul_of_pos_right h2 hp⟩
end Go.Proofs.YtaibpppobblnoaaDoor
