/-
  Decimal texts of numbers of any size: the arithmetic.
-/
import Derived.Test.YtaibpppobblnoaaDoorWhMathB
import Derived.Lib.ItoaNum
import Derived.Lib.ItoaLen
import Derived.Lib.TrimByte
namespace Go.Proofs.YtaibpppobblnoaaDoor

/-! ### The numeral with zeros ahead of it -/
def padL (m n : Nat) : List UInt8 := (List.range m).map fun i => UInt8.ofNat (48 + n / 10 ^ (m - 1 - i) % 10)
theorem padL_succ (m n : Nat) : padL (m + 1) n = padL m (n / 10) ++ [UInt8.ofNat (48 + n % 10)] := by
  unfold padL
  rw [List.range_succ, List.map_append]
  congr 1
  · refine List.map_congr_left fun i hi => ?_
    have hi := List.mem_range.1 hi
    have e : m + 1 - 1 - i = (m - 1 - i) + 1 := by omega
    rw [e, Nat.pow_succ, Nat.mul_comm, ← Nat.div_div_eq_div_mul]
  · simp
theorem padL_length (m n : Nat) : (padL m n).length = m := by simp [padL]
theorem padL_add (a : Nat) : ∀ b n : Nat, padL (a + b) n = padL a (n / 10 ^ b) ++ padL b (n % 10 ^ b)
  | 0, n => by simp [padL]
  | b + 1, n => by
    have hp : 0 < 10 ^ b := Nat.pow_pos (by decide)
    have e1 : n / 10 / 10 ^ b = n / 10 ^ (b + 1) := by rw [Nat.pow_succ, Nat.mul_comm, Nat.div_div_eq_div_mul]
    have e2 : n % 10 ^ (b + 1) / 10 = n / 10 % 10 ^ b := by rw [Nat.pow_succ, Nat.mul_comm, Nat.mod_mul_right_div_self]
    have e3 : n % 10 ^ (b + 1) % 10 = n % 10 := by rw [Nat.pow_succ, Nat.mod_mul_left_mod]
    rw [← Nat.add_assoc, padL_succ, padL_add a b (n / 10), padL_succ, e1, e2, e3, List.append_assoc]
theorem padL_zero (m : Nat) : (padL m 0).dropWhile (· == 48) = [] := by
  induction m with
  | zero => rfl
  | succ m ih => rw [padL_succ, Nat.zero_div, List.dropWhile_append, ih]; rfl
theorem decDigits_ne (n : Nat) : Lib.decDigits n ≠ [] := by
  intro h
  have := Lib.decDigits_length n
  rw [h] at this
  have := Lib.nDigits_pos n
  simp at *
  omega
theorem digit_ne {d : Nat} (h0 : 0 < d) (h9 : d < 10) : (UInt8.ofNat (48 + d) == 48) = false := by
  match d, h0, h9 with
  | 1, _, _ => rfl
  | 2, _, _ => rfl
  | 3, _, _ => rfl
  | 4, _, _ => rfl
  | 5, _, _ => rfl
  | 6, _, _ => rfl
  | 7, _, _ => rfl
  | 8, _, _ => rfl
  | 9, _, _ => rfl
theorem trim_padL (m : Nat) : ∀ n : Nat, 0 < n → n < 10 ^ m → (padL m n).dropWhile (· == 48) = Lib.decDigits n := by
  induction m with
  | zero => intro n h0 h1; simp at h1; omega
  | succ m ih =>
    intro n h0 h1
    rw [padL_succ, List.dropWhile_append]
    by_cases h : n < 10
    · have e : n / 10 = 0 := by omega
      have e' : n % 10 = n := by omega
      rw [e, padL_zero, e', Lib.decDigits_one h]
      rw [if_pos (show ([] : List UInt8).isEmpty = true from rfl), List.dropWhile_cons_of_neg (by rw [digit_ne h0 h]; simp)]
    · rw [ih (n / 10) (by omega) (by rw [Nat.pow_succ] at h1; omega)]
      have hne := decDigits_ne (n / 10)
      rw [if_neg (by simpa [List.isEmpty_iff] using hne)]
      rw [Lib.decDigits.eq_def n, dif_neg h]
/-! ### Chunks of 19 digits -/
@[irreducible] def ch : Nat := 10000000000000000000
theorem ch_is : ch = 10000000000000000000 := by unfold ch; rfl
theorem ch_pow : ch = 10 ^ 19 := by rw [ch_is]
/-- The chunk number j of a number. -/
def chunk (n j : Nat) : Nat := n / ch ^ j % ch
theorem ch_pos (j : Nat) : 0 < ch ^ j := Nat.pow_pos (by rw [ch_is]; decide)
theorem chunk_lt (n j : Nat) : chunk n j < 10000000000000000000 := by unfold chunk; rw [← ch_is]; exact Nat.mod_lt _ (by rw [ch_is]; decide)
theorem chunk_next (n j : Nat) : n / ch ^ j / ch = n / ch ^ (j + 1) := by rw [Nat.pow_succ, Nat.div_div_eq_div_mul]
theorem padL_chunk (n j t : Nat) : padL (19 * t) (n / ch ^ (j + 1)) ++ padL 19 (chunk n j) = padL (19 * (t + 1)) (n / ch ^ j) := by
  rw [show 19 * (t + 1) = 19 * t + 19 by omega, padL_add, ← ch_pow, chunk_next]
  rfl
theorem chunks_few {n K j : Nat} (hn : n < bp K) (hj : 0 < n / ch ^ j) : j < 2 * K := by
  rcases Nat.lt_or_ge j (2 * K) with l | l
  · exact l
  · exfalso
    have h1 : ch ^ j ≤ n := by
      rcases Nat.lt_or_ge n (ch ^ j) with q | q
      · rw [Nat.div_eq_of_lt q] at hj; omega
      · exact q
    have h2 : ch ^ (2 * K) ≤ ch ^ j := Nat.pow_le_pow_right (by rw [ch_is]; decide) l
    have h3 : bp K ≤ ch ^ (2 * K) := by
      rw [Nat.pow_mul, bp_pow]
      exact Nat.pow_le_pow_left (by rw [ch_is]; decide) K
    omega
theorem zero_next {n m : Nat} (h : n / ch ^ m = 0) : n < 10 ^ (19 * m) := by
  rw [Nat.pow_mul, ← ch_pow]
  exact (Nat.div_eq_zero_iff.1 h).resolve_left (by have := ch_pos m; omega)
/-! ### The digits of a chunk -/
def pw (i : Nat) : Nat := 1000000000000000000 / 10 ^ i
theorem pw_succ (i : Nat) : pw (i + 1) = pw i / 10 := by unfold pw; rw [Nat.pow_succ, Nat.div_div_eq_div_mul]
theorem pw_eq {i : Nat} (h : i ≤ 18) : pw i = 10 ^ (18 - i) := by
  unfold pw
  rw [show (1000000000000000000 : Nat) = 10 ^ (18 - i) * 10 ^ i by rw [← Nat.pow_add, show 18 - i + i = 18 by omega]]
  exact Nat.mul_div_cancel _ (Nat.pow_pos (by decide))
theorem pw_end : pw 19 = 0 := by unfold pw; exact Nat.div_eq_of_lt (by decide)
theorem pw_le (i : Nat) : pw i ≤ 1000000000000000000 := Nat.div_le_self _ _
theorem digit_toNat {d : Nat} (h : d < 10) : (UInt8.ofNat (48 + d)).toNat = 48 + d := by
  rw [UInt8.toNat_ofNat']; omega
end Go.Proofs.YtaibpppobblnoaaDoor
