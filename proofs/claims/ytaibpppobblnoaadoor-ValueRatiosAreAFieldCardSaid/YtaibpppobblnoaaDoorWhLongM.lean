/-
  Numbers of any size: the arithmetic of the long division's rounds.
-/
import Derived.Test.YtaibpppobblnoaaDoorWhLehM
namespace Go.Proofs.YtaibpppobblnoaaDoor

theorem long_zero {F : Nat → Nat} {p k K d : Nat} (hK : p + (k + 1) ≤ K) (hd : d < bp k) (h2 : S (from_ F (p + 1)) (K - (p + 1)) < d) :
    S (from_ F (p + (k + 1))) (K - (p + (k + 1))) = 0 ∧ S (from_ F (p + 1)) k < d := by
  obtain ⟨r, hr⟩ : ∃ r, K - (p + 1) = k + r := ⟨K - (p + 1) - k, by omega⟩
  rw [hr] at h2
  have h := S_high (f := from_ F (p + 1)) (n := k) (m := r) (by omega)
  rw [from_from] at h
  refine ⟨?_, by rw [← h.2]; exact h2⟩
  rw [show p + (k + 1) = p + 1 + k by omega, show K - (p + 1 + k) = r by omega]
  exact h.1
theorem long_win {F : Nat → Nat} {p k K d : Nat} (hK : p + (k + 1) ≤ K) (hd : d < bp k) (hF : F p < 18446744073709551616) (h2 : S (from_ F (p + 1)) (K - (p + 1)) < d) :
    S (from_ F p) (k + 1) < 18446744073709551616 * d := by
  rw [S_cons]
  exact win_lt hF (long_zero hK hd h2).2
theorem long_next {F F2 G : Nat → Nat} {p k K L d A q : Nat} (hK : p + (k + 1) ≤ K) (hL : p < L) (hd : d < bp k)
    (h1 : S F K + d * (bp (p + 1) * S (from_ G (p + 1)) (L - (p + 1))) = A) (h2 : S (from_ F (p + 1)) (K - (p + 1)) < d)
    (hout : ∀ j, j < p ∨ p + (k + 1) ≤ j → F2 j = F j) (hq : S (from_ F2 p) (k + 1) + q * d = S (from_ F p) (k + 1)) (hlt : S (from_ F2 p) (k + 1) < d) :
    S F2 K + d * (bp p * S (from_ (put G p q) p) (L - p)) = A ∧ S (from_ F2 p) (K - p) < d := by
  constructor
  · have hw := S_window (f := F) (g := F2) hK (fun j _ hj => hout j hj)
    rw [bp_succ] at h1
    have e1 : S (from_ (put G p q) p) (L - p) = q + 18446744073709551616 * S (from_ G (p + 1)) (L - (p + 1)) := by
      rw [show L - p = (L - (p + 1)) + 1 by omega, S_cons, put_same]
      congr 2
      exact S_congr (fun j _ => put_ne (by omega))
    rw [e1]
    exact long_step h1 hw hq
  · obtain ⟨r, hr⟩ : ∃ r, K - p = (k + 1) + r := ⟨K - p - (k + 1), by omega⟩
    have hz := (long_zero hK hd h2).1
    rw [show K - (p + (k + 1)) = r by omega] at hz
    rw [hr, S_at, from_from]
    have e : S (from_ F2 (p + (k + 1))) r = S (from_ F (p + (k + 1))) r := S_congr (fun j _ => hout _ (.inr (by omega)))
    rw [e, hz, Nat.mul_zero]
    exact hlt
theorem long_start {F : Nat → Nat} {k1 m s d L : Nat} (hF : Lb F (k1 + 1)) (hL : L + m = k1) (ht : F k1 < 2 ^ s) (hs : s < 64) (hd : 9223372036854775808 * bp m ≤ d) : S (from_ F L) (k1 + 1 - L) < d := by
  rw [show k1 + 1 - L = m + 1 by omega, S_succ]
  have e : from_ F L m = F k1 := by unfold from_; rw [hL]
  rw [e]
  have hl : S (from_ F L) m < bp m := S_lt (fun j hj => hF _ (by omega))
  have hp : 2 ^ s ≤ 2 ^ 63 := Nat.pow_le_pow_right (by decide) (by omega)
  have : (F k1 + 1) * bp m ≤ 9223372036854775808 * bp m := Nat.mul_le_mul_right _ (by omega)
  rw [Nat.add_mul, Nat.one_mul] at this
  omega
theorem long_guess {F fd : Nat → Nat} {p m q d : Nat} (hF : Lb (from_ F p) m) (hfd : S fd (m + 1) = d) (hW : S (from_ F p) (m + 1 + 1) < 18446744073709551616 * d)
    (hg : (fd m ≤ from_ F p (m + 1) ∧ q + 1 = 18446744073709551616) ∨ from_ F p (m + 1) * 18446744073709551616 + from_ F p m < (q + 1) * fd m) : S (from_ F p) (m + 1 + 1) < (q + 1) * d := by
  refine guess_ok (high := from_ F p (m + 1)) (low := from_ F p m) (rest := S (from_ F p) m) (top := fd m) (d' := S fd m) (P := bp m) ?_ (S_lt hF) ?_ hW hg
  · rw [S_succ, S_succ, bp_succ]; grind
  · rw [← hfd, S_succ]; omega
/-- The guess is lowered once. -/
theorem lower {X X' W d B q y : Nat} (h : X + (q + 1) * d = W + B) (h2 : X' + y * B = X + d) (hX : X < B) (hX' : X' < B) (hy : y ≤ 1) :
    X' + q * d = W + (1 - y) * B ∧ W < (q + 1) * d := by
  rw [Nat.add_mul, Nat.one_mul] at h ⊢
  rcases Nat.eq_zero_or_pos y with e | e
  · subst e
    simp only [Nat.zero_mul, Nat.sub_zero, Nat.one_mul] at h2 ⊢
    omega
  · obtain rfl : y = 1 := by omega
    simp only [Nat.sub_self, Nat.zero_mul, Nat.one_mul] at h2 ⊢
    omega
theorem lead_bp {m d n2 s top r : Nat} (hn : n2 = top * bp m + r) (hr : r < bp m) (h1 : 9223372036854775808 ≤ top * 2 ^ s) (h2 : top * 2 ^ s < 18446744073709551616) (hd : d = n2 * 2 ^ s) : 9223372036854775808 * bp m ≤ d ∧ d < bp (m + 1) := by
  have hp : 0 < 2 ^ s := Nat.pow_pos (by decide)
  have e : d = top * 2 ^ s * bp m + r * 2 ^ s := by rw [hd, hn]; grind
  constructor
  · have := Nat.mul_le_mul_right (bp m) h1
    omega
  · rw [bp_succ]
    have hs : s < 64 := by
      rcases Nat.lt_or_ge s 64 with l | l
      · exact l
      · have : 2 ^ 64 ≤ 2 ^ s := Nat.pow_le_pow_right (by decide) l
        rcases Nat.eq_zero_or_pos top with e | e
        · subst e; omega
        · have : 1 * 2 ^ s ≤ top * 2 ^ s := Nat.mul_le_mul_right _ e
          omega
    rw [← pow_split hs] at h2 ⊢
    have ht : top < 2 ^ (64 - s) := Nat.lt_of_mul_lt_mul_right h2
    have a : r * 2 ^ s < bp m * 2 ^ s := Nat.mul_lt_mul_of_pos_right hr hp
    have b : (top + 1) * (2 ^ s * bp m) ≤ 2 ^ (64 - s) * (2 ^ s * bp m) := Nat.mul_le_mul_right _ ht
    have c : bp m * (2 ^ (64 - s) * 2 ^ s) = 2 ^ (64 - s) * (2 ^ s * bp m) := by grind
    have c2 : (top + 1) * (2 ^ s * bp m) = top * 2 ^ s * bp m + bp m * 2 ^ s := by grind
    omega
end Go.Proofs.YtaibpppobblnoaaDoor
