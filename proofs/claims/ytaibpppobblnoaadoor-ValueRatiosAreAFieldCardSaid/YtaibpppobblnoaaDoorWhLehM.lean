/-
  Numbers of any size: the arithmetic of Lehmer's steps, and of windows of bits.
-/
import Derived.Test.YtaibpppobblnoaaDoorWhDivM
namespace Go.Proofs.YtaibpppobblnoaaDoor

/-- Some steps of Euclid's algorithm with the highest bits. -/
structure Stp (odd : Bool) (a0 b0 a1 b1 HA HB hA hB : Nat) : Prop where
  cmb : Cmb odd a0 b0 a1 b1 HA HB hA hB
  bak : Bak a0 b0 a1 b1 HA HB hA hB
  det : Det odd a0 b0 a1 b1
  le : hB ≤ hA
  i1 : a1 ≤ b1
  i2 : a0 + a1 ≤ b0 + b1
  i3 : 1 ≤ b1
  i4 : 1 ≤ a0 + a1
/-- The condition of Collins. -/
structure Coll (a0 b0 a1 b1 hA hB : Nat) : Prop where
  c0 : a0 ≤ b0
  c1 : 1 ≤ b0
  c2 : 1 ≤ a1
  c3 : b1 ≤ hB
  c4 : b0 + b1 + hB ≤ hA
theorem Stp.start {HA HB : Nat} (h : HB ≤ HA) : Stp false 1 0 0 1 HA HB HA HB :=
  ⟨by simp [Cmb], by simp [Bak], by simp [Det], h, by omega, by omega, by omega, by omega⟩
theorem Stp.next {odd : Bool} {a0 b0 a1 b1 HA HB hA hB : Nat} (h : Stp odd a0 b0 a1 b1 HA HB hA hB) (hp : 0 < hB) :
    Stp (!odd) a1 b1 (a0 + hA / hB * a1) (b0 + hA / hB * b1) HA HB hB (hA % hB) ∧ a1 ≤ b1 ∧ 1 ≤ b1 ∧ 1 ≤ a0 + hA / hB * a1 := by
  have hq : 1 ≤ hA / hB := (Nat.le_div_iff_mul_le hp).2 (by have := h.le; omega)
  have hr := Nat.mod_lt hA hp
  have x1 := h.i1
  have x2 := h.i2
  have x3 := h.i3
  have x4 := h.i4
  obtain ⟨q, hq'⟩ : ∃ q, hA / hB = q + 1 := ⟨hA / hB - 1, by omega⟩
  have e1 := cmb_step h.cmb
  have e2 := bak_step h.bak
  have e3 := det_step (hA / hB) h.det
  rw [hq'] at e1 e2 e3 ⊢
  have m1 : q * a1 ≤ q * b1 := Nat.mul_le_mul_left _ x1
  have m2 : (q + 1) * a1 = q * a1 + a1 := by rw [Nat.add_mul, Nat.one_mul]
  have m3 : (q + 1) * b1 = q * b1 + b1 := by rw [Nat.add_mul, Nat.one_mul]
  exact ⟨⟨e1, e2, e3, by omega, by omega, by omega, by omega, by omega⟩, x1, x3, by omega⟩
theorem Stp.bound {odd : Bool} {a0 b0 a1 b1 HA HB hA hB : Nat} (h : Stp odd a0 b0 a1 b1 HA HB hA hB) (hA0 : 0 < hA) : b1 ≤ HA ∧ a1 ≤ HB ∧ (0 < hB → b0 + b1 ≤ HA ∧ a0 ≤ HB) := by
  obtain ⟨e1, e2⟩ := h.bak
  have m1 : b1 * 1 ≤ b1 * hA := Nat.mul_le_mul_left _ hA0
  have m2 : a1 * 1 ≤ a1 * hA := Nat.mul_le_mul_left _ hA0
  refine ⟨by omega, by omega, fun hp => ?_⟩
  have m3 : b0 * 1 ≤ b0 * hB := Nat.mul_le_mul_left _ hp
  have m4 : a0 * 1 ≤ a0 * hB := Nat.mul_le_mul_left _ hp
  exact ⟨by omega, by omega⟩
/-- What the steps do to the numbers themselves. -/
theorem Stp.all {odd : Bool} {a0 b0 a1 b1 HA HB hA hB P la lb : Nat} (h : Stp odd a0 b0 a1 b1 HA HB hA hB) (hc : Coll a0 b0 a1 b1 hA hB) (hla : la < P) (hlb : lb < P) :
    ∃ a' b', Cmb odd a0 b0 a1 b1 (HA * P + la) (HB * P + lb) a' b' ∧ b' < a' ∧ a' ≤ HB * P + lb ∧ Nat.gcd a' b' = Nat.gcd (HA * P + la) (HB * P + lb) := by
  obtain ⟨a', b', hcm, hle⟩ := cmb_all h.cmb hla hlb hc.c0 h.i1 hc.c3 hc.c4
  have hg := gcd_of h.det hcm
  have hbk := bak_of h.det hcm
  have m1 : 1 * a' ≤ a1 * a' := Nat.mul_le_mul_right _ hc.c2
  refine ⟨a', b', hcm, ?_, by rw [hbk.2]; omega, hg⟩
  have c1 := hc.c1
  have c4 := hc.c4
  have n2 : b0 * lb + b0 ≤ b0 * P := by rw [← Nat.mul_succ]; exact Nat.mul_le_mul_left _ hlb
  have n2' : b1 * lb ≤ b1 * P := Nat.mul_le_mul_left _ (by omega)
  have n3 : a0 * la ≤ b0 * la := Nat.mul_le_mul_right _ hc.c0
  have n4 : b0 * la + b0 ≤ b0 * P := by rw [← Nat.mul_succ]; exact Nat.mul_le_mul_left _ hla
  have n5 : a1 * la ≤ b1 * la := Nat.mul_le_mul_right _ h.i1
  have n6 : b1 * la ≤ b1 * P := Nat.mul_le_mul_left _ (by omega)
  have m8 : (b0 + b1 + hB) * P ≤ hA * P := Nat.mul_le_mul_right _ c4
  rw [Nat.add_mul, Nat.add_mul] at m8
  have hcb := h.cmb
  cases odd
  · simp only [Cmb, Bool.false_eq_true, if_false] at hcb hcm
    obtain ⟨e1, e2⟩ := hcb
    obtain ⟨g1, g2⟩ := hcm
    have f1 : a0 * (HA * P + la) = b0 * (HB * P) + hA * P + a0 * la := by grind
    have f2 : b1 * (HB * P + lb) = a1 * (HA * P) + hB * P + b1 * lb := by grind
    rw [f1, Nat.mul_add] at g1
    rw [f2, Nat.mul_add] at g2
    omega
  · simp only [Cmb, if_true] at hcb hcm
    obtain ⟨e1, e2⟩ := hcb
    obtain ⟨g1, g2⟩ := hcm
    have f1 : b0 * (HB * P + lb) = a0 * (HA * P) + hA * P + b0 * lb := by grind
    have f2 : a1 * (HA * P + la) = b1 * (HB * P) + hB * P + a1 * la := by grind
    rw [f1, Nat.mul_add] at g1
    rw [f2, Nat.mul_add] at g2
    omega
/-- The highest 64 bits from a place on. -/
theorem win_bits {n h l r p s : Nat} (hn : n = (h * 18446744073709551616 + l) * p + r) (hr : r < p) (hs : s < 64) (hl : l < 18446744073709551616) (hh : h * 2 ^ s < 18446744073709551616) :
    (h * 2 ^ s ||| l / 2 ^ (64 - s)) = n / (p * 2 ^ (64 - s)) ∧ n / (p * 2 ^ (64 - s)) < 18446744073709551616 := by
  have hp2 : 0 < 2 ^ (64 - s) := Nat.pow_pos (by decide)
  have hp : 0 < p := by omega
  have e1 : l / 2 ^ (64 - s) = l * 2 ^ s / 18446744073709551616 := (shr_is hs).symm
  have e2 : l * 2 ^ s / 18446744073709551616 < 2 ^ s := shl_high hl
  have a1 : (h * 2 ^ s ||| l / 2 ^ (64 - s)) = h * 2 ^ s + l / 2 ^ (64 - s) := by
    rw [e1, Nat.or_comm, Nat.mul_comm h, or_add e2]; omega
  have a2 : n / p = h * 18446744073709551616 + l := by
    rw [hn, Nat.mul_comm _ p, Nat.mul_add_div hp, Nat.div_eq_of_lt hr, Nat.add_zero]
  have a3 : n / (p * 2 ^ (64 - s)) = h * 2 ^ s + l / 2 ^ (64 - s) := by
    rw [← Nat.div_div_eq_div_mul, a2, ← pow_split hs, show h * (2 ^ (64 - s) * 2 ^ s) + l = 2 ^ (64 - s) * (h * 2 ^ s) + l by grind, Nat.mul_add_div hp2]
  refine ⟨by rw [a1, a3], ?_⟩
  rw [a3, e1]
  have hd : h * 2 ^ s + 2 ^ s ≤ 18446744073709551616 := by
    rw [← pow_split hs] at hh ⊢
    have : h < 2 ^ (64 - s) := Nat.lt_of_mul_lt_mul_right hh
    have := Nat.mul_le_mul_right (2 ^ s) (show h + 1 ≤ 2 ^ (64 - s) from this)
    rw [Nat.add_mul, Nat.one_mul] at this
    exact this
  omega
end Go.Proofs.YtaibpppobblnoaaDoor
