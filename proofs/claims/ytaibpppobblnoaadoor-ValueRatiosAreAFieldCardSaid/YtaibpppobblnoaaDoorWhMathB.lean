/-
  Numbers of any size: windows of rows, shifts, and a step of the long division.
-/
import Derived.Test.YtaibpppobblnoaaDoorWhMath
namespace Go.Proofs.YtaibpppobblnoaaDoor

/-- The limbs from a place on. -/
def from_ (f : Nat → Nat) (i : Nat) : Nat → Nat := fun j => f (i + j)
theorem S_at (f : Nat → Nat) (k m : Nat) : S f (k + m) = S f k + bp k * S (from_ f k) m := S_split f k m
/-- A window of a row has changed, all else is as it was. -/
theorem S_window {f g : Nat → Nat} {i m K : Nat} (h : i + m ≤ K) (he : ∀ j, j < K → (j < i ∨ i + m ≤ j) → g j = f j) : S g K + bp i * S (from_ f i) m = S f K + bp i * S (from_ g i) m := by
  obtain ⟨d, rfl⟩ := Nat.exists_eq_add_of_le h
  rw [S_at f (i + m) d, S_at g (i + m) d, S_at f i m, S_at g i m]
  have e1 : S g i = S f i := S_congr (fun j hj => he j (by omega) (.inl hj))
  have e2 : S (from_ g (i + m)) d = S (from_ f (i + m)) d := S_congr (fun j hj => he _ (by omega) (.inr (by omega)))
  rw [e1, e2]
  omega
theorem from_from (f : Nat → Nat) (i m : Nat) : from_ (from_ f i) m = from_ f (i + m) := by
  funext j; unfold from_; rw [Nat.add_assoc]
theorem S_cons (f : Nat → Nat) (i m : Nat) : S (from_ f i) (m + 1) = f i + 18446744073709551616 * S (from_ f (i + 1)) m := by
  rw [S_front]
  have e : S (fun j => from_ f i (j + 1)) m = S (from_ f (i + 1)) m := S_congr (fun j _ => by unfold from_; rw [show i + (j + 1) = i + 1 + j by omega])
  rw [e]
  rfl
/-- A row whose value is less than n limbs has no more. -/
theorem S_high {f : Nat → Nat} {n m : Nat} (h : S f (n + m) < bp n) : S (from_ f n) m = 0 ∧ S f (n + m) = S f n := by
  rw [S_at] at h
  have hz : S (from_ f n) m = 0 := by
    rcases Nat.eq_zero_or_pos (S (from_ f n) m) with e | e
    · exact e
    · have : bp n * 1 ≤ bp n * S (from_ f n) m := Nat.mul_le_mul_left _ e
      omega
  refine ⟨hz, ?_⟩
  rw [S_at, hz]
  omega
/-! ### Shifts -/
theorem shl_step {s f g G X P : Nat} (h : G + g * P = 2 ^ s * X) : (G + (g + f * 2 ^ s % 18446744073709551616) * P) + (f * 2 ^ s / 18446744073709551616) * (P * 18446744073709551616) = 2 ^ s * (X + f * P) := by
  have hm := Nat.div_add_mod (f * 2 ^ s) 18446744073709551616
  generalize f * 2 ^ s % 18446744073709551616 = r at *
  generalize f * 2 ^ s / 18446744073709551616 = q at *
  generalize 2 ^ s = t at *
  grind
theorem pow_split {s : Nat} (h : s < 64) : 2 ^ (64 - s) * 2 ^ s = 18446744073709551616 := by
  rw [← Nat.pow_add, show 64 - s + s = 64 by omega]
theorem shl_room {s f g : Nat} (hs : s < 64) (hg : g < 2 ^ s) : g + f * 2 ^ s % 18446744073709551616 < 18446744073709551616 := by
  have e := pow_split hs
  rw [← e, Nat.mul_comm, Nat.mul_comm (2 ^ (64 - s)), Nat.mul_mod_mul_left]
  have hp : 0 < 2 ^ (64 - s) := Nat.pow_pos (by decide)
  have hr : f % 2 ^ (64 - s) < 2 ^ (64 - s) := Nat.mod_lt _ hp
  have t : 2 ^ s * (f % 2 ^ (64 - s) + 1) ≤ 2 ^ s * 2 ^ (64 - s) := Nat.mul_le_mul_left _ hr
  rw [Nat.mul_add] at t
  omega
theorem shl_high {s f : Nat} (hf : f < 18446744073709551616) : f * 2 ^ s / 18446744073709551616 < 2 ^ s := by
  refine Nat.div_lt_of_lt_mul ?_
  exact Nat.mul_lt_mul_of_pos_right hf (Nat.pow_pos (by decide))
theorem shr_is {s f : Nat} (hs : s < 64) : f * 2 ^ s / 18446744073709551616 = f / 2 ^ (64 - s) := by
  rw [← pow_split hs, Nat.mul_div_mul_right _ _ (Nat.pow_pos (by decide))]
theorem shd_low {s f : Nat} (hs : s < 64) : f * 2 ^ (64 - s) % 18446744073709551616 = f % 2 ^ s * 2 ^ (64 - s) := by
  rw [← pow_split hs, Nat.mul_comm f, Nat.mul_mod_mul_left, Nat.mul_comm]
theorem shd_step {s f G X P c : Nat} (hs : s < 64) (h : 2 ^ s * G + c = X) :
    2 ^ s * (G + f % 2 ^ s * 2 ^ (64 - s) * P + f / 2 ^ s * (P * 18446744073709551616)) + c = X + f * (P * 18446744073709551616) := by
  have e := pow_split hs
  have hm := Nat.div_add_mod f (2 ^ s)
  generalize f % 2 ^ s = r at *
  generalize f / 2 ^ s = q at *
  generalize 2 ^ (64 - s) = u at *
  generalize 2 ^ s = t at *
  grind
theorem shd_room {s f g : Nat} (hs : s < 64) (hg : g < 2 ^ (64 - s)) : g + f % 2 ^ s * 2 ^ (64 - s) < 18446744073709551616 := by
  rw [← pow_split hs]
  have hr : f % 2 ^ s < 2 ^ s := Nat.mod_lt _ (Nat.pow_pos (by decide))
  have t : (f % 2 ^ s + 1) * 2 ^ (64 - s) ≤ 2 ^ s * 2 ^ (64 - s) := Nat.mul_le_mul_right _ hr
  rw [Nat.add_mul, Nat.mul_comm (2 ^ s)] at t
  omega
theorem shd_high {s f : Nat} (hs : s < 64) (hf : f < 18446744073709551616) : f / 2 ^ s < 2 ^ (64 - s) := by
  refine Nat.div_lt_of_lt_mul ?_
  rw [Nat.mul_comm, pow_split hs]
  exact hf
theorem or_add {s g m : Nat} (hg : g < 2 ^ s) : g ||| 2 ^ s * m = g + 2 ^ s * m := by
  rw [Nat.or_comm, ← Nat.two_pow_add_eq_or_of_lt hg, Nat.add_comm]
/-! ### The long division -/
theorem long_step {A SR SR' d q P OS W W' : Nat} (h : SR + d * (P * 18446744073709551616 * OS) = A) (hw : SR' + P * W = SR + P * W') (hq : W' + q * d = W) :
    SR' + d * (P * (q + 18446744073709551616 * OS)) = A := by
  have : P * W = P * W' + P * (q * d) := by rw [← hq, Nat.mul_add]
  grind
theorem win_lt {r x d : Nat} (hr : r < 18446744073709551616) (hx : x < d) : r + 18446744073709551616 * x < 18446744073709551616 * d := by
  have : 18446744073709551616 * (x + 1) ≤ 18446744073709551616 * d := Nat.mul_le_mul_left _ hx
  omega
theorem div_unshift {a b s Q R : Nat} (h : R + b * 2 ^ s * Q = a * 2 ^ s) (hr : R < b * 2 ^ s) : Q = a / b ∧ R / 2 ^ s = a % b := by
  have hp : 0 < 2 ^ s := Nat.pow_pos (by decide)
  generalize 2 ^ s = t at *
  have hd : t ∣ R := by
    have h1 : t ∣ a * t := Nat.dvd_mul_left _ _
    rw [← h] at h1
    exact (Nat.dvd_add_left (Nat.dvd_mul_right_of_dvd (Nat.dvd_mul_left _ _) _)).1 h1
  obtain ⟨r, rfl⟩ := hd
  have e : a = r + b * Q := by
    have : t * (r + b * Q) = t * a := by grind
    exact (Nat.eq_of_mul_eq_mul_left hp this).symm
  have hb : r < b := by
    rw [Nat.mul_comm b t] at hr
    exact Nat.lt_of_mul_lt_mul_left hr
  rw [Nat.mul_div_cancel_left _ hp]
  have hb0 : 0 < b := by omega
  constructor
  · rw [e, Nat.add_mul_div_left _ _ hb0, Nat.div_eq_of_lt hb, Nat.zero_add]
  · rw [e, Nat.add_mul_mod_self_left, Nat.mod_eq_of_lt hb]
end Go.Proofs.YtaibpppobblnoaaDoor
