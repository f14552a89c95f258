/-
  Numbers of any size: the arithmetic of rows of limbs to the base 2^64.
  Numbers of any size: windows of rows, shifts, and a step of the long division.
  Decimal texts of numbers of any size: the arithmetic.
  Reading decimal texts of numbers of any size: the arithmetic.
-/
import Derived.Lib.ItoaNum
import Derived.Lib.ItoaLen
import Derived.Lib.TrimByte
namespace Go.Proofs.YtfijhkaalpinhaaGreatDoor

@[irreducible] def bp (j : Nat) : Nat := 18446744073709551616 ^ j
theorem bp_zero : bp 0 = 1 := by unfold bp; rfl
theorem bp_succ (j : Nat) : bp (j + 1) = bp j * 18446744073709551616 := by unfold bp; exact Nat.pow_succ ..
theorem bp_one : bp 1 = 18446744073709551616 := by rw [bp_succ, bp_zero]
theorem bp_pos (j : Nat) : 0 < bp j := by unfold bp; exact Nat.pow_pos (by decide)
theorem bp_add (i j : Nat) : bp (i + j) = bp i * bp j := by unfold bp; exact Nat.pow_add _ _ _
theorem bp_mono {i j : Nat} (h : i ≤ j) : bp i ≤ bp j := by
  obtain ⟨d, rfl⟩ := Nat.exists_eq_add_of_le h
  rw [bp_add]
  exact Nat.le_mul_of_pos_right _ (bp_pos d)
theorem bp_lt {i j : Nat} (h : bp i < bp j) : i < j := by
  rcases Nat.lt_or_ge i j with l | l
  · exact l
  · have := bp_mono l; omega
theorem bp_pow (j : Nat) : bp j = 18446744073709551616 ^ j := by unfold bp; rfl
/-- What k limbs are as a number. -/
def S (f : Nat → Nat) : Nat → Nat
  | 0 => 0
  | k + 1 => S f k + f k * bp k
theorem S_zero (f : Nat → Nat) : S f 0 = 0 := rfl
theorem S_succ (f : Nat → Nat) (k : Nat) : S f (k + 1) = S f k + f k * bp k := rfl
theorem S_one (f : Nat → Nat) : S f 1 = f 0 := by rw [S_succ, S_zero, bp_zero]; omega
theorem S_congr {f g : Nat → Nat} : ∀ {k}, (∀ j, j < k → f j = g j) → S f k = S g k
  | 0, _ => rfl
  | k + 1, h => by rw [S_succ, S_succ, S_congr (fun j hj => h j (by omega)), h k (by omega)]
/-- Limbs are limbs. -/
def Lb (f : Nat → Nat) (k : Nat) : Prop := ∀ j, j < k → f j < 18446744073709551616
theorem S_lt {f : Nat → Nat} : ∀ {k}, Lb f k → S f k < bp k
  | 0, _ => by rw [bp_zero]; exact Nat.zero_lt_one
  | k + 1, h => by
    have t := S_lt (f := f) (k := k) (fun j hj => h j (by omega))
    have u := h k (by omega)
    rw [S_succ, bp_succ]
    have q : f k * bp k ≤ 18446744073709551615 * bp k := Nat.mul_le_mul_right _ (by omega)
    omega
theorem S_zeros {f : Nat → Nat} : ∀ {k}, (∀ j, j < k → f j = 0) → S f k = 0
  | 0, _ => rfl
  | k + 1, h => by rw [S_succ, S_zeros (fun j hj => h j (by omega)), h k (by omega)]; omega
theorem S_split (f : Nat → Nat) (k : Nat) : ∀ m, S f (k + m) = S f k + bp k * S (fun j => f (k + j)) m
  | 0 => by simp [S]
  | m + 1 => by
    rw [← Nat.add_assoc, S_succ, S_split f k m, S_succ, bp_add, Nat.mul_add, Nat.mul_left_comm (bp k)]
    omega
theorem S_front (f : Nat → Nat) (m : Nat) : S f (m + 1) = f 0 + 18446744073709551616 * S (fun j => f (j + 1)) m := by
  have h := S_split f 1 m
  rw [S_one, bp_one, Nat.add_comm 1 m] at h
  rw [h]
  have e : S (fun j => f (1 + j)) m = S (fun j => f (j + 1)) m := S_congr (fun j _ => by rw [Nat.add_comm])
  rw [e]
theorem S_ge {f : Nat → Nat} {k : Nat} (h : f k ≠ 0) : bp k ≤ S f (k + 1) := by
  rw [S_succ]
  have : 1 * bp k ≤ f k * bp k := Nat.mul_le_mul_right _ (by omega)
  omega
/-- No needless zeros. -/
def Top (f : Nat → Nat) (k : Nat) : Prop := k = 0 ∨ f (k - 1) ≠ 0
theorem top_ge {f : Nat → Nat} {k : Nat} (h : Top f k) (hk : 0 < k) : bp (k - 1) ≤ S f k := by
  obtain ⟨m, rfl⟩ : ∃ m, k = m + 1 := ⟨k - 1, by omega⟩
  rcases h with h | h
  · omega
  · exact S_ge (by simpa using h)
theorem top_len {f : Nat → Nat} {k K : Nat} (h : Top f k) (hn : S f k < bp K) : k ≤ K := by
  rcases Nat.eq_zero_or_pos k with e | e
  · omega
  · have := bp_lt (Nat.lt_of_le_of_lt (top_ge h e) hn)
    omega
theorem top_zero {f : Nat → Nat} {k : Nat} (h : Top f k) (hn : S f k = 0) : k = 0 := by
  rcases Nat.eq_zero_or_pos k with e | e
  · exact e
  · have := top_ge h e; have := bp_pos (k - 1); omega
theorem len_lt {f g : Nat → Nat} {k m : Nat} (hf : Lb f k) (hg : Top g m) (h : k < m) : S f k < S g m := by
  have a := S_lt hf
  have b := top_ge hg (by omega)
  have c := bp_mono (show k ≤ m - 1 by omega)
  omega
/-- Numbers of equally many limbs differ as their highest limb that differs. -/
theorem cmp_lt {f g : Nat → Nat} {k i : Nat} (hf : Lb f k) (hi : i < k) (hlt : f i < g i) (he : ∀ j, i < j → j < k → f j = g j) : S f k < S g k := by
  obtain ⟨m, rfl⟩ := Nat.exists_eq_add_of_lt hi
  rw [show i + m + 1 = (i + 1) + m by omega, S_split f (i + 1) m, S_split g (i + 1) m]
  have e : S (fun j => f (i + 1 + j)) m = S (fun j => g (i + 1 + j)) m := S_congr (fun j hj => he _ (by omega) (by omega))
  rw [e, S_succ, S_succ]
  have a := S_lt (f := f) (k := i) (fun j hj => hf j (by omega))
  have b : (f i + 1) * bp i ≤ g i * bp i := Nat.mul_le_mul_right _ (by omega)
  rw [Nat.add_mul, Nat.one_mul] at b
  omega
theorem S_inj {f g : Nat → Nat} : ∀ {k}, Lb f k → Lb g k → S f k = S g k → ∀ j, j < k → f j = g j
  | 0, _, _, _ => fun j hj => by omega
  | k + 1, hf, hg, h => by
    have a := S_lt (f := f) (k := k) (fun j hj => hf j (by omega))
    have b := S_lt (f := g) (k := k) (fun j hj => hg j (by omega))
    rw [S_succ, S_succ] at h
    have e : f k = g k := by
      rcases Nat.lt_trichotomy (f k) (g k) with l | l | l
      · have : (f k + 1) * bp k ≤ g k * bp k := Nat.mul_le_mul_right _ (by omega)
        rw [Nat.add_mul, Nat.one_mul] at this
        omega
      · exact l
      · have : (g k + 1) * bp k ≤ f k * bp k := Nat.mul_le_mul_right _ (by omega)
        rw [Nat.add_mul, Nat.one_mul] at this
        omega
    rw [e] at h
    intro j hj
    by_cases ej : j = k
    · rw [ej, e]
    · exact S_inj (f := f) (g := g) (k := k) (fun j hj => hf j (by omega)) (fun j hj => hg j (by omega)) (by omega) j (by omega)
theorem step_add {P G X Y c x y s c' : Nat} (h : G + c * P = X + Y) (h2 : x + y + c = s + c' * 18446744073709551616) :
    (G + s * P) + c' * (P * 18446744073709551616) = (X + x * P) + (Y + y * P) := by grind
theorem step_mul {P G X c x f s c' : Nat} {m0 : Nat} (h : G + c * P = f * X + m0) (h2 : x * f + c = s + c' * 18446744073709551616) :
    (G + s * P) + c' * (P * 18446744073709551616) = f * (X + x * P) + m0 := by grind
theorem step_addmul {P G X Y c x y f s c' : Nat} (h : G + c * P = Y + f * X) (h2 : x * f + c + y = s + c' * 18446744073709551616) :
    (G + s * P) + c' * (P * 18446744073709551616) = (Y + y * P) + f * (X + x * P) := by grind
theorem step_submul {P G X Y c x y f s c' : Nat} (h : G + f * X = Y + c * P) (h2 : s + (x * f + c) = y + c' * 18446744073709551616) :
    (G + s * P) + f * (X + x * P) = (Y + y * P) + c' * (P * 18446744073709551616) := by grind
theorem step_sub {P G X Y c x y s c' : Nat} (h : G + X = Y + c * P) (h2 : s + (x + c) = y + c' * 18446744073709551616) :
    (G + s * P) + (X + x * P) = (Y + y * P) + c' * (P * 18446744073709551616) := by grind
/-- One limb of a row is another one. -/
def put (f : Nat → Nat) (i x : Nat) : Nat → Nat := fun j => if j = i then x else f j
theorem put_same (f : Nat → Nat) (i x : Nat) : put f i x i = x := by unfold put; rw [if_pos rfl]
theorem put_ne {f : Nat → Nat} {i x j : Nat} (h : j ≠ i) : put f i x j = f j := by unfold put; rw [if_neg h]
theorem S_put {f : Nat → Nat} {i x : Nat} : S (put f i x) (i + 1) = S f i + x * bp i := by
  rw [S_succ, put_same, S_congr (fun j hj => put_ne (by omega))]
theorem S_put_low {f : Nat → Nat} {i x k : Nat} (h : k ≤ i) : S (put f i x) k = S f k := S_congr (fun j hj => put_ne (by omega))
theorem lb_put {f : Nat → Nat} {i x k : Nat} (h : Lb f k) (hx : x < 18446744073709551616) : Lb (put f i x) k := fun j hj => by
  unfold put
  split
  · exact hx
  · exact h j hj
/-! ### Dividing by two halves -/
theorem half_step {q y u yn0 yn1 rhat un32 un1 : Nat} (hy : y = yn1 * 4294967296 + yn0) (hu : u = un32 * 4294967296 + un1) (h1 : un1 < 4294967296) (h32 : un32 < y) (hq : q * yn1 + rhat = un32)
    (ht : 4294967296 ≤ q ∨ 4294967296 * rhat + un1 < q * yn0) : u < q * y := by
  rcases ht with h | h
  · have a : 4294967296 * y ≤ q * y := Nat.mul_le_mul_right _ h
    omega
  · have e : q * y = q * yn1 * 4294967296 + q * yn0 := by rw [hy, Nat.mul_add, Nat.mul_assoc]
    rw [e, hu]
    omega
theorem half_done {q y u yn0 yn1 rhat un32 un1 : Nat} (hy : y = yn1 * 4294967296 + yn0) (hu : u = un32 * 4294967296 + un1) (hq : q * yn1 + rhat = un32)
    (ht : q * yn0 ≤ 4294967296 * rhat + un1) : q * y ≤ u := by
  have e : q * y = q * yn1 * 4294967296 + q * yn0 := by rw [hy, Nat.mul_add, Nat.mul_assoc]
  rw [e, hu]
  omega
theorem half_break {q y yn0 yn1 rhat un32 un1 : Nat} (hy : y = yn1 * 4294967296 + yn0) (h0 : yn0 < 4294967296) (h32 : un32 < y) (hq : q * yn1 + rhat = un32) (hr : 4294967296 ≤ rhat) :
    q * yn0 ≤ 4294967296 * rhat + un1 := by
  have a : q < 4294967296 := by
    rcases Nat.lt_or_ge q 4294967296 with l | l
    · exact l
    · have : 4294967296 * yn1 ≤ q * yn1 := Nat.mul_le_mul_right _ l
      omega
  have b : q * yn0 ≤ 4294967296 * yn0 := Nat.mul_le_mul_right _ (by omega)
  omega
theorem half_init {y u yn0 yn1 un32 un1 : Nat} (hy : y = yn1 * 4294967296 + yn0) (hu : u = un32 * 4294967296 + un1) (h1 : un1 < 4294967296) (hp : 0 < yn1) : u < (un32 / yn1 + 1) * y := by
  have a := Nat.lt_mul_div_succ un32 hp
  rw [Nat.mul_comm] at a
  have e : (un32 / yn1 + 1) * y = (un32 / yn1 + 1) * yn1 * 4294967296 + (un32 / yn1 + 1) * yn0 := by rw [hy, Nat.mul_add, Nat.mul_assoc]
  rw [e, hu]
  omega
/-! ### A guess of a limb -/
theorem guess_ok {W d high low rest top d' P Qn : Nat} (hW : W = (high * 18446744073709551616 + low) * P + rest) (hr : rest < P) (hd : d = top * P + d') (hlt : W < 18446744073709551616 * d)
    (hg : (top ≤ high ∧ Qn = 18446744073709551616) ∨ high * 18446744073709551616 + low < Qn * top) : W < Qn * d := by
  rcases hg with ⟨_, h⟩ | h
  · rw [h]; exact hlt
  · have a : (high * 18446744073709551616 + low + 1) * P ≤ Qn * top * P := Nat.mul_le_mul_right _ h
    rw [Nat.add_mul, Nat.one_mul] at a
    have e : Qn * d = Qn * top * P + Qn * d' := by rw [hd, Nat.mul_add, Nat.mul_assoc]
    rw [e, hW]
    omega
/-! ### Steps of Euclid's algorithm at once -/
/-- What the coefficients do to two numbers. -/
def Cmb (odd : Bool) (a0 b0 a1 b1 a b a' b' : Nat) : Prop :=
  if odd then b0 * b = a0 * a + a' ∧ a1 * a = b1 * b + b' else a0 * a = b0 * b + a' ∧ b1 * b = a1 * a + b'
theorem cmb_step {odd : Bool} {a0 b0 a1 b1 A B hA hB : Nat} (h : Cmb odd a0 b0 a1 b1 A B hA hB) : Cmb (!odd) a1 b1 (a0 + hA / hB * a1) (b0 + hA / hB * b1) A B hB (hA % hB) := by
  have hd := Nat.div_add_mod hA hB
  generalize hA / hB = q at *
  generalize hA % hB = r at *
  cases odd
  · simp only [Cmb, Bool.false_eq_true, if_false, Bool.not_false, if_true] at h ⊢
    obtain ⟨h1, h2⟩ := h
    exact ⟨h2, by grind⟩
  · simp only [Cmb, if_true, Bool.not_true, Bool.false_eq_true, if_false] at h ⊢
    obtain ⟨h1, h2⟩ := h
    exact ⟨h2, by grind⟩
/-- The way back. -/
def Bak (a0 b0 a1 b1 a b a' b' : Nat) : Prop := a = b1 * a' + b0 * b' ∧ b = a1 * a' + a0 * b'
theorem bak_step {a0 b0 a1 b1 A B hA hB : Nat} (h : Bak a0 b0 a1 b1 A B hA hB) : Bak a1 b1 (a0 + hA / hB * a1) (b0 + hA / hB * b1) A B hB (hA % hB) := by
  have hd := Nat.div_add_mod hA hB
  obtain ⟨h1, h2⟩ := h
  generalize hA / hB = q at *
  generalize hA % hB = r at *
  exact ⟨by grind, by grind⟩
def Det (odd : Bool) (a0 b0 a1 b1 : Nat) : Prop := if odd then b0 * a1 = a0 * b1 + 1 else a0 * b1 = b0 * a1 + 1
theorem det_step {odd : Bool} {a0 b0 a1 b1 : Nat} (q : Nat) (h : Det odd a0 b0 a1 b1) : Det (!odd) a1 b1 (a0 + q * a1) (b0 + q * b1) := by
  cases odd
  · simp only [Det, Bool.false_eq_true, if_false, Bool.not_false, if_true] at h ⊢
    grind
  · simp only [Det, if_true, Bool.not_true, Bool.false_eq_true, if_false] at h ⊢
    grind
theorem bak_of {odd : Bool} {a0 b0 a1 b1 a b a' b' : Nat} (hd : Det odd a0 b0 a1 b1) (h : Cmb odd a0 b0 a1 b1 a b a' b') : Bak a0 b0 a1 b1 a b a' b' := by
  cases odd
  · simp only [Cmb, Det, Bool.false_eq_true, if_false] at h hd
    obtain ⟨h1, h2⟩ := h
    exact ⟨by grind, by grind⟩
  · simp only [Cmb, Det, if_true] at h hd
    obtain ⟨h1, h2⟩ := h
    exact ⟨by grind, by grind⟩
theorem gcd_of {odd : Bool} {a0 b0 a1 b1 a b a' b' : Nat} (hd : Det odd a0 b0 a1 b1) (h : Cmb odd a0 b0 a1 b1 a b a' b') : Nat.gcd a' b' = Nat.gcd a b := by
  obtain ⟨e1, e2⟩ := bak_of hd h
  refine Nat.dvd_antisymm (Nat.dvd_gcd ?_ ?_) (Nat.dvd_gcd ?_ ?_)
  · rw [e1]; exact Nat.dvd_add (Nat.dvd_mul_left_of_dvd (Nat.gcd_dvd_left _ _) _) (Nat.dvd_mul_left_of_dvd (Nat.gcd_dvd_right _ _) _)
  · rw [e2]; exact Nat.dvd_add (Nat.dvd_mul_left_of_dvd (Nat.gcd_dvd_left _ _) _) (Nat.dvd_mul_left_of_dvd (Nat.gcd_dvd_right _ _) _)
  · have da := Nat.gcd_dvd_left a b
    have db := Nat.gcd_dvd_right a b
    cases odd
    · simp only [Cmb, Bool.false_eq_true, if_false] at h
      have t : Nat.gcd a b ∣ b0 * b + a' := by rw [← h.1]; exact Nat.dvd_mul_left_of_dvd da _
      exact (Nat.dvd_add_right (Nat.dvd_mul_left_of_dvd db _)).1 t
    · simp only [Cmb, if_true] at h
      have t : Nat.gcd a b ∣ a0 * a + a' := by rw [← h.1]; exact Nat.dvd_mul_left_of_dvd db _
      exact (Nat.dvd_add_right (Nat.dvd_mul_left_of_dvd da _)).1 t
  · have da := Nat.gcd_dvd_left a b
    have db := Nat.gcd_dvd_right a b
    cases odd
    · simp only [Cmb, Bool.false_eq_true, if_false] at h
      have t : Nat.gcd a b ∣ a1 * a + b' := by rw [← h.2]; exact Nat.dvd_mul_left_of_dvd db _
      exact (Nat.dvd_add_right (Nat.dvd_mul_left_of_dvd da _)).1 t
    · simp only [Cmb, if_true] at h
      have t : Nat.gcd a b ∣ b1 * b + b' := by rw [← h.2]; exact Nat.dvd_mul_left_of_dvd da _
      exact (Nat.dvd_add_right (Nat.dvd_mul_left_of_dvd db _)).1 t
/-- The coefficients of the highest bits do for the numbers too, where the condition of Collins holds. -/
theorem cmb_all {odd : Bool} {a0 b0 a1 b1 HA HB hA hB P la lb : Nat} (h : Cmb odd a0 b0 a1 b1 HA HB hA hB) (hla : la < P) (hlb : lb < P) (h0 : a0 ≤ b0) (h1 : a1 ≤ b1) (c1 : b1 ≤ hB) (c2 : b0 + b1 + hB ≤ hA) :
    ∃ a' b', Cmb odd a0 b0 a1 b1 (HA * P + la) (HB * P + lb) a' b' ∧ b' ≤ a' := by
  have m1 : b0 * lb ≤ b0 * P := Nat.mul_le_mul_left _ (by omega)
  have m2 : b1 * lb ≤ b1 * P := Nat.mul_le_mul_left _ (by omega)
  have m3 : a0 * la ≤ a0 * P := Nat.mul_le_mul_left _ (by omega)
  have m4 : a1 * la ≤ a1 * P := Nat.mul_le_mul_left _ (by omega)
  have m5 : a0 * P ≤ b0 * P := Nat.mul_le_mul_right _ h0
  have m6 : a1 * P ≤ b1 * P := Nat.mul_le_mul_right _ h1
  have m7 : b1 * P ≤ hB * P := Nat.mul_le_mul_right _ c1
  have m8 : (b0 + b1 + hB) * P ≤ hA * P := Nat.mul_le_mul_right _ c2
  rw [Nat.add_mul, Nat.add_mul] at m8
  cases odd
  · simp only [Cmb, Bool.false_eq_true, if_false] at h ⊢
    obtain ⟨e1, e2⟩ := h
    have f1 : a0 * (HA * P + la) = b0 * (HB * P) + hA * P + a0 * la := by grind
    have f2 : b1 * (HB * P + lb) = a1 * (HA * P) + hB * P + b1 * lb := by grind
    refine ⟨hA * P + a0 * la - b0 * lb, hB * P + b1 * lb - a1 * la, ⟨?_, ?_⟩, ?_⟩
    · rw [f1, Nat.mul_add]; omega
    · rw [f2, Nat.mul_add]; omega
    · omega
  · simp only [Cmb, if_true] at h ⊢
    obtain ⟨e1, e2⟩ := h
    have f1 : b0 * (HB * P + lb) = a0 * (HA * P) + hA * P + b0 * lb := by grind
    have f2 : a1 * (HA * P + la) = b1 * (HB * P) + hB * P + a1 * la := by grind
    refine ⟨hA * P + b0 * lb - a0 * la, hB * P + a1 * la - b1 * lb, ⟨?_, ?_⟩, ?_⟩
    · rw [f1, Nat.mul_add]; omega
    · rw [f2, Nat.mul_add]; omega
    · omega
end Go.Proofs.YtfijhkaalpinhaaGreatDoor
namespace Go.Proofs.YtfijhkaalpinhaaGreatDoor

/-- The limbs from a place on. -/
def from_ (f : Nat → Nat) (i : Nat) : Nat → Nat := fun j => f (i + j)
theorem S_at (f : Nat → Nat) (k m : Nat) : S f (k + m) = S f k + bp k * S (from_ f k) m := S_split f k m
/-- A window of a row has changed, all else is as it was. -/
theorem S_window {f g : Nat → Nat} {i m K : Nat} (h : i + m ≤ K) (he : ∀ j, j < K → (j < i ∨ i + m ≤ j) → g j = f j) : S g K + bp i * S (from_ f i) m = S f K + bp i * S (from_ g i) m := by
  obtain ⟨d, rfl⟩ := Nat.exists_eq_add_of_le h
  rw [S_at f (i + m) d, S_at g (i + m) d, S_at f i m, S_at g i m]
  have e1 : S g i = S f i := S_congr (fun j hj => he j (by omega) (.inl hj))
  have e2 : S (from_ g (i + m)) d = S (from_ f (i + m)) d := S_congr (fun j hj => he _ (by omega) (.inr (by omega)))
  rw [e1, e2]
  omega
theorem from_from (f : Nat → Nat) (i m : Nat) : from_ (from_ f i) m = from_ f (i + m) := by
  funext j; unfold from_; rw [Nat.add_assoc]
theorem S_cons (f : Nat → Nat) (i m : Nat) : S (from_ f i) (m + 1) = f i + 18446744073709551616 * S (from_ f (i + 1)) m := by
  rw [S_front]
  have e : S (fun j => from_ f i (j + 1)) m = S (from_ f (i + 1)) m := S_congr (fun j _ => by unfold from_; rw [show i + (j + 1) = i + 1 + j by omega])
  rw [e]
  rfl
/-- A row whose value is less than n limbs has no more. -/
theorem S_high {f : Nat → Nat} {n m : Nat} (h : S f (n + m) < bp n) : S (from_ f n) m = 0 ∧ S f (n + m) = S f n := by
  rw [S_at] at h
  have hz : S (from_ f n) m = 0 := by
    rcases Nat.eq_zero_or_pos (S (from_ f n) m) with e | e
    · exact e
    · have : bp n * 1 ≤ bp n * S (from_ f n) m := Nat.mul_le_mul_left _ e
      omega
  refine ⟨hz, ?_⟩
  rw [S_at, hz]
  omega
/-! ### Shifts -/
theorem shl_step {s f g G X P : Nat} (h : G + g * P = 2 ^ s * X) : (G + (g + f * 2 ^ s % 18446744073709551616) * P) + (f * 2 ^ s / 18446744073709551616) * (P * 18446744073709551616) = 2 ^ s * (X + f * P) := by
  have hm := Nat.div_add_mod (f * 2 ^ s) 18446744073709551616
  generalize f * 2 ^ s % 18446744073709551616 = r at *
  generalize f * 2 ^ s / 18446744073709551616 = q at *
  generalize 2 ^ s = t at *
  grind
theorem pow_split {s : Nat} (h : s < 64) : 2 ^ (64 - s) * 2 ^ s = 18446744073709551616 := by
  rw [← Nat.pow_add, show 64 - s + s = 64 by omega]
theorem shl_room {s f g : Nat} (hs : s < 64) (hg : g < 2 ^ s) : g + f * 2 ^ s % 18446744073709551616 < 18446744073709551616 := by
  have e := pow_split hs
  rw [← e, Nat.mul_comm, Nat.mul_comm (2 ^ (64 - s)), Nat.mul_mod_mul_left]
  have hp : 0 < 2 ^ (64 - s) := Nat.pow_pos (by decide)
  have hr : f % 2 ^ (64 - s) < 2 ^ (64 - s) := Nat.mod_lt _ hp
  have t : 2 ^ s * (f % 2 ^ (64 - s) + 1) ≤ 2 ^ s * 2 ^ (64 - s) := Nat.mul_le_mul_left _ hr
  rw [Nat.mul_add] at t
  omega
theorem shl_high {s f : Nat} (hf : f < 18446744073709551616) : f * 2 ^ s / 18446744073709551616 < 2 ^ s := by
  refine Nat.div_lt_of_lt_mul ?_
  exact Nat.mul_lt_mul_of_pos_right hf (Nat.pow_pos (by decide))
theorem shr_is {s f : Nat} (hs : s < 64) : f * 2 ^ s / 18446744073709551616 = f / 2 ^ (64 - s) := by
  rw [← pow_split hs, Nat.mul_div_mul_right _ _ (Nat.pow_pos (by decide))]
theorem shd_low {s f : Nat} (hs : s < 64) : f * 2 ^ (64 - s) % 18446744073709551616 = f % 2 ^ s * 2 ^ (64 - s) := by
  rw [← pow_split hs, Nat.mul_comm f, Nat.mul_mod_mul_left, Nat.mul_comm]
theorem shd_step {s f G X P c : Nat} (hs : s < 64) (h : 2 ^ s * G + c = X) :
    2 ^ s * (G + f % 2 ^ s * 2 ^ (64 - s) * P + f / 2 ^ s * (P * 18446744073709551616)) + c = X + f * (P * 18446744073709551616) := by
  have e := pow_split hs
  have hm := Nat.div_add_mod f (2 ^ s)
  generalize f % 2 ^ s = r at *
  generalize f / 2 ^ s = q at *
  generalize 2 ^ (64 - s) = u at *
  generalize 2 ^ s = t at *
  grind
theorem shd_room {s f g : Nat} (hs : s < 64) (hg : g < 2 ^ (64 - s)) : g + f % 2 ^ s * 2 ^ (64 - s) < 18446744073709551616 := by
  rw [← pow_split hs]
  have hr : f % 2 ^ s < 2 ^ s := Nat.mod_lt _ (Nat.pow_pos (by decide))
  have t : (f % 2 ^ s + 1) * 2 ^ (64 - s) ≤ 2 ^ s * 2 ^ (64 - s) := Nat.mul_le_mul_right _ hr
  rw [Nat.add_mul, Nat.mul_comm (2 ^ s)] at t
  omega
theorem shd_high {s f : Nat} (hs : s < 64) (hf : f < 18446744073709551616) : f / 2 ^ s < 2 ^ (64 - s) := by
  refine Nat.div_lt_of_lt_mul ?_
  rw [Nat.mul_comm, pow_split hs]
  exact hf
theorem or_add {s g m : Nat} (hg : g < 2 ^ s) : g ||| 2 ^ s * m = g + 2 ^ s * m := by
  rw [Nat.or_comm, ← Nat.two_pow_add_eq_or_of_lt hg, Nat.add_comm]
/-! ### The long division -/
theorem long_step {A SR SR' d q P OS W W' : Nat} (h : SR + d * (P * 18446744073709551616 * OS) = A) (hw : SR' + P * W = SR + P * W') (hq : W' + q * d = W) :
    SR' + d * (P * (q + 18446744073709551616 * OS)) = A := by
  have : P * W = P * W' + P * (q * d) := by rw [← hq, Nat.mul_add]
  grind
theorem win_lt {r x d : Nat} (hr : r < 18446744073709551616) (hx : x < d) : r + 18446744073709551616 * x < 18446744073709551616 * d := by
  have : 18446744073709551616 * (x + 1) ≤ 18446744073709551616 * d := Nat.mul_le_mul_left _ hx
  omega
theorem div_unshift {a b s Q R : Nat} (h : R + b * 2 ^ s * Q = a * 2 ^ s) (hr : R < b * 2 ^ s) : Q = a / b ∧ R / 2 ^ s = a % b := by
  have hp : 0 < 2 ^ s := Nat.pow_pos (by decide)
  generalize 2 ^ s = t at *
  have hd : t ∣ R := by
    have h1 : t ∣ a * t := Nat.dvd_mul_left _ _
    rw [← h] at h1
    exact (Nat.dvd_add_left (Nat.dvd_mul_right_of_dvd (Nat.dvd_mul_left _ _) _)).1 h1
  obtain ⟨r, rfl⟩ := hd
  have e : a = r + b * Q := by
    have : t * (r + b * Q) = t * a := by grind
    exact (Nat.eq_of_mul_eq_mul_left hp this).symm
  have hb : r < b := by
    rw [Nat.mul_comm b t] at hr
    exact Nat.lt_of_mul_lt_mul_left hr
  rw [Nat.mul_div_cancel_left _ hp]
  have hb0 : 0 < b := by omega
  constructor
  · rw [e, Nat.add_mul_div_left _ _ hb0, Nat.div_eq_of_lt hb, Nat.zero_add]
  · rw [e, Nat.add_mul_mod_self_left, Nat.mod_eq_of_lt hb]
end Go.Proofs.YtfijhkaalpinhaaGreatDoor
namespace Go.Proofs.YtfijhkaalpinhaaGreatDoor

/-! ### The numeral with zeros ahead of it -/
def padL (m n : Nat) : List UInt8 := (List.range m).map fun i => UInt8.ofNat (48 + n / 10 ^ (m - 1 - i) % 10)
theorem padL_succ (m n : Nat) : padL (m + 1) n = padL m (n / 10) ++ [UInt8.ofNat (48 + n % 10)] := by
  unfold padL
  rw [List.range_succ, List.map_append]
  congr 1
  · refine List.map_congr_left fun i hi => ?_
    have hi := List.mem_range.1 hi
    have e : m + 1 - 1 - i = (m - 1 - i) + 1 := by omega
    rw [e, Nat.pow_succ, Nat.mul_comm, ← Nat.div_div_eq_div_mul]
  · simp
theorem padL_length (m n : Nat) : (padL m n).length = m := by simp [padL]
theorem padL_add (a : Nat) : ∀ b n : Nat, padL (a + b) n = padL a (n / 10 ^ b) ++ padL b (n % 10 ^ b)
  | 0, n => by simp [padL]
  | b + 1, n => by
    have hp : 0 < 10 ^ b := Nat.pow_pos (by decide)
    have e1 : n / 10 / 10 ^ b = n / 10 ^ (b + 1) := by rw [Nat.pow_succ, Nat.mul_comm, Nat.div_div_eq_div_mul]
    have e2 : n % 10 ^ (b + 1) / 10 = n / 10 % 10 ^ b := by rw [Nat.pow_succ, Nat.mul_comm, Nat.mod_mul_right_div_self]
    have e3 : n % 10 ^ (b + 1) % 10 = n % 10 := by rw [Nat.pow_succ, Nat.mod_mul_left_mod]
    rw [← Nat.add_assoc, padL_succ, padL_add a b (n / 10), padL_succ, e1, e2, e3, List.append_assoc]
theorem padL_zero (m : Nat) : (padL m 0).dropWhile (· == 48) = [] := by
  induction m with
  | zero => rfl
  | succ m ih => rw [padL_succ, Nat.zero_div, List.dropWhile_append, ih]; rfl
theorem decDigits_ne (n : Nat) : Lib.decDigits n ≠ [] := by
  intro h
  have := Lib.decDigits_length n
  rw [h] at this
  have := Lib.nDigits_pos n
  simp at *
  omega
theorem digit_ne {d : Nat} (h0 : 0 < d) (h9 : d < 10) : (UInt8.ofNat (48 + d) == 48) = false := by
  match d, h0, h9 with
  | 1, _, _ => rfl
  | 2, _, _ => rfl
  | 3, _, _ => rfl
  | 4, _, _ => rfl
  | 5, _, _ => rfl
  | 6, _, _ => rfl
  | 7, _, _ => rfl
  | 8, _, _ => rfl
  | 9, _, _ => rfl
theorem trim_padL (m : Nat) : ∀ n : Nat, 0 < n → n < 10 ^ m → (padL m n).dropWhile (· == 48) = Lib.decDigits n := by
  induction m with
  | zero => intro n h0 h1; simp at h1; omega
  | succ m ih =>
    intro n h0 h1
    rw [padL_succ, List.dropWhile_append]
    by_cases h : n < 10
    · have e : n / 10 = 0 := by omega
      have e' : n % 10 = n := by omega
      rw [e, padL_zero, e', Lib.decDigits_one h]
      rw [if_pos (show ([] : List UInt8).isEmpty = true from rfl), List.dropWhile_cons_of_neg (by rw [digit_ne h0 h]; simp)]
    · rw [ih (n / 10) (by omega) (by rw [Nat.pow_succ] at h1; omega)]
      have hne := decDigits_ne (n / 10)
      rw [if_neg (by simpa [List.isEmpty_iff] using hne)]
      rw [Lib.decDigits.eq_def n, dif_neg h]
/-! ### Chunks of 19 digits -/
@[irreducible] def ch : Nat := 10000000000000000000
theorem ch_is : ch = 10000000000000000000 := by unfold ch; rfl
theorem ch_pow : ch = 10 ^ 19 := by rw [ch_is]
/-- The chunk number j of a number. -/
def chunk (n j : Nat) : Nat := n / ch ^ j % ch
theorem ch_pos (j : Nat) : 0 < ch ^ j := Nat.pow_pos (by rw [ch_is]; decide)
theorem chunk_lt (n j : Nat) : chunk n j < 10000000000000000000 := by unfold chunk; rw [← ch_is]; exact Nat.mod_lt _ (by rw [ch_is]; decide)
theorem chunk_next (n j : Nat) : n / ch ^ j / ch = n / ch ^ (j + 1) := by rw [Nat.pow_succ, Nat.div_div_eq_div_mul]
theorem padL_chunk (n j t : Nat) : padL (19 * t) (n / ch ^ (j + 1)) ++ padL 19 (chunk n j) = padL (19 * (t + 1)) (n / ch ^ j) := by
  rw [show 19 * (t + 1) = 19 * t + 19 by omega, padL_add, ← ch_pow, chunk_next]
  rfl
theorem chunks_few {n K j : Nat} (hn : n < bp K) (hj : 0 < n / ch ^ j) : j < 2 * K := by
  rcases Nat.lt_or_ge j (2 * K) with l | l
  · exact l
  · exfalso
    have h1 : ch ^ j ≤ n := by
      rcases Nat.lt_or_ge n (ch ^ j) with q | q
      · rw [Nat.div_eq_of_lt q] at hj; omega
      · exact q
    have h2 : ch ^ (2 * K) ≤ ch ^ j := Nat.pow_le_pow_right (by rw [ch_is]; decide) l
    have h3 : bp K ≤ ch ^ (2 * K) := by
      rw [Nat.pow_mul, bp_pow]
      exact Nat.pow_le_pow_left (by rw [ch_is]; decide) K
    omega
theorem zero_next {n m : Nat} (h : n / ch ^ m = 0) : n < 10 ^ (19 * m) := by
  rw [Nat.pow_mul, ← ch_pow]
  exact (Nat.div_eq_zero_iff.1 h).resolve_left (by have := ch_pos m; omega)
/-! ### The digits of a chunk -/
def pw (i : Nat) : Nat := 1000000000000000000 / 10 ^ i
theorem pw_succ (i : Nat) : pw (i + 1) = pw i / 10 := by unfold pw; rw [Nat.pow_succ, Nat.div_div_eq_div_mul]
theorem pw_eq {i : Nat} (h : i ≤ 18) : pw i = 10 ^ (18 - i) := by
  unfold pw
  rw [show (1000000000000000000 : Nat) = 10 ^ (18 - i) * 10 ^ i by rw [← Nat.pow_add, show 18 - i + i = 18 by omega]]
  exact Nat.mul_div_cancel _ (Nat.pow_pos (by decide))
theorem pw_end : pw 19 = 0 := by unfold pw; exact Nat.div_eq_of_lt (by decide)
theorem pw_le (i : Nat) : pw i ≤ 1000000000000000000 := Nat.div_le_self _ _
theorem digit_toNat {d : Nat} (h : d < 10) : (UInt8.ofNat (48 + d)).toNat = 48 + d := by
  rw [UInt8.toNat_ofNat']; omega
end Go.Proofs.YtfijhkaalpinhaaGreatDoor
namespace Go.Proofs.YtfijhkaalpinhaaGreatDoor

/-- The number that digits write. -/
def val (l : List UInt8) : Nat := l.foldl (fun a c => a * 10 + (c.toNat - 48)) 0
theorem val_nil : val [] = 0 := rfl
theorem foldl_val (l : List UInt8) : ∀ a : Nat, l.foldl (fun a c => a * 10 + (c.toNat - 48)) a = a * 10 ^ l.length + val l := by
  induction l with
  | nil => intro a; simp [val]
  | cons x l ih =>
    intro a
    have e : val (x :: l) = (0 * 10 + (x.toNat - 48)) * 10 ^ l.length + val l := by
      show l.foldl _ (0 * 10 + (x.toNat - 48)) = _
      exact ih _
    rw [Nat.zero_mul, Nat.zero_add] at e
    rw [e, List.foldl_cons, ih, List.length_cons, Nat.pow_succ]
    have : (a * 10 + (x.toNat - 48)) * 10 ^ l.length = a * (10 ^ l.length * 10) + (x.toNat - 48) * 10 ^ l.length := by grind
    omega
theorem val_append (a b : List UInt8) : val (a ++ b) = val a * 10 ^ b.length + val b := by
  unfold val
  rw [List.foldl_append]
  exact foldl_val b _
theorem val_snoc (a : List UInt8) (x : UInt8) : val (a ++ [x]) = val a * 10 + (x.toNat - 48) := by
  rw [val_append]; simp [val]
/-- A digit. -/
def isDig (c : UInt8) : Bool := decide (48 ≤ c.toNat) && decide (c.toNat ≤ 57)
theorem isDig_iff {c : UInt8} : isDig c = true ↔ 48 ≤ c.toNat ∧ c.toNat ≤ 57 := by unfold isDig; simp
def digs (l : List UInt8) : Bool := l.all isDig
theorem digs_append (a b : List UInt8) : digs (a ++ b) = (digs a && digs b) := by unfold digs; exact List.all_append
theorem val_lt {l : List UInt8} : digs l = true → val l < 10 ^ l.length := by
  induction l with
  | nil => intro _; simp [val]
  | cons x l ih =>
    intro h
    have hx : isDig x = true ∧ digs l = true := by simpa [digs] using h
    have h1 := isDig_iff.1 hx.1
    have h2 := ih hx.2
    have e : val (x :: l) = (x.toNat - 48) * 10 ^ l.length + val l := by
      have := val_append [x] l
      simpa [val] using this
    rw [e, List.length_cons, Nat.pow_succ]
    have : (x.toNat - 48) * 10 ^ l.length ≤ 9 * 10 ^ l.length := Nat.mul_le_mul_right _ (by omega)
    omega
theorem digs_dec (n : Nat) : digs (Lib.decDigits n) = true := by
  induction n using Nat.strongRecOn with
  | _ n ih =>
    rw [Lib.decDigits.eq_def]
    split
    · next h =>
      simp only [digs, List.all_cons, List.all_nil, Bool.and_true]
      rw [isDig_iff, digit_toNat h]
      omega
    · next h =>
      rw [digs_append, ih (n / 10) (by omega)]
      simp only [digs, List.all_cons, List.all_nil, Bool.and_true, Bool.true_and]
      rw [isDig_iff, digit_toNat (Nat.mod_lt _ (by decide))]
      omega
theorem val_dec (n : Nat) : val (Lib.decDigits n) = n := by
  induction n using Nat.strongRecOn with
  | _ n ih =>
    rw [Lib.decDigits.eq_def]
    split
    · next h =>
      have : val [UInt8.ofNat (48 + n)] = (UInt8.ofNat (48 + n)).toNat - 48 := by simp [val]
      rw [this, digit_toNat h]; omega
    · next h =>
      rw [val_snoc, ih (n / 10) (by omega), digit_toNat (Nat.mod_lt _ (by decide))]
      omega
/-- The first digit is no 0, but of 0 itself. -/
theorem head_dec (n : Nat) : ∃ c r, Lib.decDigits n = c :: r ∧ (c.toNat = 48 → n = 0 ∧ r = []) := by
  induction n using Nat.strongRecOn with
  | _ n ih =>
    rw [Lib.decDigits.eq_def]
    split
    · next h =>
      refine ⟨_, [], rfl, fun e => ?_⟩
      rw [digit_toNat h] at e
      exact ⟨by omega, rfl⟩
    · next h =>
      obtain ⟨c, r, e, hc⟩ := ih (n / 10) (by omega)
      refine ⟨c, r ++ [UInt8.ofNat (48 + n % 10)], by rw [e]; rfl, fun h48 => ?_⟩
      have := (hc h48).1
      omega
theorem pow_bp (m : Nat) : 10 ^ (16 * m) ≤ bp m := by
  rw [bp_pow, Nat.pow_mul]
  exact Nat.pow_le_pow_left (by decide) m
theorem val_bp {l : List UInt8} (h : digs l = true) (hl : l.length ≤ 2000) : val l < bp 125 :=
  by
  have h1 : l.length ≤ 16 * 125 := by omega
  have h2 := pow_bp 125
  have h3 := val_lt h
  generalize 16 * 125 = m at h1 h2
  exact Nat.lt_of_lt_of_le h3 (Nat.le_trans (Nat.pow_le_pow_right (by decide) h1) h2)
/-- What a text without its sign is: digits of a number without needless zeros. -/
def zread (l : List UInt8) : Option Int :=
  let ds := Lib.trimPrefix l [45]
  let neg := decide (ds.length < l.length)
  if ds = [] ∨ (ds.head? = some 48 ∧ (neg = true ∨ 1 < ds.length)) ∨ digs ds = false then none
  else some (if neg then -(val ds : Int) else val ds)
theorem trim_minus (l : List UInt8) : Lib.trimPrefix (45 :: l) [45] = l := by simp [Lib.trimPrefix, Lib.hasPrefix]
theorem trim_plain {c : UInt8} {r : List UInt8} (h : c.toNat ≠ 45) : Lib.trimPrefix (c :: r) [45] = c :: r := by
  have hc : c ≠ 45 := fun e => h (by rw [e]; rfl)
  have hc' : ¬ (45 : UInt8) = c := fun e => hc e.symm
  simp [Lib.trimPrefix, Lib.hasPrefix, hc, hc']
theorem zread_tz (neg : Bool) (n : Nat) (h : neg = true → 0 < n) : zread (if neg then 45 :: Lib.decDigits n else Lib.decDigits n) = some (if neg then -(n : Int) else n) := by
  obtain ⟨c, r, e, hc⟩ := head_dec n
  have hd := digs_dec n
  have hv := val_dec n
  have h48 : c = 48 → c.toNat = 48 := fun e => by rw [e]; rfl
  cases neg
  · have hx : isDig c = true := by rw [e] at hd; simp [digs] at hd; exact hd.1
    have hn := (isDig_iff.1 hx).1
    simp only [Bool.false_eq_true, if_false]
    unfold zread
    rw [e, trim_plain (by omega), ← e]
    have hne : ¬ (Lib.decDigits n).length < (Lib.decDigits n).length := by omega
    simp only [decide_eq_false hne]
    rw [if_neg ?_, hv]
    · rfl
    · rintro (h1 | ⟨h1, h2⟩ | h1)
      · rw [e] at h1; cases h1
      · rw [e] at h1 h2
        have := hc (h48 (by simpa using h1))
        rw [this.2] at h2
        simp at h2
      · rw [hd] at h1; cases h1
  · have hp := h rfl
    simp only [if_true]
    unfold zread
    rw [trim_minus]
    have hne : (Lib.decDigits n).length < (45 :: Lib.decDigits n).length := by simp
    simp only [decide_eq_true hne]
    rw [if_neg ?_, hv]
    · rfl
    · rintro (h1 | ⟨h1, h2⟩ | h1)
      · rw [e] at h1; cases h1
      · rw [e] at h1
        have := hc (h48 (by simpa using h1))
        omega
      · rw [hd] at h1; cases h1
end Go.Proofs.YtfijhkaalpinhaaGreatDoor
