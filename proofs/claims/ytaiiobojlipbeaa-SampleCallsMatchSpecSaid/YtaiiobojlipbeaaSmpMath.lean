/-
  Shares and hits of samples, in plain integers. Nothing of the program stands here.
-/
import Derived.Test.YtaiiobojlipbeaaRows
import Derived.WalkKit
namespace Go.Proofs.Ytaiiobojlipbeaa.Sm
open Go

/-- The sum of the first k values of a function. -/
def pre (f : Nat → Int) : Nat → Int
  | 0 => 0
  | k + 1 => pre f k + f k
theorem pre_succ (f : Nat → Int) (k : Nat) : pre f (k + 1) = pre f k + f k := rfl
theorem pre_bd {f : Nat → Int} {B : Int} (k : Nat) (h : ∀ j, j < k → 0 ≤ f j ∧ f j ≤ B) : 0 ≤ pre f k ∧ pre f k ≤ (k : Int) * B := by
  induction k with
  | zero => simp [pre]
  | succ k ih =>
    have h1 := ih fun j hj => h j (by omega)
    have h2 := h k (by omega)
    have e : ((k + 1 : Nat) : Int) * B = (k : Int) * B + B := by rw [show ((k + 1 : Nat) : Int) = (k : Int) + 1 by omega, Int.add_mul, Int.one_mul]
    rw [e, pre_succ]
    omega
theorem pre_congr {f g : Nat → Int} (k : Nat) (h : ∀ j, j < k → f j = g j) : pre f k = pre g k := by
  induction k with
  | zero => rfl
  | succ k ih => rw [pre_succ, pre_succ, ih fun j hj => h j (by omega), h k (by omega)]
theorem pre_mono {f : Nat → Int} {n : Nat} (h : ∀ j, j < n → 0 ≤ f j) {i k : Nat} (hik : i ≤ k) (hk : k ≤ n) : pre f i ≤ pre f k := by
  induction k with
  | zero => obtain rfl : i = 0 := by omega
            exact Int.le_refl _
  | succ k ih =>
    by_cases e : i = k + 1
    · rw [e]; exact Int.le_refl _
    · have h1 := ih (by omega) (by omega)
      have h2 := h k (by omega)
      rw [pre_succ]; omega
theorem pre_sub (f g : Nat → Int) (k : Nat) : pre (fun j => f j - g j) k = pre f k - pre g k := by
  induction k with
  | zero => rfl
  | succ k ih => rw [pre_succ, pre_succ, pre_succ, ih]; omega
/-- One place grows by one. -/
theorem pre_up (f : Nat → Int) (b k : Nat) : pre (fun j => if j = b then f b + 1 else f j) k = pre f k + if b < k then 1 else 0 := by
  induction k with
  | zero => rfl
  | succ k ih =>
    rw [pre_succ, pre_succ, ih]
    by_cases e : k = b
    · subst e; simp; omega
    · rw [if_neg e]
      by_cases l : b < k
      · rw [if_pos l, if_pos (by omega)]; omega
      · rw [if_neg l, if_neg (by omega)]; omega

/-! ### Shares -/
/-- The part that gets one more, of the first k: the number of the best one, or -1. -/
def bst (W N M : Nat → Int) : Nat → Int
  | 0 => -1
  | k + 1 => if N k < M k ∧ (bst W N M k < 0 ∨ W (bst W N M k).toNat * (2 * N k + 1) < W k * (2 * N (bst W N M k).toNat + 1)) then (k : Int) else bst W N M k
theorem bst_lo (W N M : Nat → Int) (k : Nat) : -1 ≤ bst W N M k ∧ bst W N M k < k := by
  induction k with
  | zero => simp [bst]
  | succ k ih =>
    unfold bst
    split <;> omega
theorem bst_yes (W N M : Nat → Int) (k : Nat) (h1 : N k < M k) (h2 : bst W N M k < 0 ∨ W (bst W N M k).toNat * (2 * N k + 1) < W k * (2 * N (bst W N M k).toNat + 1)) : bst W N M (k + 1) = k := by
  show ite _ _ _ = _
  rw [if_pos ⟨h1, h2⟩]
theorem bst_no (W N M : Nat → Int) (k : Nat) (h : ¬ (N k < M k ∧ (bst W N M k < 0 ∨ W (bst W N M k).toNat * (2 * N k + 1) < W k * (2 * N (bst W N M k).toNat + 1)))) : bst W N M (k + 1) = bst W N M k := by
  show ite _ _ _ = _
  rw [if_neg h]
theorem bst_none (W N M : Nat → Int) (k : Nat) (h : bst W N M k < 0) : ∀ j, j < k → ¬ N j < M j := by
  induction k with
  | zero => intro j hj; omega
  | succ k ih =>
    intro j hj hlt
    by_cases c : N k < M k ∧ (bst W N M k < 0 ∨ W (bst W N M k).toNat * (2 * N k + 1) < W k * (2 * N (bst W N M k).toNat + 1))
    · rw [bst_yes W N M k c.1 c.2] at h; omega
    · rw [bst_no W N M k c] at h
      by_cases e : j = k
      · subst e; exact c ⟨hlt, .inl h⟩
      · exact ih h j (by omega) hlt
theorem bst_room (W N M : Nat → Int) (k : Nat) (h : 0 ≤ bst W N M k) : N (bst W N M k).toNat < M (bst W N M k).toNat := by
  induction k with
  | zero => simp [bst] at h
  | succ k ih =>
    by_cases c : N k < M k ∧ (bst W N M k < 0 ∨ W (bst W N M k).toNat * (2 * N k + 1) < W k * (2 * N (bst W N M k).toNat + 1))
    · rw [bst_yes W N M k c.1 c.2]; simpa using c.1
    · rw [bst_no W N M k c] at h ⊢; exact ih h
/-- Greater quotients, by products. -/
theorem quo_trans {a b c x y z : Int} (ha : 0 ≤ a) (hb : 0 ≤ b) (hc : 0 ≤ c) (hx : 0 < x) (hy : 0 < y) (hz : 0 < z) (h1 : a * y ≤ b * x) (h2 : b * z ≤ c * y) : a * z ≤ c * x := by
  have s1 : a * y * z ≤ b * x * z := Int.mul_le_mul_of_nonneg_right h1 (by omega)
  have s2 : b * z * x ≤ c * y * x := Int.mul_le_mul_of_nonneg_right h2 (by omega)
  have e1 : a * y * z = (a * z) * y := by rw [Int.mul_assoc, Int.mul_comm y z, ← Int.mul_assoc]
  have e2 : b * x * z = b * z * x := by rw [Int.mul_assoc, Int.mul_comm x z, ← Int.mul_assoc]
  have e3 : c * y * x = (c * x) * y := by rw [Int.mul_assoc, Int.mul_comm y x, ← Int.mul_assoc]
  rw [e1] at s1
  rw [e2] at s1
  rw [e3] at s2
  exact Int.le_of_mul_le_mul_right (Int.le_trans s1 s2) hy
theorem bst_most (W N M : Nat → Int) (n k : Nat) (hk : k ≤ n) (hW : ∀ j, j < n → 0 ≤ W j) (hN : ∀ j, j < n → 0 ≤ N j) (h : 0 ≤ bst W N M k) (j : Nat) (hj : j < k) (hlt : N j < M j) :
    W j * (2 * N (bst W N M k).toNat + 1) ≤ W (bst W N M k).toNat * (2 * N j + 1) := by
  induction k with
  | zero => omega
  | succ k ih =>
    have lo := bst_lo W N M k
    by_cases c : N k < M k ∧ (bst W N M k < 0 ∨ W (bst W N M k).toNat * (2 * N k + 1) < W k * (2 * N (bst W N M k).toNat + 1))
    · rw [bst_yes W N M k c.1 c.2]
      simp only [Int.toNat_natCast]
      by_cases e : j = k
      · subst e; exact Int.le_refl _
      · rcases c.2 with c2 | c2
        · exact absurd hlt (bst_none W N M k c2 j (by omega))
        · by_cases neg : bst W N M k < 0
          · exact absurd hlt (bst_none W N M k neg j (by omega))
          · have h1 := ih (by omega) (by omega) (by omega)
            have n1 := hN j (by omega)
            have n2 := hN k (by omega)
            have n3 := hN (bst W N M k).toNat (by omega)
            exact quo_trans (hW j (by omega)) (hW _ (by omega)) (hW k (by omega)) (by omega) (by omega) (by omega) h1 (Int.le_of_lt c2)
    · rw [bst_no W N M k c] at h ⊢
      by_cases e : j = k
      · subst e
        have c3 : ¬ (bst W N M j < 0 ∨ W (bst W N M j).toNat * (2 * N j + 1) < W j * (2 * N (bst W N M j).toNat + 1)) := fun x => c ⟨hlt, x⟩
        omega
      · exact ih (by omega) h (by omega)
/-- The numbers behind r rounds. -/
def alc (W L M : Nat → Int) (n : Nat) : Nat → Nat → Int
  | 0 => L
  | r + 1 => fun j => if j = (bst W (alc W L M n r) M n).toNat then alc W L M n r (bst W (alc W L M n r) M n).toNat + 1 else alc W L M n r j
/-- What is true of the numbers in every round. -/
structure Fair (W L M : Nat → Int) (n : Nat) (N : Nat → Int) : Prop where
  lo : ∀ j, j < n → L j ≤ N j
  hi : ∀ j, j < n → N j ≤ M j
  fair : ∀ i k, i < n → k < n → i ≠ k → L i < N i → N k < M k → W k * (2 * N i - 1) ≤ W i * (2 * N k + 1)
theorem Fair.start {W L M : Nat → Int} {n : Nat} (h : ∀ j, j < n → L j ≤ M j) : Fair W L M n L where
  lo := fun j _ => Int.le_refl _
  hi := h
  fair := fun i k hi hk _ h1 _ => by omega
theorem Fair.next {W L M N : Nat → Int} {n : Nat} (hW : ∀ j, j < n → 0 ≤ W j) (hL : ∀ j, j < n → 0 ≤ L j) (h : Fair W L M n N) (hb : 0 ≤ bst W N M n) :
    Fair W L M n (fun j => if j = (bst W N M n).toNat then N (bst W N M n).toNat + 1 else N j) := by
  have lo := bst_lo W N M n
  have room := bst_room W N M n hb
  have hN : ∀ j, j < n → 0 ≤ N j := fun j hj => Int.le_trans (hL j hj) (h.lo j hj)
  have most := bst_most W N M n n (Nat.le_refl _) hW hN hb
  generalize hB : (bst W N M n).toNat = b at *
  have hbn : b < n := by omega
  refine ⟨fun j hj => ?_, fun j hj => ?_, fun i k hi hk hne h1 h2 => ?_⟩
  · have := h.lo j hj
    split
    · rename_i e; subst e; omega
    · omega
  · have := h.hi j hj
    split
    · rename_i e; subst e; omega
    · omega
  · by_cases e : i = b
    · subst e
      rw [if_pos rfl]
      rw [if_neg (show ¬ k = i by omega)] at h2 ⊢
      have := most k hk h2
      have e2 : 2 * (N i + 1) - 1 = 2 * N i + 1 := by omega
      rw [e2]
      exact this
    · rw [if_neg e] at h1 ⊢
      by_cases e2 : k = b
      · subst e2
        rw [if_pos rfl]
        have := h.fair i k hi hk hne h1 room
        have w := hW i hi
        have : W i * (2 * N k + 1) ≤ W i * (2 * (N k + 1) + 1) := Int.mul_le_mul_of_nonneg_left (by omega) w
        omega
      · rw [if_neg e2] at h2 ⊢
        exact h.fair i k hi hk hne h1 h2
theorem bst_there {W N M : Nat → Int} {n : Nat} (h : ∀ j, j < n → N j ≤ M j) (hs : pre N n < pre M n) : 0 ≤ bst W N M n := by
  by_cases c : 0 ≤ bst W N M n
  · exact c
  · have h1 := bst_none W N M n (by omega)
    have : pre N n = pre M n := pre_congr n fun j hj => by have := h j hj; have := h1 j hj; omega
    omega
theorem pre_alc (W L M : Nat → Int) (n r : Nat) (hb : 0 ≤ bst W (alc W L M n r) M n) : pre (alc W L M n (r + 1)) n = pre (alc W L M n r) n + 1 := by
  have lo := bst_lo W (alc W L M n r) M n
  show pre (fun j => if j = (bst W (alc W L M n r) M n).toNat then alc W L M n r (bst W (alc W L M n r) M n).toNat + 1 else alc W L M n r j) n = _
  rw [pre_up, if_pos (by omega)]
/-- What is true of every round, as long as the sum is less than that of the greatest numbers. -/
theorem alc_ok (W L M : Nat → Int) (n : Nat) (hW : ∀ j, j < n → 0 ≤ W j) (hL : ∀ j, j < n → 0 ≤ L j) (hM : ∀ j, j < n → L j ≤ M j) (r : Nat) (hr : pre L n + r ≤ pre M n) :
    Fair W L M n (alc W L M n r) ∧ pre (alc W L M n r) n = pre L n + r := by
  induction r with
  | zero => exact ⟨Fair.start hM, by simp [alc]⟩
  | succ r ih =>
    obtain ⟨h1, h2⟩ := ih (by omega)
    have hb := bst_there (W := W) h1.hi (by omega)
    exact ⟨Fair.next hW hL h1 hb, by rw [pre_alc W L M n r hb, h2]; omega⟩

/-! ### Hits -/
/-- How many of s, s + m, s + 2 m, .. lie before an end. -/
def hb (e s m : Int) : Int := if e ≤ s then 0 else (e - s - 1) / m + 1
theorem hb_lt (e s m : Int) (k : Int) (hm : 0 < m) (hk : 0 ≤ k) : k < hb e s m ↔ s + k * m < e := by
  unfold hb
  have h0 := Int.mul_nonneg hk (Int.le_of_lt hm)
  split
  · constructor <;> intro h <;> omega
  · have := Int.le_ediv_iff_mul_le (a := k) (b := e - s - 1) hm
    constructor
    · intro h; have := this.1 (by omega); omega
    · intro h; have := this.2 (by omega); omega
theorem hb_nonneg (e s m : Int) (hm : 0 < m) : 0 ≤ hb e s m := by
  unfold hb
  split
  · omega
  · have := Int.ediv_nonneg (a := e - s - 1) (b := m) (by omega) (by omega); omega
theorem hb_mono {a b : Int} (s m : Int) (hm : 0 < m) (h : a ≤ b) : hb a s m ≤ hb b s m := by
  have h0 := hb_nonneg b s m hm
  have h1 : ¬ s + hb b s m * m < b := fun x => by have := (hb_lt b s m (hb b s m) hm h0).2 x; omega
  have h2 : ¬ hb b s m < hb a s m := fun x => by have := (hb_lt a s m (hb b s m) hm h0).1 x; omega
  omega
theorem hb_zero {s m : Int} (hs : 0 ≤ s) : hb 0 s m = 0 := by unfold hb; rw [if_pos hs]
/-- Counted one by one. -/
def cnt (s m a b : Int) : Nat → Int
  | 0 => 0
  | k + 1 => cnt s m a b k + if a ≤ s + k * m ∧ s + k * m < b then 1 else 0
theorem cnt_eq {s m a b : Int} (hm : 0 < m) (hab : a ≤ b) (k : Nat) : cnt s m a b k = min (k : Int) (hb b s m) - min (k : Int) (hb a s m) := by
  have ha := hb_nonneg a s m hm
  have hb' := hb_nonneg b s m hm
  induction k with
  | zero => simp [cnt]; omega
  | succ k ih =>
    have h1 := hb_lt a s m k hm (by omega)
    have h2 := hb_lt b s m k hm (by omega)
    have h3 := hb_mono s m hm hab
    unfold cnt
    rw [ih]
    split <;> omega
theorem hb_le {e s m : Int} (t : Nat) (hm : 0 < m) (hs : 0 ≤ s) (he : e ≤ t * m) : hb e s m ≤ t := by
  have : ¬ (t : Int) < hb e s m := fun x => by have := (hb_lt e s m t hm (by omega)).1 x; omega
  omega
theorem cnt_all {s m a b : Int} (t : Nat) (hm : 0 < m) (hs : 0 ≤ s) (hab : a ≤ b) (hbt : b ≤ t * m) : cnt s m a b t = hb b s m - hb a s m := by
  have h1 := hb_le t hm hs hbt
  have h2 := hb_mono s m hm hab
  rw [cnt_eq hm hab]
  omega
theorem cnt_bd (s m a b : Int) (k : Nat) : 0 ≤ cnt s m a b k ∧ cnt s m a b k ≤ k := by
  induction k with
  | zero => simp [cnt]
  | succ k ih => unfold cnt; split <;> omega
/-- How often element i is hit. -/
def hit (l : Nat → Int) (n : Nat) (t s : Int) (i : Nat) : Int := hb (t * pre l (i + 1)) s (pre l n) - hb (t * pre l i) s (pre l n)
theorem hit_sum (l : Nat → Int) (n : Nat) (t s : Int) (hs : 0 ≤ s) (k : Nat) : pre (hit l n t s) k = hb (t * pre l k) s (pre l n) := by
  induction k with
  | zero => simp [pre, hb_zero hs]
  | succ k ih => rw [pre_succ, ih]; unfold hit; omega
theorem hb_split {e s m : Int} (hm : 0 < m) (hs : 0 ≤ s) (hsm : s < m) (he : 0 ≤ e) : hb e s m = e / m + if s < e % m then 1 else 0 := by
  have h1 := Int.mul_ediv_add_emod e m
  have h2 := Int.emod_nonneg e (show m ≠ 0 by omega)
  have h3 := Int.emod_lt_of_pos e hm
  generalize e / m = q at *
  generalize e % m = r at *
  unfold hb
  split
  · rename_i hes
    have hq : q = 0 := by
      have q0 : 0 ≤ q := by
        rcases Int.lt_or_le q 0 with h | h
        · have : m * q ≤ m * (-1) := Int.mul_le_mul_of_nonneg_left (by omega) (by omega)
          omega
        · exact h
      rcases Int.lt_or_le 0 q with h | h
      · have : m * 1 ≤ m * q := Int.mul_le_mul_of_nonneg_left (by omega) (by omega)
        omega
      · omega
    subst hq
    rw [if_neg (by omega)]; rfl
  · split
    · have : (e - s - 1) / m = q := by
        rw [show e - s - 1 = (r - s - 1) + m * q by omega, Int.add_mul_ediv_left _ _ (by omega), Int.ediv_eq_zero_of_lt (by omega) (by omega)]; omega
      omega
    · have : (e - s - 1) / m = q - 1 := by
        have : m * (q - 1) = m * q - m := by rw [Int.mul_sub, Int.mul_one]
        rw [show e - s - 1 = (r - s - 1 + m) + m * (q - 1) by omega, Int.add_mul_ediv_left _ _ (by omega), Int.ediv_eq_zero_of_lt (by omega) (by omega)]; omega
      omega
theorem hb_whole (t s m : Int) (hm : 0 < m) (hs : 0 ≤ s) (hsm : s < m) (ht : 0 ≤ t) : hb (t * m) s m = t := by
  rw [hb_split hm hs hsm (Int.mul_nonneg ht (by omega)), Int.mul_emod_left, Int.mul_ediv_cancel _ (by omega), if_neg (by omega)]; omega
theorem hb_starts {e m : Int} (hm : 0 < m) (he : 0 ≤ e) (k : Nat) (hk : (k : Int) ≤ m) : pre (fun s => hb e s m) k = (e / m) * k + min (k : Int) (e % m) := by
  have h2 := Int.emod_nonneg e (show m ≠ 0 by omega)
  induction k with
  | zero => simp [pre]; omega
  | succ k ih =>
    rw [pre_succ, ih (by omega), hb_split hm (by omega) (by omega) he]
    have : e / m * ((k + 1 : Nat) : Int) = e / m * k + e / m := by rw [show ((k + 1 : Nat) : Int) = (k : Int) + 1 by omega, Int.mul_add, Int.mul_one]
    rw [this]
    split <;> omega
theorem hb_all {e m : Int} (hm : 0 < m) (he : 0 ≤ e) : pre (fun s => hb e s m) m.toNat = e := by
  have h1 := Int.mul_ediv_add_emod e m
  have h3 := Int.emod_lt_of_pos e hm
  rw [hb_starts hm he _ (by omega), show ((m.toNat : Nat) : Int) = m by omega, Int.mul_comm]
  omega
/-- All starts together. -/
theorem hit_all (l : Nat → Int) (n : Nat) (t : Int) (ht : 0 ≤ t) (hl : ∀ j, j < n → 0 ≤ l j) (hm : 0 < pre l n) (i : Nat) (hi : i < n) :
    pre (fun s : Nat => hit l n t s i) (pre l n).toNat = t * l i := by
  have h0 := pre_mono (f := l) hl (Nat.zero_le i) (Nat.le_of_lt hi)
  have h1 := pre_mono (f := l) hl (Nat.zero_le (i + 1)) hi
  have e : pre (fun s : Nat => hit l n t s i) (pre l n).toNat = pre (fun s : Nat => hb (t * pre l (i + 1)) s (pre l n)) (pre l n).toNat - pre (fun s : Nat => hb (t * pre l i) s (pre l n)) (pre l n).toNat :=
    pre_sub _ _ _
  rw [e, hb_all hm (Int.mul_nonneg ht h1), hb_all hm (Int.mul_nonneg ht h0), pre_succ, Int.mul_add]
  omega
theorem hit_bd (l : Nat → Int) (n : Nat) (t : Nat) (s : Int) (hl : ∀ j, j < n → 0 ≤ l j) (hm : 0 < pre l n) (hs : 0 ≤ s) (i : Nat) (hi : i < n) : 0 ≤ hit l n t s i ∧ hit l n t s i ≤ t := by
  have h0 := pre_mono (f := l) hl (Nat.le_succ i) hi
  have h1 := pre_mono (f := l) hl hi (Nat.le_refl _)
  have m1 : (t : Int) * pre l i ≤ t * pre l (i + 1) := Int.mul_le_mul_of_nonneg_left h0 (by omega)
  have m2 : (t : Int) * pre l (i + 1) ≤ t * pre l n := Int.mul_le_mul_of_nonneg_left h1 (by omega)
  have a := hb_mono s (pre l n) hm m1
  have b := hb_le t hm hs m2
  have c := hb_nonneg ((t : Int) * pre l i) s (pre l n) hm
  unfold hit
  omega
end Go.Proofs.Ytaiiobojlipbeaa.Sm
