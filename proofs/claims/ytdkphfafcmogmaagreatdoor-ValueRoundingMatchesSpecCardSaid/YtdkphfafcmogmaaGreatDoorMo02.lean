/-
  Reading decimal texts of numbers of any size: the arithmetic.
  Numbers of any size in the reference: the arithmetic of rows of digits to the base 10^9.
  Reading numbers of the reference: the arithmetic of blocks of nine digits.
-/
import Derived.Test.YtdkphfafcmogmaaGreatDoorMo01
import Derived.Lib.AtoiAll
namespace Go.Proofs.YtdkphfafcmogmaaGreatDoor

/-- The number that digits write. -/
def val (l : List UInt8) : Nat := l.foldl (fun a c => a * 10 + (c.toNat - 48)) 0
theorem val_nil : val [] = 0 := rfl
theorem foldl_val (l : List UInt8) : ∀ a : Nat, l.foldl (fun a c => a * 10 + (c.toNat - 48)) a = a * 10 ^ l.length + val l := by
  induction l with
  | nil => intro a; simp [val]
  | cons x l ih =>
    intro a
    have e : val (x :: l) = (0 * 10 + (x.toNat - 48)) * 10 ^ l.length + val l := by
      show l.foldl _ (0 * 10 + (x.toNat - 48)) = _
      exact ih _
    rw [Nat.zero_mul, Nat.zero_add] at e
    rw [e, List.foldl_cons, ih, List.length_cons, Nat.pow_succ]
    have : (a * 10 + (x.toNat - 48)) * 10 ^ l.length = a * (10 ^ l.length * 10) + (x.toNat - 48) * 10 ^ l.length := by grind
    omega
theorem val_append (a b : List UInt8) : val (a ++ b) = val a * 10 ^ b.length + val b := by
  unfold val
  rw [List.foldl_append]
  exact foldl_val b _
theorem val_snoc (a : List UInt8) (x : UInt8) : val (a ++ [x]) = val a * 10 + (x.toNat - 48) := by
  rw [val_append]; simp [val]
/-- A digit. -/
def isDig (c : UInt8) : Bool := decide (48 ≤ c.toNat) && decide (c.toNat ≤ 57)
theorem isDig_iff {c : UInt8} : isDig c = true ↔ 48 ≤ c.toNat ∧ c.toNat ≤ 57 := by unfold isDig; simp
def digs (l : List UInt8) : Bool := l.all isDig
theorem digs_append (a b : List UInt8) : digs (a ++ b) = (digs a && digs b) := by unfold digs; exact List.all_append
theorem val_lt {l : List UInt8} : digs l = true → val l < 10 ^ l.length := by
  induction l with
  | nil => intro _; simp [val]
  | cons x l ih =>
    intro h
    have hx : isDig x = true ∧ digs l = true := by simpa [digs] using h
    have h1 := isDig_iff.1 hx.1
    have h2 := ih hx.2
    have e : val (x :: l) = (x.toNat - 48) * 10 ^ l.length + val l := by
      have := val_append [x] l
      simpa [val] using this
    rw [e, List.length_cons, Nat.pow_succ]
    have : (x.toNat - 48) * 10 ^ l.length ≤ 9 * 10 ^ l.length := Nat.mul_le_mul_right _ (by omega)
    omega
theorem digs_dec (n : Nat) : digs (Lib.decDigits n) = true := by
  induction n using Nat.strongRecOn with
  | _ n ih =>
    rw [Lib.decDigits.eq_def]
    split
    · next h =>
      simp only [digs, List.all_cons, List.all_nil, Bool.and_true]
      rw [isDig_iff, digit_toNat h]
      omega
    · next h =>
      rw [digs_append, ih (n / 10) (by omega)]
      simp only [digs, List.all_cons, List.all_nil, Bool.and_true, Bool.true_and]
      rw [isDig_iff, digit_toNat (Nat.mod_lt _ (by decide))]
      omega
theorem val_dec (n : Nat) : val (Lib.decDigits n) = n := by
  induction n using Nat.strongRecOn with
  | _ n ih =>
    rw [Lib.decDigits.eq_def]
    split
    · next h =>
      have : val [UInt8.ofNat (48 + n)] = (UInt8.ofNat (48 + n)).toNat - 48 := by simp [val]
      rw [this, digit_toNat h]; omega
    · next h =>
      rw [val_snoc, ih (n / 10) (by omega), digit_toNat (Nat.mod_lt _ (by decide))]
      omega
/-- The first digit is no 0, but of 0 itself. -/
theorem head_dec (n : Nat) : ∃ c r, Lib.decDigits n = c :: r ∧ (c.toNat = 48 → n = 0 ∧ r = []) := by
  induction n using Nat.strongRecOn with
  | _ n ih =>
    rw [Lib.decDigits.eq_def]
    split
    · next h =>
      refine ⟨_, [], rfl, fun e => ?_⟩
      rw [digit_toNat h] at e
      exact ⟨by omega, rfl⟩
    · next h =>
      obtain ⟨c, r, e, hc⟩ := ih (n / 10) (by omega)
      refine ⟨c, r ++ [UInt8.ofNat (48 + n % 10)], by rw [e]; rfl, fun h48 => ?_⟩
      have := (hc h48).1
      omega
theorem pow_bp (m : Nat) : 10 ^ (16 * m) ≤ bp m := by
  rw [bp_pow, Nat.pow_mul]
  exact Nat.pow_le_pow_left (by decide) m
theorem val_bp {l : List UInt8} (h : digs l = true) (hl : l.length ≤ 2000) : val l < bp 125 :=
  by
  have h1 : l.length ≤ 16 * 125 := by omega
  have h2 := pow_bp 125
  have h3 := val_lt h
  generalize 16 * 125 = m at h1 h2
  exact Nat.lt_of_lt_of_le h3 (Nat.le_trans (Nat.pow_le_pow_right (by decide) h1) h2)
/-- What a text without its sign is: digits of a number without needless zeros. -/
def zread (l : List UInt8) : Option Int :=
  let ds := Lib.trimPrefix l [45]
  let neg := decide (ds.length < l.length)
  if ds = [] ∨ (ds.head? = some 48 ∧ (neg = true ∨ 1 < ds.length)) ∨ digs ds = false then none
  else some (if neg then -(val ds : Int) else val ds)
theorem trim_minus (l : List UInt8) : Lib.trimPrefix (45 :: l) [45] = l := by simp [Lib.trimPrefix, Lib.hasPrefix]
theorem trim_plain {c : UInt8} {r : List UInt8} (h : c.toNat ≠ 45) : Lib.trimPrefix (c :: r) [45] = c :: r := by
  have hc : c ≠ 45 := fun e => h (by rw [e]; rfl)
  have hc' : ¬ (45 : UInt8) = c := fun e => hc e.symm
  simp [Lib.trimPrefix, Lib.hasPrefix, hc, hc']
theorem zread_tz (neg : Bool) (n : Nat) (h : neg = true → 0 < n) : zread (if neg then 45 :: Lib.decDigits n else Lib.decDigits n) = some (if neg then -(n : Int) else n) := by
  obtain ⟨c, r, e, hc⟩ := head_dec n
  have hd := digs_dec n
  have hv := val_dec n
  have h48 : c = 48 → c.toNat = 48 := fun e => by rw [e]; rfl
  cases neg
  · have hx : isDig c = true := by rw [e] at hd; simp [digs] at hd; exact hd.1
    have hn := (isDig_iff.1 hx).1
    simp only [Bool.false_eq_true, if_false]
    unfold zread
    rw [e, trim_plain (by omega), ← e]
    have hne : ¬ (Lib.decDigits n).length < (Lib.decDigits n).length := by omega
    simp only [decide_eq_false hne]
    rw [if_neg ?_, hv]
    · rfl
    · rintro (h1 | ⟨h1, h2⟩ | h1)
      · rw [e] at h1; cases h1
      · rw [e] at h1 h2
        have := hc (h48 (by simpa using h1))
        rw [this.2] at h2
        simp at h2
      · rw [hd] at h1; cases h1
  · have hp := h rfl
    simp only [if_true]
    unfold zread
    rw [trim_minus]
    have hne : (Lib.decDigits n).length < (45 :: Lib.decDigits n).length := by simp
    simp only [decide_eq_true hne]
    rw [if_neg ?_, hv]
    · rfl
    · rintro (h1 | ⟨h1, h2⟩ | h1)
      · rw [e] at h1; cases h1
      · rw [e] at h1
        have := hc (h48 (by simpa using h1))
        omega
      · rw [hd] at h1; cases h1
end Go.Proofs.YtdkphfafcmogmaaGreatDoor
namespace Go.Proofs.YtdkphfafcmogmaaGreatDoor

@[irreducible] def tp (j : Nat) : Nat := 1000000000 ^ j
theorem tp_zero : tp 0 = 1 := by unfold tp; rfl
theorem tp_succ (j : Nat) : tp (j + 1) = tp j * 1000000000 := by unfold tp; exact Nat.pow_succ ..
theorem tp_one : tp 1 = 1000000000 := by rw [tp_succ, tp_zero]
theorem tp_pos (j : Nat) : 0 < tp j := by unfold tp; exact Nat.pow_pos (by decide)
theorem tp_add (i j : Nat) : tp (i + j) = tp i * tp j := by unfold tp; exact Nat.pow_add _ _ _
theorem tp_mono {i j : Nat} (h : i ≤ j) : tp i ≤ tp j := by
  obtain ⟨d, rfl⟩ := Nat.exists_eq_add_of_le h
  rw [tp_add]
  exact Nat.le_mul_of_pos_right _ (tp_pos d)
theorem tp_lt {i j : Nat} (h : tp i < tp j) : i < j := by
  rcases Nat.lt_or_ge i j with l | l
  · exact l
  · have := tp_mono l; omega
theorem tp_pow (j : Nat) : tp j = 1000000000 ^ j := by unfold tp; rfl
/-- What k limbs are as a number. -/
def Tn (f : Nat → Nat) : Nat → Nat
  | 0 => 0
  | k + 1 => Tn f k + f k * tp k
theorem Tn_zero (f : Nat → Nat) : Tn f 0 = 0 := rfl
theorem Tn_succ (f : Nat → Nat) (k : Nat) : Tn f (k + 1) = Tn f k + f k * tp k := rfl
theorem Tn_one (f : Nat → Nat) : Tn f 1 = f 0 := by rw [Tn_succ, Tn_zero, tp_zero]; omega
theorem Tn_congr {f g : Nat → Nat} : ∀ {k}, (∀ j, j < k → f j = g j) → Tn f k = Tn g k
  | 0, _ => rfl
  | k + 1, h => by rw [Tn_succ, Tn_succ, Tn_congr (fun j hj => h j (by omega)), h k (by omega)]
/-- Limbs are limbs. -/
def Ld (f : Nat → Nat) (k : Nat) : Prop := ∀ j, j < k → f j < 1000000000
theorem Tn_lt {f : Nat → Nat} : ∀ {k}, Ld f k → Tn f k < tp k
  | 0, _ => by rw [tp_zero]; exact Nat.zero_lt_one
  | k + 1, h => by
    have t := Tn_lt (f := f) (k := k) (fun j hj => h j (by omega))
    have u := h k (by omega)
    rw [Tn_succ, tp_succ]
    have q : f k * tp k ≤ 999999999 * tp k := Nat.mul_le_mul_right _ (by omega)
    omega
theorem Tn_zeros {f : Nat → Nat} : ∀ {k}, (∀ j, j < k → f j = 0) → Tn f k = 0
  | 0, _ => rfl
  | k + 1, h => by rw [Tn_succ, Tn_zeros (fun j hj => h j (by omega)), h k (by omega)]; omega
theorem Tn_split (f : Nat → Nat) (k : Nat) : ∀ m, Tn f (k + m) = Tn f k + tp k * Tn (fun j => f (k + j)) m
  | 0 => by simp [Tn]
  | m + 1 => by
    rw [← Nat.add_assoc, Tn_succ, Tn_split f k m, Tn_succ, tp_add, Nat.mul_add, Nat.mul_left_comm (tp k)]
    omega
theorem Tn_front (f : Nat → Nat) (m : Nat) : Tn f (m + 1) = f 0 + 1000000000 * Tn (fun j => f (j + 1)) m := by
  have h := Tn_split f 1 m
  rw [Tn_one, tp_one, Nat.add_comm 1 m] at h
  rw [h]
  have e : Tn (fun j => f (1 + j)) m = Tn (fun j => f (j + 1)) m := Tn_congr (fun j _ => by rw [Nat.add_comm])
  rw [e]
theorem Tn_ge {f : Nat → Nat} {k : Nat} (h : f k ≠ 0) : tp k ≤ Tn f (k + 1) := by
  rw [Tn_succ]
  have : 1 * tp k ≤ f k * tp k := Nat.mul_le_mul_right _ (by omega)
  omega
/-- No needless zeros. -/
def Tod (f : Nat → Nat) (k : Nat) : Prop := k = 0 ∨ f (k - 1) ≠ 0
theorem tod_ge {f : Nat → Nat} {k : Nat} (h : Tod f k) (hk : 0 < k) : tp (k - 1) ≤ Tn f k := by
  obtain ⟨m, rfl⟩ : ∃ m, k = m + 1 := ⟨k - 1, by omega⟩
  rcases h with h | h
  · omega
  · exact Tn_ge (by simpa using h)
theorem tod_len {f : Nat → Nat} {k K : Nat} (h : Tod f k) (hn : Tn f k < tp K) : k ≤ K := by
  rcases Nat.eq_zero_or_pos k with e | e
  · omega
  · have := tp_lt (Nat.lt_of_le_of_lt (tod_ge h e) hn)
    omega
theorem tod_zero {f : Nat → Nat} {k : Nat} (h : Tod f k) (hn : Tn f k = 0) : k = 0 := by
  rcases Nat.eq_zero_or_pos k with e | e
  · exact e
  · have := tod_ge h e; have := tp_pos (k - 1); omega
theorem dlen_lt {f g : Nat → Nat} {k m : Nat} (hf : Ld f k) (hg : Tod g m) (h : k < m) : Tn f k < Tn g m := by
  have a := Tn_lt hf
  have b := tod_ge hg (by omega)
  have c := tp_mono (show k ≤ m - 1 by omega)
  omega
/-- Numbers of equally many limbs differ as their highest limb that differs. -/
theorem dcmp_lt {f g : Nat → Nat} {k i : Nat} (hf : Ld f k) (hi : i < k) (hlt : f i < g i) (he : ∀ j, i < j → j < k → f j = g j) : Tn f k < Tn g k := by
  obtain ⟨m, rfl⟩ := Nat.exists_eq_add_of_lt hi
  rw [show i + m + 1 = (i + 1) + m by omega, Tn_split f (i + 1) m, Tn_split g (i + 1) m]
  have e : Tn (fun j => f (i + 1 + j)) m = Tn (fun j => g (i + 1 + j)) m := Tn_congr (fun j hj => he _ (by omega) (by omega))
  rw [e, Tn_succ, Tn_succ]
  have a := Tn_lt (f := f) (k := i) (fun j hj => hf j (by omega))
  have b : (f i + 1) * tp i ≤ g i * tp i := Nat.mul_le_mul_right _ (by omega)
  rw [Nat.add_mul, Nat.one_mul] at b
  omega
theorem Tn_inj {f g : Nat → Nat} : ∀ {k}, Ld f k → Ld g k → Tn f k = Tn g k → ∀ j, j < k → f j = g j
  | 0, _, _, _ => fun j hj => by omega
  | k + 1, hf, hg, h => by
    have a := Tn_lt (f := f) (k := k) (fun j hj => hf j (by omega))
    have b := Tn_lt (f := g) (k := k) (fun j hj => hg j (by omega))
    rw [Tn_succ, Tn_succ] at h
    have e : f k = g k := by
      rcases Nat.lt_trichotomy (f k) (g k) with l | l | l
      · have : (f k + 1) * tp k ≤ g k * tp k := Nat.mul_le_mul_right _ (by omega)
        rw [Nat.add_mul, Nat.one_mul] at this
        omega
      · exact l
      · have : (g k + 1) * tp k ≤ f k * tp k := Nat.mul_le_mul_right _ (by omega)
        rw [Nat.add_mul, Nat.one_mul] at this
        omega
    rw [e] at h
    intro j hj
    by_cases ej : j = k
    · rw [ej, e]
    · exact Tn_inj (f := f) (g := g) (k := k) (fun j hj => hf j (by omega)) (fun j hj => hg j (by omega)) (by omega) j (by omega)
theorem dstep_add {P G X Y c x y s c' : Nat} (h : G + c * P = X + Y) (h2 : x + y + c = s + c' * 1000000000) :
    (G + s * P) + c' * (P * 1000000000) = (X + x * P) + (Y + y * P) := by grind
theorem dstep_mul {P G X c x f s c' : Nat} {m0 : Nat} (h : G + c * P = f * X + m0) (h2 : x * f + c = s + c' * 1000000000) :
    (G + s * P) + c' * (P * 1000000000) = f * (X + x * P) + m0 := by grind
theorem dstep_addmul {P G X Y c x y f s c' : Nat} (h : G + c * P = Y + f * X) (h2 : x * f + c + y = s + c' * 1000000000) :
    (G + s * P) + c' * (P * 1000000000) = (Y + y * P) + f * (X + x * P) := by grind
theorem dstep_submul {P G X Y c x y f s c' : Nat} (h : G + f * X = Y + c * P) (h2 : s + (x * f + c) = y + c' * 1000000000) :
    (G + s * P) + f * (X + x * P) = (Y + y * P) + c' * (P * 1000000000) := by grind
theorem dstep_sub {P G X Y c x y s c' : Nat} (h : G + X = Y + c * P) (h2 : s + (x + c) = y + c' * 1000000000) :
    (G + s * P) + (X + x * P) = (Y + y * P) + c' * (P * 1000000000) := by grind
theorem Tn_put {f : Nat → Nat} {i x : Nat} : Tn (put f i x) (i + 1) = Tn f i + x * tp i := by
  rw [Tn_succ, put_same, Tn_congr (fun j hj => put_ne (by omega))]
theorem Tn_put_low {f : Nat → Nat} {i x k : Nat} (h : k ≤ i) : Tn (put f i x) k = Tn f k := Tn_congr (fun j hj => put_ne (by omega))
theorem ld_put {f : Nat → Nat} {i x k : Nat} (h : Ld f k) (hx : x < 1000000000) : Ld (put f i x) k := fun j hj => by
  unfold put
  split
  · exact hx
  · exact h j hj
end Go.Proofs.YtdkphfafcmogmaaGreatDoor
namespace Go.Proofs.YtdkphfafcmogmaaGreatDoor

theorem val_split (l : List UInt8) (m q : Nat) (hq : q ≤ m) (hm : m ≤ l.length) : val (l.take m) = val (l.take q) * 10 ^ (m - q) + val ((l.take m).drop q) := by
  have h := List.take_append_drop q (l.take m)
  rw [List.take_take, Nat.min_eq_left hq] at h
  have e := val_append (l.take q) ((l.take m).drop q)
  rw [h] at e
  rw [e, List.length_drop, List.length_take, Nat.min_eq_left hm]
theorem digs_mem {l : List UInt8} (h : digs l = true) : ∀ c, c ∈ l → isDig c = true := List.all_eq_true.1 h
theorem digs_sub {l m : List UInt8} (h : digs l = true) (hs : ∀ c, c ∈ m → c ∈ l) : digs m = true := List.all_eq_true.2 fun c hc => digs_mem h c (hs c hc)
theorem digs_take {l : List UInt8} (h : digs l = true) (m : Nat) : digs (l.take m) = true := digs_sub h fun _ hc => List.mem_of_mem_take hc
theorem digs_drop {l : List UInt8} (h : digs l = true) (m : Nat) : digs (l.drop m) = true := digs_sub h fun _ hc => List.mem_of_mem_drop hc
theorem tp_ten (j : Nat) : tp j = 10 ^ (9 * j) := by rw [tp_pow, Nat.pow_mul]
theorem parse_digs : ∀ (l : List UInt8) (acc : Nat), digs l = true → acc * 10 ^ l.length + val l < 1844674407370955162 → Lib.parseUint10 acc l = .ok (acc * 10 ^ l.length + val l)
  | [], acc, _, _ => by simp [Lib.parseUint10, val]
  | c :: r, acc, h, hb => by
    have hx : isDig c = true ∧ digs r = true := by simpa [digs] using h
    have h1 := isDig_iff.1 hx.1
    have e : val (c :: r) = (c.toNat - 48) * 10 ^ r.length + val r := by
      have := val_append [c] r
      simpa [val] using this
    have e2 : acc * 10 ^ (c :: r).length + val (c :: r) = (acc * 10 + (c.toNat - 48)) * 10 ^ r.length + val r := by
      rw [e, List.length_cons, Nat.pow_succ, Nat.add_mul]
      have : acc * (10 ^ r.length * 10) = acc * 10 * 10 ^ r.length := by grind
      omega
    rw [e2] at hb ⊢
    have hp : 0 < 10 ^ r.length := Nat.pow_pos (by decide)
    have hle : (acc * 10 + (c.toNat - 48)) * 1 ≤ (acc * 10 + (c.toNat - 48)) * 10 ^ r.length := Nat.mul_le_mul_left _ hp
    rw [Lib.parseUint10, if_pos h1, if_neg (by omega), if_neg (by omega)]
    exact parse_digs r _ hx.2 hb
theorem atoi_digs {l : List UInt8} (h : digs l = true) (hne : l ≠ []) (hl : l.length ≤ 9) : Lib.atoiAll l = .ok (val l : Int) := by
  cases l with
  | nil => exact absurd rfl hne
  | cons c r =>
    have hx : isDig c = true ∧ digs r = true := by simpa [digs] using h
    have h1 := isDig_iff.1 hx.1
    have hv := val_lt h
    have h9 : 10 ^ (c :: r).length ≤ 10 ^ 9 := Nat.pow_le_pow_right (by decide) hl
    have hv9 : val (c :: r) < 1000000000 := Nat.lt_of_lt_of_le hv h9
    have hp : Lib.parseMag (c :: r) = .ok (val (c :: r)) := by
      unfold Lib.parseMag
      rw [if_neg (by simp)]
      have := parse_digs (c :: r) 0 h (by rw [Nat.zero_mul, Nat.zero_add]; omega)
      rw [Nat.zero_mul, Nat.zero_add] at this
      exact this
    have n43 : ¬ (c.toNat = 43 ∨ c.toNat = 45) := by omega
    have n45 : ¬ c.toNat = 45 := by omega
    unfold Lib.atoiAll
    have n4 : ¬ c.toNat = 43 := by omega
    simp only [n4, n45, or_self, if_false, not_false_eq_true, true_and, false_and]
    rw [hp]
    show (if 9223372036854775808 ≤ val (c :: r) then Lib.NumEnd.range else Lib.NumEnd.ok (val (c :: r) : Int)) = _
    rw [if_neg (by omega)]
/-- One block more. -/
theorem block_more {l : List UInt8} {m j s : Nat} (hd : digs l = true) (hm : m ≤ l.length) (hm0 : 0 < m) (h : val (l.take m) * tp j + s = val l) :
    val (l.take (m - 9)) * tp (j + 1) + (s + val ((l.take m).drop (m - 9)) * tp j) = val l ∧ val ((l.take m).drop (m - 9)) < 1000000000 := by
  have hs := val_split l m (m - 9) (by omega) hm
  have hl : ((l.take m).drop (m - 9)).length ≤ 9 := by rw [List.length_drop, List.length_take]; omega
  have hv := val_lt (digs_drop (digs_take hd m) (m - 9))
  have h9 : 10 ^ ((l.take m).drop (m - 9)).length ≤ 10 ^ 9 := Nat.pow_le_pow_right (by decide) hl
  refine ⟨?_, Nat.lt_of_lt_of_le hv h9⟩
  generalize val ((l.take m).drop (m - 9)) = x at *
  rw [tp_succ]
  rcases Nat.lt_or_ge m 9 with l9 | l9
  · have e0 : m - 9 = 0 := by omega
    have z : val (l.take (m - 9)) = 0 := by rw [e0]; rfl
    rw [z] at hs ⊢
    rw [Nat.zero_mul, Nat.zero_add] at hs ⊢
    rw [← hs, ← h]
    omega
  · have e9 : m - (m - 9) = 9 := by omega
    rw [e9] at hs
    rw [← h, hs]
    have : (10 : Nat) ^ 9 = 1000000000 := by decide
    rw [this]
    grind
end Go.Proofs.YtdkphfafcmogmaaGreatDoor
