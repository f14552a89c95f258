/-
  Reading decimal texts of numbers of any size: the arithmetic.
-/
import Derived.Test.YtaibpppobblnoaaDoorWhTextM
namespace Go.Proofs.YtaibpppobblnoaaDoor

/-- The number that digits write. -/
def val (l : List UInt8) : Nat := l.foldl (fun a c => a * 10 + (c.toNat - 48)) 0
theorem val_nil : val [] = 0 := rfl
theorem foldl_val (l : List UInt8) : ∀ a : Nat, l.foldl (fun a c => a * 10 + (c.toNat - 48)) a = a * 10 ^ l.length + val l := by
  induction l with
  | nil => intro a; simp [val]
  | cons x l ih =>
    intro a
    have e : val (x :: l) = (0 * 10 + (x.toNat - 48)) * 10 ^ l.length + val l := by
      show l.foldl _ (0 * 10 + (x.toNat - 48)) = _
      exact ih _
    rw [Nat.zero_mul, Nat.zero_add] at e
    rw [e, List.foldl_cons, ih, List.length_cons, Nat.pow_succ]
    have : (a * 10 + (x.toNat - 48)) * 10 ^ l.length = a * (10 ^ l.length * 10) + (x.toNat - 48) * 10 ^ l.length := by grind
    omega
theorem val_append (a b : List UInt8) : val (a ++ b) = val a * 10 ^ b.length + val b := by
  unfold val
  rw [List.foldl_append]
  exact foldl_val b _
theorem val_snoc (a : List UInt8) (x : UInt8) : val (a ++ [x]) = val a * 10 + (x.toNat - 48) := by
  rw [val_append]; simp [val]
/-- A digit. -/
def isDig (c : UInt8) : Bool := decide (48 ≤ c.toNat) && decide (c.toNat ≤ 57)
theorem isDig_iff {c : UInt8} : isDig c = true ↔ 48 ≤ c.toNat ∧ c.toNat ≤ 57 := by unfold isDig; simp
def digs (l : List UInt8) : Bool := l.all isDig
theorem digs_append (a b : List UInt8) : digs (a ++ b) = (digs a && digs b) := by unfold digs; exact List.all_append
theorem val_lt {l : List UInt8} : digs l = true → val l < 10 ^ l.length := by
  induction l with
  | nil => intro _; simp [val]
  | cons x l ih =>
    intro h
    have hx : isDig x = true ∧ digs l = true := by simpa [digs] using h
    have h1 := isDig_iff.1 hx.1
    have h2 := ih hx.2
    have e : val (x :: l) = (x.toNat - 48) * 10 ^ l.length + val l := by
      have := val_append [x] l
      simpa [val] using this
    rw [e, List.length_cons, Nat.pow_succ]
    have : (x.toNat - 48) * 10 ^ l.length ≤ 9 * 10 ^ l.length := Nat.mul_le_mul_right _ (by omega)
    omega
theorem digs_dec (n : Nat) : digs (Lib.decDigits n) = true := by
  induction n using Nat.strongRecOn with
  | _ n ih =>
    rw [Lib.decDigits.eq_def]
    split
    · next h =>
      simp only [digs, List.all_cons, List.all_nil, Bool.and_true]
      rw [isDig_iff, digit_toNat h]
      omega
    · next h =>
      rw [digs_append, ih (n / 10) (by omega)]
      simp only [digs, List.all_cons, List.all_nil, Bool.and_true, Bool.true_and]
      rw [isDig_iff, digit_toNat (Nat.mod_lt _ (by decide))]
      omega
theorem val_dec (n : Nat) : val (Lib.decDigits n) = n := by
  induction n using Nat.strongRecOn with
  | _ n ih =>
    rw [Lib.decDigits.eq_def]
    split
    · next h =>
      have : val [UInt8.ofNat (48 + n)] = (UInt8.ofNat (48 + n)).toNat - 48 := by simp [val]
      rw [this, digit_toNat h]; omega
    · next h =>
      rw [val_snoc, ih (n / 10) (by omega), digit_toNat (Nat.mod_lt _ (by decide))]
      omega
/-- The first digit is no 0, but of 0 itself. -/
theorem head_dec (n : Nat) : ∃ c r, Lib.decDigits n = c :: r ∧ (c.toNat = 48 → n = 0 ∧ r = []) := by
  induction n using Nat.strongRecOn with
  | _ n ih =>
    rw [Lib.decDigits.eq_def]
    split
    · next h =>
      refine ⟨_, [], rfl, fun e => ?_⟩
      rw [digit_toNat h] at e
      exact ⟨by omega, rfl⟩
    · next h =>
      obtain ⟨c, r, e, hc⟩ := ih (n / 10) (by omega)
      refine ⟨c, r ++ [UInt8.ofNat (48 + n % 10)], by rw [e]; rfl, fun h48 => ?_⟩
      have := (hc h48).1
      omega
theorem pow_bp (m : Nat) : 10 ^ (16 * m) ≤ bp m := by
  rw [bp_pow, Nat.pow_mul]
  exact Nat.pow_le_pow_left (by decide) m
theorem val_bp {l : List UInt8} (h : digs l = true) (hl : l.length ≤ 2000) : val l < bp 125 :=
  by
  have h1 : l.length ≤ 16 * 125 := by omega
  have h2 := pow_bp 125
  have h3 := val_lt h
  generalize 16 * 125 = m at h1 h2
  exact Nat.lt_of_lt_of_le h3 (Nat.le_trans (Nat.pow_le_pow_right (by decide) h1) h2)
/-- What a text without its sign is: digits of a number without needless zeros. -/
def zread (l : List UInt8) : Option Int :=
  let ds := Lib.trimPrefix l [45]
  let neg := decide (ds.length < l.length)
  if ds = [] ∨ (ds.head? = some 48 ∧ (neg = true ∨ 1 < ds.length)) ∨ digs ds = false then none
  else some (if neg then -(val ds : Int) else val ds)
theorem trim_minus (l : List UInt8) : Lib.trimPrefix (45 :: l) [45] = l := by simp [Lib.trimPrefix, Lib.hasPrefix]
theorem trim_plain {c : UInt8} {r : List UInt8} (h : c.toNat ≠ 45) : Lib.trimPrefix (c :: r) [45] = c :: r := by
  have hc : c ≠ 45 := fun e => h (by rw [e]; rfl)
  have hc' : ¬ (45 : UInt8) = c := fun e => hc e.symm
  simp [Lib.trimPrefix, Lib.hasPrefix, hc, hc']
theorem zread_tz (neg : Bool) (n : Nat) (h : neg = true → 0 < n) : zread (if neg then 45 :: Lib.decDigits n else Lib.decDigits n) = some (if neg then -(n : Int) else n) := by
  obtain ⟨c, r, e, hc⟩ := head_dec n
  have hd := digs_dec n
  have hv := val_dec n
  have h48 : c = 48 → c.toNat = 48 := fun e => by rw [e]; rfl
  cases neg
  · have hx : isDig c = true := by rw [e] at hd; simp [digs] at hd; exact hd.1
    have hn := (isDig_iff.1 hx).1
    simp only [Bool.false_eq_true, if_false]
    unfold zread
    rw [e, trim_plain (by omega), ← e]
    have hne : ¬ (Lib.decDigits n).length < (Lib.decDigits n).length := by omega
    simp only [decide_eq_false hne]
    rw [if_neg ?_, hv]
    · rfl
    · rintro (h1 | ⟨h1, h2⟩ | h1)
      · rw [e] at h1; cases h1
      · rw [e] at h1 h2
        have := hc (h48 (by simpa using h1))
        rw [this.2] at h2
        simp at h2
      · rw [hd] at h1; cases h1
  · have hp := h rfl
    simp only [if_true]
    unfold zread
    rw [trim_minus]
    have hne : (Lib.decDigits n).length < (45 :: Lib.decDigits n).length := by simp
    simp only [decide_eq_true hne]
    rw [if_neg ?_, hv]
    · rfl
    · rintro (h1 | ⟨h1, h2⟩ | h1)
      · rw [e] at h1; cases h1
      · rw [e] at h1
        have := hc (h48 (by simpa using h1))
        omega
      · rw [hd] at h1; cases h1
end Go.Proofs.YtaibpppobblnoaaDoor
