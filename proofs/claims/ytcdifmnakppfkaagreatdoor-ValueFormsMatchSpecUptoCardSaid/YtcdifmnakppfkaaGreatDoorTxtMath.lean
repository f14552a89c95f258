/-
  The plain mathematics of the texts of values: quotes doubled and undoubled, lists joined and split, numerals written and read.
-/
import Derived.Lib.Replace
import Derived.Lib.ReplaceLaws
import Derived.Lib.ItoaNum
import Derived.Lib.AtoiTie
import Derived.Lib.AtoiAllCases
import Derived.Lib.Repeat
import Derived.Lib.Join
import Derived.Lib.TrimByte
namespace Go.Txt
open Go.Lib

/-! ### Quotes -/
def ra (old new s : List UInt8) : List UInt8 := replaceK old new (count s old) s
theorem replaceAll_eq (s old new : List UInt8) (h : (old == new) = false) : replaceAll s old new = ra old new s := by
  unfold replaceAll replace ra replaceNum
  rw [if_neg (by simp [h]), if_pos (.inl (by omega))]
theorem ra_miss {old new s : List UInt8} (h : index s old = -1) : ra old new s = s := by
  unfold ra; rw [count_miss h]; rfl
theorem ra_hit {old new s : List UInt8} (ho : old ≠ []) {i : Nat} (h : index s old = i) : ra old new s = s.take i ++ new ++ ra old new (s.drop (i + old.length)) := by
  unfold ra
  rw [count_hit ho h, Nat.add_comm, replaceK_hit old new _ s i h]
theorem ra_nil {old new : List UInt8} (ho : old ≠ []) : ra old new [] = [] := by
  apply ra_miss
  cases old with
  | nil => exact absurd rfl ho
  | cons a t => rfl
theorem ra_skip {old new r : List UInt8} {c : UInt8} (ho : old ≠ []) (h : old.isPrefixOf (c :: r) = false) : ra old new (c :: r) = c :: ra old new r := by
  rcases index_spec r old with ⟨h1, _⟩ | ⟨i, h1, _, _, _⟩
  · have e : index (c :: r) old = -1 := by unfold index; rw [h, h1]; rfl
    rw [ra_miss e, ra_miss h1]
  · have e : index (c :: r) old = ((i + 1 : Nat) : Int) := by
      unfold index; rw [h, h1]
      have : ((i : Int) == -1) = false := by rw [beq_eq_false_iff_ne]; omega
      simp [this]
    rw [ra_hit ho e, ra_hit ho h1]
    simp [Nat.add_right_comm]
theorem ra_head {old new r : List UInt8} (ho : old ≠ []) : ra old new (old ++ r) = new ++ ra old new r := by
  have e : index (old ++ r) old = ((0 : Nat) : Int) := by
    apply index_first (Nat.zero_le _)
    · simp [occAt]
    · intro j hj; omega
  rw [ra_hit ho e]
  simp

theorem ra_le {old new : List UInt8} (ho : old ≠ []) (hn : new.length ≤ old.length) : ∀ (k : Nat) (s : List UInt8), s.length ≤ k → (ra old new s).length ≤ s.length
  | k, s, hk => by
    rcases index_spec s old with ⟨h1, _⟩ | ⟨i, h1, _, _, _⟩
    · rw [ra_miss h1]; exact Nat.le_refl _
    · have hr := index_room s old (by omega)
      have hl : 0 < old.length := by
        cases old with
        | nil => exact absurd rfl ho
        | cons a b => simp
      rw [ra_hit ho h1]
      cases k with
      | zero => omega
      | succ k =>
        have ih := ra_le ho hn k (s.drop (i + old.length)) (by rw [List.length_drop]; omega)
        rw [List.length_drop] at ih
        simp only [List.length_append, List.length_take]
        omega
theorem replaceAll_le (s old new : List UInt8) (ho : old ≠ []) (hn : new.length ≤ old.length) (h : (old == new) = false) : (replaceAll s old new).length ≤ s.length := by
  rw [replaceAll_eq _ _ _ h]; exact ra_le ho hn _ s (Nat.le_refl _)

def dbl (s : List UInt8) : List UInt8 := s.flatMap fun c => if c = 39 then [39, 39] else [c]
theorem dbl_eq (s : List UInt8) : replaceAll s [39] [39, 39] = dbl s := by
  rw [replaceAll_eq _ _ _ (by decide)]
  induction s with
  | nil => exact ra_nil (by simp)
  | cons c r ih =>
    by_cases h : c = 39
    · subst h
      have e := ra_head (old := [39]) (new := [39, 39]) (r := r) (by simp)
      rw [show (39 : UInt8) :: r = [39] ++ r from rfl, e, ih]
      simp [dbl]
    · rw [ra_skip (by simp) (by simp [List.isPrefixOf, Ne.symm h]), ih]
      simp [dbl, h]
theorem undbl (s : List UInt8) : replaceAll (dbl s) [39, 39] [39] = s := by
  rw [replaceAll_eq _ _ _ (by decide)]
  induction s with
  | nil => exact ra_nil (by simp)
  | cons c r ih =>
    by_cases h : c = 39
    · subst h
      have e := ra_head (old := [39, 39]) (new := [39]) (r := dbl r) (by simp)
      have e2 : dbl (39 :: r) = [39, 39] ++ dbl r := by simp [dbl]
      rw [e2, e, ih]
      rfl
    · have e2 : dbl (c :: r) = c :: dbl r := by simp [dbl, h]
      rw [e2, ra_skip (by simp) (by simp [List.isPrefixOf, Ne.symm h]), ih]
theorem dbl_len (s : List UInt8) : (dbl s).length ≤ 2 * s.length := by
  induction s with
  | nil => simp [dbl]
  | cons c r ih =>
    have e2 : dbl (c :: r) = (if c = 39 then [39, 39] else [c]) ++ dbl r := by simp [dbl]
    rw [e2, List.length_append, List.length_cons]
    split <;> simp <;> omega

/-! ### Splitting what was joined -/
theorem index_none_of {x : List UInt8} {c : UInt8} (h : c ∉ x) : index x [c] = -1 := by
  apply index_none
  intro j _
  cases e : occAt x [c] j with
  | false => rfl
  | true =>
    have := occAt_head (c := c) (t := []) rfl e
    exact absurd (List.mem_of_getElem? this) h
theorem index_at {x r : List UInt8} {c : UInt8} (h : c ∉ x) : index (x ++ c :: r) [c] = (x.length : Int) := by
  apply index_first (by simp)
  · simp [occAt]
  · intro j hj
    cases e : occAt (x ++ c :: r) [c] j with
    | false => rfl
    | true =>
      have h2 := occAt_head (c := c) (t := []) rfl e
      rw [List.getElem?_append_left hj] at h2
      exact absurd (List.mem_of_getElem? h2) h
theorem split_join (c : UInt8) : ∀ (xs : List (List UInt8)) (k : Nat), xs ≠ [] → xs.length ≤ k + 1 → (∀ x ∈ xs, c ∉ x) → splitK [c] 0 k (join xs [c]) = xs
  | [], _, h, _, _ => absurd rfl h
  | [x], k, _, _, hc => by
    rw [join_one]
    have h1 := index_none_of (hc x (by simp))
    cases k with
    | zero => rfl
    | succ k => unfold splitK; rw [if_pos (beq_iff_eq.2 h1)]
  | x :: y :: r, 0, _, hl, _ => by simp at hl
  | x :: y :: r, k + 1, _, hl, hc => by
    have e : join (x :: y :: r) [c] = x ++ c :: join (y :: r) [c] := by
      rw [join_cons, join_cons]; simp [joinTail]
    have h1 := index_at (r := join (y :: r) [c]) (hc x (by simp))
    have ih := split_join c (y :: r) k (by simp) (by simpa using hl) (fun z hz => hc z (List.mem_cons_of_mem _ hz))
    rw [e]
    unfold splitK
    rw [h1, if_neg (by simp), show ((x.length : Int)).toNat = x.length by omega]
    have d : (x ++ c :: join (y :: r) [c]).drop (x.length + [c].length) = join (y :: r) [c] := by
      rw [List.drop_append]; simp
    have t : (x ++ c :: join (y :: r) [c]).take (x.length + 0) = x := by simp
    rw [d, t, ih]

/-! ### Numerals -/
theorem decFrom_append : ∀ (l r : List UInt8) (a b : Nat), decFrom a l = some b → decFrom a (l ++ r) = decFrom b r
  | [], r, a, b, h => by simp only [decFrom, Option.some.injEq] at h; subst h; rfl
  | c :: l, r, a, b, h => by
    simp only [decFrom, List.cons_append] at h ⊢
    split at h
    · exact decFrom_append l r _ b h
    · cases h
theorem digit_of {d : Nat} (h : d < 10) : digitVal (UInt8.ofNat (48 + d)) = some d := by
  have e : (UInt8.ofNat (48 + d)).toNat = 48 + d := by simp; omega
  unfold digitVal
  rw [e, if_pos (by omega)]
  congr 1; omega
theorem decFrom_dec (u : Nat) : ∀ a, decFrom a (decDigits u) = some (a * 10 ^ nDigits u + u) := by
  induction u using Nat.strongRecOn with
  | _ u ih =>
    intro a
    by_cases h : u < 10
    · rw [decDigits, dif_pos h, nDigits_small h]
      simp only [decFrom, digit_of h, Nat.pow_one]
    · rw [decDigits, dif_neg h, nDigits_big h, decFrom_append _ _ _ _ (ih (u / 10) (by omega) a)]
      simp only [decFrom, digit_of (Nat.mod_lt u (by decide : 10 > 0)), Nat.pow_succ]
      congr 1
      have := Nat.div_add_mod u 10
      rw [Nat.add_mul, Nat.mul_assoc]
      omega
theorem decFrom_zeros (k : Nat) (l : List UInt8) : decFrom 0 (List.replicate k 48 ++ l) = decFrom 0 l := by
  induction k with
  | zero => simp
  | succ k ih =>
    rw [List.replicate_succ, List.cons_append]
    have e : digitVal 48 = some 0 := by decide
    simp only [decFrom, e]
    exact ih
/-- The digits of a numeral. -/
theorem dec_digit (u : Nat) : ∀ b ∈ decDigits u, 48 ≤ b.toNat ∧ b.toNat ≤ 57 := by
  induction u using Nat.strongRecOn with
  | _ u ih =>
    intro b hb
    by_cases h : u < 10
    · rw [decDigits, dif_pos h] at hb
      simp only [List.mem_singleton] at hb
      subst hb
      have e : (UInt8.ofNat (48 + u)).toNat = 48 + u := by simp; omega
      omega
    · rw [decDigits, dif_neg h] at hb
      rcases List.mem_append.1 hb with hb | hb
      · exact ih (u / 10) (by omega) b hb
      · simp only [List.mem_singleton] at hb
        subst hb
        have e : (UInt8.ofNat (48 + u % 10)).toNat = 48 + u % 10 := by simp; omega
        omega
theorem dec_ne (u : Nat) : decDigits u ≠ [] := by
  intro h
  have := decDigits_length u
  rw [h] at this
  have := nDigits_pos u
  simp at *; omega

/-- What 'natural' makes of digits. -/
def natF (l : List UInt8) : Int := match atoiAll l with
  | .ok v => if v < 0 then -1 else v
  | _ => -1
theorem natF_ge (l : List UInt8) : -1 ≤ natF l := by
  unfold natF; split
  · split <;> omega
  · omega
theorem natF_le (l : List UInt8) : natF l ≤ 9223372036854775807 := by
  unfold natF; split
  · rename_i v h; have := atoiAll_bounds h; split <;> omega
  · omega
/-- Digits alone, not more than 18. -/
theorem natF_of {l : List UInt8} {m : Nat} (hl : l.length ≤ 18) (hne : l ≠ []) (hd : ∀ b ∈ l, 48 ≤ b.toNat ∧ b.toNat ≤ 57) (h : decFrom 0 l = some m) : natF l = m := by
  cases l with
  | nil => exact absurd rfl hne
  | cons b r =>
    have hb := hd b (by simp)
    have e : atoi (b :: r) = some (m : Int) := by
      have h1 : (b == 45) = false := by rw [beq_eq_false_iff_ne]; rintro rfl; revert hb; decide
      have h2 : (b == 43) = false := by rw [beq_eq_false_iff_ne]; rintro rfl; revert hb; decide
      simp only [atoi, h1, h2]
      simp [decNat, h]
    unfold natF
    rw [atoiAll_short _ hl, e]
    simp only [NumEnd.ofOption]
    rw [if_neg (by omega)]

/-- A number with a least number of digits. -/
def pad (size u : Nat) : List UInt8 := List.replicate (size - (decDigits u).length) 48 ++ decDigits u
theorem pad_digit (k u : Nat) : ∀ b ∈ pad k u, 48 ≤ b.toNat ∧ b.toNat ≤ 57 := by
  intro b hb
  rcases List.mem_append.1 hb with h | h
  · have := List.eq_of_mem_replicate h; subst this; decide
  · exact dec_digit u b h
theorem nDigits_le {u k : Nat} (h : u < 10 ^ (k + 1)) : nDigits u ≤ k + 1 := by
  by_cases h0 : u < 10
  · rw [nDigits_small h0]; omega
  · induction k generalizing u with
    | zero => simp at h; omega
    | succ k ih =>
      rw [nDigits_big h0]
      by_cases h1 : u / 10 < 10
      · rw [nDigits_small h1]; omega
      · have := ih (u := u / 10) (by rw [Nat.pow_succ] at h; omega) h1
        omega
theorem pad_len {k u : Nat} (h : u < 10 ^ (k + 1)) : (pad (k + 1) u).length = k + 1 := by
  have h1 := nDigits_le h
  rw [pad, List.length_append, List.length_replicate, decDigits_length]
  omega
theorem natF_pad {k u : Nat} (h : u < 10 ^ (k + 1)) (hk : k < 18) : natF (pad (k + 1) u) = u := by
  apply natF_of
  · rw [pad_len h]; omega
  · intro e; have := pad_len h; rw [e] at this; simp at this
  · exact pad_digit _ _
  · rw [pad, decFrom_zeros, decFrom_dec]; simp
theorem natF_dec {k u : Nat} (h : u < 10 ^ (k + 1)) (hk : k < 18) : natF (decDigits u) = u := by
  apply natF_of
  · rw [decDigits_length]; have := nDigits_le h; omega
  · exact dec_ne u
  · exact dec_digit u
  · rw [decFrom_dec]; simp

/-! ### What was trimmed comes back -/
theorem trim_back (l : List UInt8) (c : UInt8) : trimRightB l c ++ List.replicate (l.length - (trimRightB l c).length) c = l := by
  have e := List.takeWhile_append_dropWhile (p := (· == c)) (l := l.reverse)
  have h1 : l = (l.reverse.dropWhile (· == c)).reverse ++ (l.reverse.takeWhile (· == c)).reverse := by
    rw [← List.reverse_append, e, List.reverse_reverse]
  have h2 : ∀ x ∈ l.reverse.takeWhile (· == c), x = c := fun x hx => by
    simpa using List.all_takeWhile (p := (· == c)) (l := l.reverse) |> fun h => (List.all_eq_true.1 h) x hx
  have h3 : (l.reverse.takeWhile (· == c)).reverse = List.replicate (l.reverse.takeWhile (· == c)).length c := by
    rw [List.eq_replicate_of_mem h2]; simp
  have h4 : l.length = (trimRightB l c).length + (l.reverse.takeWhile (· == c)).length := by
    conv => lhs; rw [h1]
    rw [List.length_append, trimRightB]; simp
  have h5 : l.length - (trimRightB l c).length = (l.reverse.takeWhile (· == c)).length := by omega
  rw [h5, ← h3]
  exact h1.symm
theorem trim_le (l : List UInt8) (c : UInt8) : (trimRightB l c).length ≤ l.length := by
  have := congrArg List.length (trim_back l c)
  rw [List.length_append] at this; omega

/-! ### The texts of values -/
/-- What stands behind the ones of a Number. -/
def fracT (r : Nat) : List UInt8 := if r = 0 then [] else 46 :: trimRightB (pad 4 r) 48
def magT (m : Nat) : List UInt8 := decDigits (m / 10000) ++ fracT (m % 10000)
def numT (n : Int) : List UInt8 := if n < 0 then 45 :: magT n.natAbs else magT n.natAbs
def codeT (n : Int) : List UInt8 := 35 :: itoa n
def setT (l : List Int) : List UInt8 := 123 :: (join (l.map codeT) [44] ++ [125])
def dayT (y m d : Nat) : List UInt8 := 64 :: (pad 4 y ++ 45 :: (pad 2 m ++ 45 :: pad 2 d))
end Go.Txt
