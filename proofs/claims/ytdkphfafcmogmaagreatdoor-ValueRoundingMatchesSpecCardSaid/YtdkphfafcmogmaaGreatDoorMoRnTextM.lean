/-
  Decimal texts of numbers of the reference: the arithmetic.
-/
import Derived.Test.YtdkphfafcmogmaaGreatDoorMo02
import Derived.Lib.Repeat
namespace Go.Proofs.YtdkphfafcmogmaaGreatDoor

def decB (n : Nat) : ByteArray := ⟨(Lib.decDigits n).toArray⟩
theorem decB_list (n : Nat) : (decB n).data.toList = Lib.decDigits n := by simp [decB]
theorem decB_size (n : Nat) : (decB n).size = (Lib.decDigits n).length := by simp [decB, ByteArray.size]
theorem dec_len : ∀ (k n : Nat), 0 < k → n < 10 ^ k → (Lib.decDigits n).length ≤ k
  | 0, _, h, _ => absurd h (by omega)
  | k + 1, n, _, h => by
    rw [Lib.decDigits.eq_def]
    split
    · simp
    · next hn =>
      have hk : 0 < k := by
        rcases Nat.eq_zero_or_pos k with e | e
        · subst e; simp at h; omega
        · exact e
      have := dec_len k (n / 10) hk (by rw [Nat.pow_succ] at h; omega)
      simp
      omega
theorem dec_pad : ∀ (k m d : Nat), 0 < m → d < 10 ^ k → Lib.decDigits (m * 10 ^ k + d) = Lib.decDigits m ++ padL k d
  | 0, m, d, _, h => by
    have : d = 0 := by simp at h; omega
    subst this
    simp [padL]
  | k + 1, m, d, hm, h => by
    have hp : 0 < 10 ^ k := Nat.pow_pos (by decide)
    have e : m * 10 ^ (k + 1) = m * 10 ^ k * 10 := by rw [Nat.pow_succ, Nat.mul_assoc]
    have hp2 : 1 ≤ m * 10 ^ k := Nat.mul_pos hm hp
    have e1 : (m * 10 ^ (k + 1) + d) / 10 = m * 10 ^ k + d / 10 := by omega
    have e2 : (m * 10 ^ (k + 1) + d) % 10 = d % 10 := by omega
    rw [Lib.decDigits.eq_def, dif_neg (by omega), e1, e2, dec_pad k m (d / 10) hm (by rw [Nat.pow_succ] at h; omega), padL_succ, List.append_assoc]
theorem pad_nul : ∀ k : Nat, padL k 0 = List.replicate k 48
  | 0 => rfl
  | k + 1 => by rw [padL_succ, Nat.zero_div, pad_nul k, List.replicate_succ']; rfl
theorem rep_zeros (c : Nat) : Lib.repeatL [48] c = List.replicate c 48 := by
  have := Lib.repeatL_replicate 48 1 c
  rw [Nat.mul_one] at this
  exact this
theorem pad_rep : ∀ (k d : Nat), 0 < k → d < 10 ^ k → Lib.repeatL [48] (k - (Lib.decDigits d).length) ++ Lib.decDigits d = padL k d
  | 0, _, h, _ => absurd h (by omega)
  | k + 1, d, _, h => by
    rw [Lib.decDigits.eq_def, padL_succ]
    split
    · next hd =>
      have e1 : d / 10 = 0 := by omega
      have e2 : d % 10 = d := by omega
      rw [e1, e2, pad_nul, rep_zeros]
      simp
    · next hd =>
      have hk : 0 < k := by
        rcases Nat.eq_zero_or_pos k with e | e
        · subst e; simp at h; omega
        · exact e
      have := pad_rep k (d / 10) hk (by rw [Nat.pow_succ] at h; omega)
      rw [List.length_append, List.length_singleton, Nat.add_sub_add_right, ← List.append_assoc, this]
theorem Tn_top {f : Nat → Nat} {k p : Nat} (h : Ld f k) (hp : p ≤ k) : Tn f k / tp p = Tn (fun j => f (p + j)) (k - p) := by
  have e := Tn_split f p (k - p)
  rw [Nat.add_sub_cancel' hp] at e
  rw [e, Nat.add_mul_div_left _ _ (tp_pos p), Nat.div_eq_of_lt (Tn_lt fun j hj => h j (by omega)), Nat.zero_add]
theorem Tn_digit {f : Nat → Nat} {k p : Nat} (h : Ld f k) (hp : p < k) : Tn f k / tp p = Tn f k / tp (p + 1) * 1000000000 + f p := by
  rw [Tn_top h (by omega), Tn_top h (show p + 1 ≤ k by omega)]
  obtain ⟨m, hm⟩ : ∃ m, k - p = m + 1 := ⟨k - p - 1, by omega⟩
  have e : k - (p + 1) = m := by omega
  rw [hm, e, Tn_front, Nat.add_zero, Nat.add_comm, Nat.mul_comm]
  have e2 : Tn (fun j => f (p + (j + 1))) m = Tn (fun j => f (p + 1 + j)) m := Tn_congr fun j _ => by rw [Nat.add_right_comm, Nat.add_assoc]
  rw [e2]
/-- The text with one digit more. -/
theorem dec_next {f : Nat → Nat} {k p : Nat} (h : Ld f k) (hp : p < k) (h0 : 0 < Tn f k / tp (p + 1)) :
    Lib.decDigits (Tn f k / tp p) = Lib.decDigits (Tn f k / tp (p + 1)) ++ Lib.repeatL [48] (9 - (Lib.decDigits (f p)).length) ++ Lib.decDigits (f p) := by
  have hd : f p < 10 ^ 9 := h p hp
  rw [Tn_digit h hp, List.append_assoc, pad_rep 9 (f p) (by decide) hd, ← dec_pad 9 _ _ h0 hd]
theorem Tn_last {f : Nat → Nat} {k : Nat} (h : Ld f k) (hk : 0 < k) : Tn f k / tp (k - 1) = f (k - 1) := by
  rw [Tn_top h (by omega), show k - (k - 1) = 1 by omega, Tn_one, Nat.add_zero]
theorem dec_short {n k : Nat} (hk : 0 < k) (h : n < tp k) : (Lib.decDigits n).length ≤ 9 * k := dec_len (9 * k) n (by omega) (by rw [← tp_ten]; exact h)
end Go.Proofs.YtdkphfafcmogmaaGreatDoor
