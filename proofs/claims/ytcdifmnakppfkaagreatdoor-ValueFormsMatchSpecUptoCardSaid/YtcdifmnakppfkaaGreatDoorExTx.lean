/-
  The texts of the expressions of a row that CheckExpr accepts, and their lengths.
-/
import Derived.Test.YtcdifmnakppfkaaGreatDoorExSpec
import Derived.Test.YtcdifmnakppfkaaGreatDoorExText
import Derived.Test.YtcdifmnakppfkaaGreatDoorTxtLaw
namespace Go.Proofs.YtcdifmnakppfkaaGreatDoor
open Go.RowKit

noncomputable def plainS (h : Hd) (xs : List Tx) : List UInt8 :=
  if h.k = 1 then showT h.vk h.vn h.vs h.vl else if h.k = 2 then h.nm.data.toList else if h.k = 3 then rowT h.nm.data.toList
  else if h.k = 5 then overT h.o.toNat h.nm.data.toList xs else opT h.o.toNat xs
def posS (h : Hd) : Bool := decide (h.k = 1 ∧ h.vk = 2 ∧ 0 ≤ h.vn)
noncomputable def txs : Fo → List Tx
  | .nil => []
  | .cons h a r => ⟨plainS h (txs a), rowS h.k h.o, posS h⟩ :: txs r
noncomputable def txOf (h : Hd) (a : Fo) : Tx := ⟨plainS h (txs a), rowS h.k h.o, posS h⟩
theorem txs_cons (h : Hd) (a r : Fo) : txs (.cons h a r) = txOf h a :: txs r := rfl
theorem txs_len : ∀ xs : Fo, (txs xs).length = xs.len
  | .nil => rfl
  | .cons h a r => by rw [txs_cons, List.length_cons, txs_len r]; rfl
theorem txs_drop : ∀ (k : Nat) (xs : Fo), txs (xs.drop k) = (txs xs).drop k
  | 0, _ => by simp [Fo.drop]
  | k + 1, .nil => by simp [Fo.drop, txs]
  | k + 1, .cons h a r => by simp only [Fo.drop, txs_cons, List.drop_succ_cons]; exact txs_drop k r
theorem txs_at {k : Nat} {xs : Fo} {h : Hd} {a : Fo} (hk : xs.drop k = .cons h a (xs.drop (k + 1))) : (txs xs).getD k default = txOf h a := by
  have e := txs_drop k xs
  rw [hk, txs_cons] at e
  have : ((txs xs).drop k)[0]? = some (txOf h a) := by rw [← e]; rfl
  rw [List.getElem?_drop] at this
  rw [List.getD_eq_getElem?_getD]
  simp at this
  rw [this]; rfl

/-- What CheckExpr says of a part that it accepts. -/
theorem part_ok {h : Hd} {a : Fo} (e : partS h a = 0) :
    (h.k = 1 ∧ Good h.vk h.vn h.vs h.vl) ∨ (h.k = 2 ∧ h.nm.size ≤ 16) ∨ (h.k = 3 ∧ h.nm.size ≤ 16) ∨ (h.k = 4 ∧ 1 ≤ h.o ∧ h.o ≤ 39 ∧ leastS h.o ≤ (a.len : Int) ∧ (a.len : Int) ≤ mostS h.o) ∨ (h.k = 5 ∧ 1 ≤ h.o ∧ h.o ≤ 6 ∧ a.len = 1 ∧ h.nm.size ≤ 16) := by
  have nm16 : nameS h.nm = true → h.nm.size ≤ 16 := fun hn => by
    unfold nameS at hn; simp at hn; omega
  unfold partS at e
  by_cases hk : knownS h.k h.o = false
  · rw [if_pos hk] at e; omega
  rw [if_neg hk] at e
  by_cases hf : formS h.k h.o h.nm h.vk h.vn h.vs h.vl.length a.len = false
  · rw [if_pos hf] at e; omega
  rw [if_neg hf] at e
  have hk1 : knownS h.k h.o = true := by simpa using hk
  have hf1 : formS h.k h.o h.nm h.vk h.vn h.vs h.vl.length a.len = true := by simpa using hf
  unfold knownS at hk1
  simp only [decide_eq_true_eq] at hk1
  unfold formS at hf1
  simp only [decide_eq_true_eq] at hf1
  obtain ⟨_, _, _, f4, f5⟩ := hf1
  rcases hk1 with h1 | h1 | h1 | h1 | h1
  · rw [if_pos h1] at e
    split at e
    · omega
    · exact .inl ⟨h1, good_of e⟩
  · rw [if_neg (by omega), if_pos (by omega)] at e
    split at e
    · omega
    · rename_i hn; exact .inr (.inl ⟨h1, nm16 (by simpa using hn)⟩)
  · rw [if_neg (by omega), if_pos (by omega)] at e
    split at e
    · omega
    · rename_i hn; exact .inr (.inr (.inl ⟨h1, nm16 (by simpa using hn)⟩))
  · obtain ⟨h1, h2, h3⟩ := h1
    unfold leastK at f4; unfold mostK at f5
    rw [if_pos h1] at f4 f5
    exact .inr (.inr (.inr (.inl ⟨h1, h2, h3, f4, f5⟩)))
  · obtain ⟨h1, h2, h3⟩ := h1
    unfold leastK at f4; unfold mostK at f5
    rw [if_neg (by omega), if_pos h1] at f4 f5
    rw [if_neg (by omega), if_pos (by omega)] at e
    split at e
    · omega
    · rename_i hn; exact .inr (.inr (.inr (.inr ⟨h1, h2, h3, by omega, nm16 (by simpa using hn)⟩)))
theorem one_ok {h : Hd} {a : Fo} (e : oneS h a = 0) : partS h a = 0 ∧ allS a = 0 := by
  unfold oneS at e
  split at e
  · contradiction
  · rename_i h1; exact ⟨by simpa using h1, e⟩
theorem all_at {k : Nat} {xs : Fo} {h : Hd} {a : Fo} (hk : xs.drop k = .cons h a (xs.drop (k + 1))) (e : allS xs = 0) : oneS h a = 0 := by
  have key : ∀ (k : Nat) (xs : Fo), allS xs = 0 → allS (xs.drop k) = 0 := by
    intro k
    induction k with
    | zero => intro xs e; simpa [Fo.drop] using e
    | succ k ih =>
      intro xs e
      cases xs with
      | nil => simpa [Fo.drop] using e
      | cons h a r =>
        rw [allS_cons] at e
        split at e
        · contradiction
        · exact ih r e
  have := key k xs e
  rw [hk, allS_cons] at this
  split at this
  · contradiction
  · rename_i h1; simpa using h1
theorem plain_len {h : Hd} {a : Fo} (e : partS h a = 0) (xs : List Tx) : (plainS h xs).length ≤ total xs + 10060 := by
  unfold plainS
  rcases part_ok e with ⟨h1, hg⟩ | ⟨h1, hn⟩ | ⟨h1, hn⟩ | ⟨h1, _⟩ | ⟨h1, _, _, _, hn⟩
  · rw [if_pos h1]; have := showT_len hg; omega
  · rw [if_neg (by omega), if_pos h1, ← Lib.size_eq]; omega
  · rw [if_neg (by omega), if_neg (by omega), if_pos h1]
    rw [Lib.size_eq] at hn
    simp only [rowT, List.length_append, List.length_cons, List.length_nil]; omega
  · rw [if_neg (by omega), if_neg (by omega), if_neg (by omega), if_neg (by omega)]
    have := opT_len h.o.toNat xs; omega
  · rw [if_neg (by omega), if_neg (by omega), if_neg (by omega), if_pos h1]
    rw [Lib.size_eq] at hn
    have := overT_len h.o.toNat h.nm.data.toList xs hn; omega
theorem total_le : ∀ xs : Fo, allS xs = 0 → total (txs xs) ≤ 10100 * xs.parts
  | .nil, _ => by simp [total, txs]
  | .cons h a r, e => by
    rw [allS_cons] at e
    by_cases h1 : oneS h a = 0
    · rw [if_neg (by simp [h1])] at e
      obtain ⟨h2, h3⟩ := one_ok h1
      have i1 := total_le a h3
      have i2 := total_le r e
      have i3 := plain_len h2 (txs a)
      rw [txs_cons, total_cons]
      show (plainS h (txs a)).length + 20 + total (txs r) ≤ 10100 * ((a.parts + 1) + r.parts)
      omega
    · rw [if_pos h1] at e; contradiction
theorem text_le {h : Hd} {a : Fo} (e : oneS h a = 0) (hp : a.parts ≤ 300) : (txOf h a).t.length ≤ 4000000 ∧ total (txs a) ≤ 4000000 := by
  obtain ⟨h2, h3⟩ := one_ok e
  have i1 := total_le a h3
  have i3 := plain_len h2 (txs a)
  refine ⟨?_, by omega⟩
  show (plainS h (txs a)).length ≤ _
  omega
end Go.Proofs.YtcdifmnakppfkaaGreatDoor
