/-
  Trees of expressions: their parts and levels; how they lie in memory; and that they stay there. An expression is what it says itself (Hd) and the row of its arguments (Fo).
-/
import Derived.Test.YtngijlmokhkdjaaDoorExBase
namespace Go.Proofs.YtngijlmokhkdjaaDoor
open Go.RowKit

/-- What an expression says itself: kind, operation, name, and the value's kind, number, text and set. -/
structure Hd where
  k : Int
  o : Int
  nm : ByteArray
  vk : Int
  vn : Int
  vs : ByteArray
  vl : List Int
/-- A row of expressions: the first one, with the row of its arguments, and the others. -/
inductive Fo where
  | nil : Fo
  | cons (h : Hd) (a r : Fo) : Fo
def Fo.len : Fo → Nat
  | .nil => 0
  | .cons _ _ r => r.len + 1
/-- The parts of all expressions of a row. -/
def Fo.parts : Fo → Nat
  | .nil => 0
  | .cons _ a r => (a.parts + 1) + r.parts
/-- The greatest number of parts within one another. -/
def Fo.levels : Fo → Nat
  | .nil => 0
  | .cons _ a r => max (a.levels + 1) r.levels
/-- What is left of a row from its k-th expression on. -/
def Fo.drop : Nat → Fo → Fo
  | 0, xs => xs
  | _ + 1, .nil => .nil
  | k + 1, .cons _ _ r => r.drop k
theorem Fo.len_drop : ∀ (k : Nat) (xs : Fo), (xs.drop k).len = xs.len - k
  | 0, _ => by simp [Fo.drop]
  | k + 1, .nil => by simp [Fo.drop, Fo.len]
  | k + 1, .cons h a r => by
    simp only [Fo.drop, Fo.len]
    rw [Fo.len_drop k r]; omega
theorem Fo.drop_at : ∀ (k : Nat) (xs : Fo), k < xs.len → ∃ h a, xs.drop k = .cons h a (xs.drop (k + 1))
  | _, .nil, h => by simp [Fo.len] at h
  | 0, .cons h a r, _ => ⟨h, a, by simp [Fo.drop]⟩
  | k + 1, .cons h a r, hk => by
    simp only [Fo.len] at hk
    obtain ⟨x, y, hx⟩ := Fo.drop_at k r (by omega)
    exact ⟨x, y, by simpa [Fo.drop] using hx⟩
theorem Fo.drop_end {k : Nat} {xs : Fo} (h : k = xs.len) : xs.drop k = .nil := by
  have := Fo.len_drop k xs
  cases e : xs.drop k with
  | nil => rfl
  | cons a b c => rw [e] at this; simp only [Fo.len] at this; omega
/-- What holds of each expression if it holds of it once it holds of its arguments. -/
theorem forest_ind (C : Hd → Fo → Prop) (step : ∀ h a, (∀ k h' a', a.drop k = .cons h' a' (a.drop (k + 1)) → C h' a') → C h a) : ∀ h a, C h a := by
  have key : ∀ xs : Fo, ∀ k h' a', xs.drop k = .cons h' a' (xs.drop (k + 1)) → C h' a' := by
    intro xs
    induction xs with
    | nil => intro k h' a' e; cases k <;> simp [Fo.drop] at e
    | cons h a r iha ihr =>
      intro k h' a' e
      cases k with
      | zero =>
        simp only [Fo.drop, Fo.cons.injEq] at e
        obtain ⟨rfl, rfl, _⟩ := e
        exact step _ _ iha
      | succ k => exact ihr k h' a' (by simpa [Fo.drop] using e)
  intro h a
  exact key (.cons h a .nil) 0 h a (by simp [Fo.drop])

/-- The cells of block b from an offset on read as a row of expressions. -/
def IsF (w : World) (b : Nat) : Fo → Nat → Prop
  | .nil, _ => True
  | .cons h xs r, off => (∃ sv a n c, w.cell? ⟨b, off, none⟩ = some (.int .i64 h.k) ∧ w.cell? ⟨b, off + 1, none⟩ = some (.int .i64 h.o) ∧ w.cell? ⟨b, off + 2, none⟩ = some (.string h.nm) ∧ w.cell? ⟨b, off + 3, none⟩ = some (.int .i64 h.vk) ∧ w.cell? ⟨b, off + 4, none⟩ = some (.int .i64 h.vn) ∧ w.cell? ⟨b, off + 5, none⟩ = some (.string h.vs) ∧ w.cell? ⟨b, off + 6, none⟩ = some sv ∧ w.cell? ⟨b, off + 7, none⟩ = some (.slice a n c) ∧
      IsL w sv h.vl ∧ n = xs.len ∧ (n = 0 ∨ ∃ b' off', a = some ⟨b', off', none⟩ ∧ b' < w.heap.size ∧ IsF w b' xs off')) ∧ IsF w b r (off + 8)
/-- A value reads as an expression. -/
def IsX (w : World) (h : Hd) (xs : Fo) (v : Value) : Prop :=
  ∃ sv a n c, v = .agg #[.int .i64 h.k, .int .i64 h.o, .string h.nm, .int .i64 h.vk, .int .i64 h.vn, .string h.vs, sv, .slice a n c] ∧ IsL w sv h.vl ∧ n = xs.len ∧ (n = 0 ∨ ∃ b off, a = some ⟨b, off, none⟩ ∧ b < w.heap.size ∧ IsF w b xs off)
theorem IsF.below {w w' : World} (hb : Below w.heap.size w w') : ∀ {xs : Fo} {b off : Nat}, b < w.heap.size → IsF w b xs off → IsF w' b xs off := by
  intro xs
  induction xs with
  | nil => intro b off _ _; simp only [IsF]
  | cons h xs r ihx ihr =>
    intro b off hl hF
    simp only [IsF] at hF ⊢
    obtain ⟨⟨sv, a, n, c, h0, h1, h2, h3, h4, h5, h6, h7, hL, hn, hs⟩, hr⟩ := hF
    have cc := fun (o : Nat) => hb.cell (p := ⟨b, o, none⟩) hl
    refine ⟨⟨sv, a, n, c, by rw [cc]; exact h0, by rw [cc]; exact h1, by rw [cc]; exact h2, by rw [cc]; exact h3, by rw [cc]; exact h4, by rw [cc]; exact h5, by rw [cc]; exact h6, by rw [cc]; exact h7, hL.below hb, hn, ?_⟩, ihr hl hr⟩
    rcases hs with hs | ⟨b', off', ha, hbl, hs⟩
    · exact .inl hs
    · exact .inr ⟨b', off', ha, Nat.lt_of_lt_of_le hbl hb.size, ihx hbl hs⟩
theorem IsX.below {w w' : World} {h : Hd} {xs : Fo} {v : Value} (hx : IsX w h xs v) (hb : Below w.heap.size w w') : IsX w' h xs v := by
  obtain ⟨sv, a, n, c, hv, hl, hn, hs⟩ := hx
  refine ⟨sv, a, n, c, hv, hl.below hb, hn, ?_⟩
  rcases hs with hs | ⟨b, off, ha, hbl, hs⟩
  · exact .inl hs
  · exact .inr ⟨b, off, ha, Nat.lt_of_lt_of_le hbl hb.size, hs.below hb hbl⟩
theorem IsX.alloc {w : World} {h : Hd} {xs : Fo} {v : Value} (hx : IsX w h xs v) (o : Obj) : IsX (w.alloc o) h xs v := hx.below ((Below.refl _ _).alloc (Nat.le_refl _) o)
theorem IsF.drop {w : World} {b : Nat} : ∀ (k : Nat) {xs : Fo} {off : Nat}, IsF w b xs off → IsF w b (xs.drop k) (off + 8 * k)
  | 0, _, _, h => h
  | k + 1, .nil, _, _ => by simp only [Fo.drop, IsF]
  | k + 1, .cons h a r, off, hF => by
    simp only [IsF] at hF
    have := IsF.drop k hF.2
    rw [show off + 8 * (k + 1) = off + 8 + 8 * k by omega]
    exact this
/-- The k-th expression of a row, in its cells. -/
theorem IsF.cells {w : World} {b off k : Nat} {xs : Fo} {h : Hd} {a : Fo} (hF : IsF w b xs off) (hk : xs.drop k = .cons h a (xs.drop (k + 1))) :
    ∃ sp sm sq p n c, w.cell? ⟨b, off + k * 8, none⟩ = some (.int .i64 h.k) ∧ w.cell? ⟨b, off + k * 8 + 1, none⟩ = some (.int .i64 h.o) ∧ w.cell? ⟨b, off + k * 8 + 2, none⟩ = some (.string h.nm) ∧ w.cell? ⟨b, off + k * 8 + 3, none⟩ = some (.int .i64 h.vk) ∧ w.cell? ⟨b, off + k * 8 + 4, none⟩ = some (.int .i64 h.vn) ∧ w.cell? ⟨b, off + k * 8 + 5, none⟩ = some (.string h.vs) ∧ w.cell? ⟨b, off + k * 8 + 6, none⟩ = some (.slice sp sm sq) ∧ w.cell? ⟨b, off + k * 8 + 7, none⟩ = some (.slice p n c) ∧
      IsX w h a (.agg #[.int .i64 h.k, .int .i64 h.o, .string h.nm, .int .i64 h.vk, .int .i64 h.vn, .string h.vs, .slice sp sm sq, .slice p n c]) := by
  have := hF.drop k
  rw [hk, Nat.mul_comm 8 k] at this
  simp only [IsF] at this
  obtain ⟨⟨sv, p, n, c, h0, h1, h2, h3, h4, h5, h6, h7, hL, hn, hs⟩, _⟩ := this
  obtain ⟨sp, sm, sq, rfl⟩ := hL.form
  exact ⟨sp, sm, sq, p, n, c, h0, h1, h2, h3, h4, h5, h6, h7, _, p, n, c, rfl, hL, hn, hs⟩
theorem Fo.parts_drop {k : Nat} {xs : Fo} {h : Hd} {a : Fo} (hk : xs.drop k = .cons h a (xs.drop (k + 1))) : (xs.drop k).parts = a.parts + 1 + (xs.drop (k + 1)).parts := by
  rw [hk]; simp only [Fo.parts]
theorem Fo.levels_drop {k : Nat} {xs : Fo} {h : Hd} {a : Fo} (hk : xs.drop k = .cons h a (xs.drop (k + 1))) : (xs.drop k).levels = max (a.levels + 1) (xs.drop (k + 1)).levels := by
  rw [hk]; simp only [Fo.levels]
theorem Fo.len_le_parts : ∀ xs : Fo, xs.len ≤ xs.parts
  | .nil => Nat.le_refl _
  | .cons h a r => by
    have := Fo.len_le_parts r
    simp only [Fo.len, Fo.parts]; omega
theorem Fo.parts_drop_le : ∀ (k : Nat) (xs : Fo), (xs.drop k).parts ≤ xs.parts
  | 0, _ => by simp [Fo.drop]
  | k + 1, .nil => by simp [Fo.drop]
  | k + 1, .cons h a r => by
    have := Fo.parts_drop_le k r
    simp only [Fo.drop, Fo.parts]; omega
theorem Fo.parts_sub {k : Nat} {xs : Fo} {h : Hd} {a : Fo} (hk : xs.drop k = .cons h a (xs.drop (k + 1))) : a.parts + 1 ≤ xs.parts := by
  have h1 := Fo.parts_drop hk
  have h2 := Fo.parts_drop_le k xs
  omega
theorem Fo.levels_le_parts : ∀ xs : Fo, xs.levels ≤ xs.parts
  | .nil => Nat.le_refl _
  | .cons h a r => by
    have h1 := Fo.levels_le_parts a
    have h2 := Fo.levels_le_parts r
    simp only [Fo.levels, Fo.parts]; omega
end Go.Proofs.YtngijlmokhkdjaaDoor
