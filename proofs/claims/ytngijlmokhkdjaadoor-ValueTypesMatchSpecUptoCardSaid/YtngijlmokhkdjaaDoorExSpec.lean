/-
  What both CheckExpr say: of one part, and of all parts one after the other.
-/
import Derived.Test.YtngijlmokhkdjaaDoorExForm
import Derived.Test.YtngijlmokhkdjaaDoorTxtRefChk
namespace Go.Proofs.YtngijlmokhkdjaaDoor
open Go.RowKit

/-- The kind of the first one of a row. -/
def Fo.fk : Fo → Int
  | .nil => 0
  | .cons h _ _ => h.k
/-- What is said of one part. -/
noncomputable def partS (h : Hd) (a : Fo) : Int :=
  if knownS h.k h.o = false then 4 else if formS h.k h.o h.nm h.vk h.vn h.vs h.vl.length a.len = false then 3
  else if h.k = 1 then (if h.vk = 0 ∨ h.vk = 1 then 4 else cChk h.vk h.vn h.vs h.vl)
  else if h.k ≠ 4 then (if nameS h.nm = false then 5 else 0)
  else if aboutS h.o = true ∧ a.fk ≠ 2 then 3 else 0
/-- What is said of all parts of a row. -/
noncomputable def allS : Fo → Int
  | .nil => 0
  | .cons h a r => if partS h a ≠ 0 then partS h a else if allS a ≠ 0 then allS a else allS r
noncomputable def oneS (h : Hd) (a : Fo) : Int := if partS h a ≠ 0 then partS h a else allS a
theorem allS_cons (h : Hd) (a r : Fo) : allS (.cons h a r) = if oneS h a ≠ 0 then oneS h a else allS r := by
  simp only [allS, oneS]
  by_cases h1 : partS h a = 0
  · simp [h1]
  · simp [h1]
/-- What CheckExpr says. -/
noncomputable def exprS (h : Hd) (a : Fo) : Int := if 300 < a.parts + 1 ∨ 20 < a.levels + 1 then 2 else oneS h a

/-- No text of a value in a row is longer than any text. -/
def Fo.fine : Fo → Prop
  | .nil => True
  | .cons h a r => h.vs.size ≤ 9223372036854775807 ∧ a.fine ∧ r.fine
theorem Fo.fine_drop : ∀ (k : Nat) {xs : Fo}, xs.fine → (xs.drop k).fine
  | 0, _, h => h
  | k + 1, .nil, _ => by simp [Fo.drop, Fo.fine]
  | k + 1, .cons h a r, hf => by
    simp only [Fo.fine] at hf
    exact Fo.fine_drop k hf.2.2
theorem Fo.fine_at {k : Nat} {xs : Fo} {h : Hd} {a : Fo} (hf : xs.fine) (hk : xs.drop k = .cons h a (xs.drop (k + 1))) : h.vs.size ≤ 9223372036854775807 ∧ a.fine := by
  have := Fo.fine_drop k hf
  rw [hk] at this
  simp only [Fo.fine] at this
  exact ⟨this.1, this.2.1⟩
theorem allS_drop {k : Nat} {xs : Fo} {h : Hd} {a : Fo} (hk : xs.drop k = .cons h a (xs.drop (k + 1))) : allS (xs.drop k) = if oneS h a ≠ 0 then oneS h a else allS (xs.drop (k + 1)) := by
  rw [hk, allS_cons]
/-- The first argument's kind stands in its cell. -/
theorem fk_cell {w : World} {b off : Nat} {xs : Fo} (hF : IsF w b xs off) (h0 : 0 < xs.len) : w.cell? ⟨b, off, none⟩ = some (.int .i64 xs.fk) := by
  cases xs with
  | nil => simp [Fo.len] at h0
  | cons h a r =>
    simp only [IsF] at hF
    obtain ⟨⟨sv, a', n, c, h0, _⟩, _⟩ := hF
    exact h0
end Go.Proofs.YtngijlmokhkdjaaDoor
