/-
  Calls: what outcomes, callings and the next attempt are, in plain lists. Nothing of the program stands here.
-/
import Derived.Test.YtaiiobojlipbeaaRows
import Derived.WalkKit
namespace Go.Proofs.Ytaiiobojlipbeaa.Sm
open Go

/-- The error of attempts behind one at a minute. -/
def attF : Int → List (Int × Int) → Int
  | _, [] => 0
  | p, (m, o) :: r => if m < 0 ∨ 1099511627776 < m then 1 else if o < 1 ∨ 7 < o then 4 else if m < p then 7 else attF m r
/-- The outcome that comes first. -/
def outF : Int → List (Int × Int) → Int
  | a, [] => a
  | a, (_, o) :: r => outF (min a o) r
theorem drop_cons {α : Type} {l : List α} {k : Nat} {x : α} (h : l[k]? = some x) : l.drop k = x :: l.drop (k + 1) := by
  obtain ⟨hk, he⟩ := List.getElem?_eq_some_iff.1 h
  rw [List.drop_eq_getElem_cons hk, he]
theorem attF_drop {l : List (Int × Int)} {k : Nat} {m o : Int} (h : l[k]? = some (m, o)) (p : Int) :
    attF p (l.drop k) = if m < 0 ∨ 1099511627776 < m then 1 else if o < 1 ∨ 7 < o then 4 else if m < p then 7 else attF m (l.drop (k + 1)) := by
  rw [drop_cons h]; rfl
theorem outF_drop {l : List (Int × Int)} {k : Nat} {m o : Int} (h : l[k]? = some (m, o)) (a : Int) : outF a (l.drop k) = outF (min a o) (l.drop (k + 1)) := by
  rw [drop_cons h]; rfl
/-- Attempts that are in order are of minutes and outcomes. -/
theorem attF_ok {p : Int} {l : List (Int × Int)} (h : attF p l = 0) : ∀ x ∈ l, (0 ≤ x.1 ∧ x.1 ≤ 1099511627776) ∧ 1 ≤ x.2 ∧ x.2 ≤ 7 := by
  induction l generalizing p with
  | nil => intro x hx; simp at hx
  | cons y r ih =>
    obtain ⟨m, o⟩ := y
    unfold attF at h
    split at h
    · omega
    · split at h
      · omega
      · split at h
        · omega
        · intro x hx
          rcases List.mem_cons.1 hx with rfl | hx
          · simp only; omega
          · exact ih h x hx
theorem attF_bd (p : Int) (l : List (Int × Int)) : attF p l = 0 ∨ attF p l = 1 ∨ attF p l = 4 ∨ attF p l = 7 := by
  induction l generalizing p with
  | nil => exact .inl rfl
  | cons y r ih =>
    obtain ⟨m, o⟩ := y
    unfold attF
    split
    · omega
    · split
      · omega
      · split
        · omega
        · exact ih m
theorem outF_bd {l : List (Int × Int)} (h : ∀ x ∈ l, 1 ≤ x.2 ∧ x.2 ≤ 7) (a : Int) (h1 : 1 ≤ a) (h2 : a ≤ 7) : 1 ≤ outF a l ∧ outF a l ≤ 7 := by
  induction l generalizing a with
  | nil => exact ⟨h1, h2⟩
  | cons y r ih =>
    have := h y (by simp)
    exact ih (fun x hx => h x (by simp [hx])) (min a y.2) (by omega) (by omega)
/-- The outcome of attempts, and their error. -/
def outcF (l : List (Int × Int)) : Int × Int := if 100 < l.length then (0, 2) else if attF 0 l ≠ 0 then (0, attF 0 l) else (outF 7 l, 0)

/-- The error of weekdays behind one. -/
def wdF : Int → List Int → Int
  | _, [] => 0
  | p, d :: r => if d < 0 ∨ 6 < d then 1 else if d ≤ p then 7 else wdF d r
theorem wdF_drop {l : List Int} {k : Nat} {d : Int} (h : l[k]? = some d) (p : Int) : wdF p (l.drop k) = if d < 0 ∨ 6 < d then 1 else if d ≤ p then 7 else wdF d (l.drop (k + 1)) := by
  rw [drop_cons h]; rfl
theorem wdF_ok {p : Int} {l : List Int} (h : wdF p l = 0) : ∀ x ∈ l, 0 ≤ x ∧ x ≤ 6 := by
  induction l generalizing p with
  | nil => intro x hx; simp at hx
  | cons d r ih =>
    unfold wdF at h
    split at h
    · omega
    · split at h
      · omega
      · intro x hx
        rcases List.mem_cons.1 hx with rfl | hx
        · omega
        · exact ih h x hx
/-- The error of windows behind one that ends at a minute. -/
def wnF : Int → List (Int × Int) → Int
  | _, [] => 0
  | p, (f, t) :: r => if f < 0 ∨ t ≤ f ∨ 1440 < t then 1 else if f < p then 7 else wnF t r
theorem wnF_drop {l : List (Int × Int)} {k : Nat} {f t : Int} (h : l[k]? = some (f, t)) (p : Int) : wnF p (l.drop k) = if f < 0 ∨ t ≤ f ∨ 1440 < t then 1 else if f < p then 7 else wnF t (l.drop (k + 1)) := by
  rw [drop_cons h]; rfl
theorem wnF_ok {p : Int} {l : List (Int × Int)} (h : wnF p l = 0) : ∀ x ∈ l, 0 ≤ x.1 ∧ x.1 < x.2 ∧ x.2 ≤ 1440 := by
  induction l generalizing p with
  | nil => intro x hx; simp at hx
  | cons y r ih =>
    obtain ⟨f, t⟩ := y
    unfold wnF at h
    split at h
    · omega
    · split at h
      · omega
      · intro x hx
        rcases List.mem_cons.1 hx with rfl | hx
        · simp only; omega
        · exact ih h x hx
def wnsF (l : List (Int × Int)) : Int := if 8 < l.length then 2 else wnF 0 l
/-- The error of a calling. -/
def callF (most gap : Int) (D : List Int) (V : List (Int × Int)) : Int :=
  if most < 1 ∨ 100 < most ∨ gap < 0 ∨ 1000000 < gap then 1 else if D = [] ∨ V = [] then 9 else if wdF (-1) D ≠ 0 then wdF (-1) D else wnsF V

/-- How many attempts were made in a window, of the first k. -/
def cntW (f t : Int) (l : List (Int × Int)) : Nat → Int
  | 0 => 0
  | k + 1 => cntW f t l k + if f ≤ (l.getD k (0, 0)).1 % 1440 ∧ (l.getD k (0, 0)).1 % 1440 < t then 1 else 0
theorem cntW_bd (f t : Int) (l : List (Int × Int)) (k : Nat) : 0 ≤ cntW f t l k ∧ cntW f t l k ≤ k := by
  induction k with
  | zero => simp [cntW]
  | succ k ih => unfold cntW; split <;> omega
/-- Of a window and those of a list the one with the fewest attempts, the first of several. -/
def minW (l : List (Int × Int)) : Int × Int → List (Int × Int) → Int × Int
  | b, [] => b
  | b, v :: r => if cntW v.1 v.2 l l.length < cntW b.1 b.2 l l.length then minW l v r else minW l b r
theorem minW_drop {l V : List (Int × Int)} {k : Nat} {v : Int × Int} (h : V[k]? = some v) (b : Int × Int) :
    minW l b (V.drop k) = if cntW v.1 v.2 l l.length < cntW b.1 b.2 l l.length then minW l v (V.drop (k + 1)) else minW l b (V.drop (k + 1)) := by
  rw [drop_cons h]; rfl
theorem minW_mem (l : List (Int × Int)) (b : Int × Int) (V : List (Int × Int)) : minW l b V = b ∨ minW l b V ∈ V := by
  induction V generalizing b with
  | nil => exact .inl rfl
  | cons v r ih =>
    unfold minW
    split
    · rcases ih v with h | h
      · right; rw [h]; simp
      · right; simp [h]
    · rcases ih b with h | h
      · left; exact h
      · right; simp [h]
def nextW (l : List (Int × Int)) (V : List (Int × Int)) : Int × Int := minW l (V.getD 0 (0, 0)) (V.drop 1)
theorem nextW_mem {l V : List (Int × Int)} (h : V ≠ []) : nextW l V ∈ V := by
  unfold nextW
  cases V with
  | nil => exact absurd rfl h
  | cons v r =>
    rcases minW_mem l v r with e | e
    · simp [e]
    · simp [e]

/-- The first day, from one on, on a weekday of a list; of at most k days. -/
def dayF (D : List Int) : Nat → Int → Int
  | 0, d => d
  | k + 1, d => if D.contains ((d + 3) % 7) then d else dayF D k (d + 1)
theorem dayF_yes {D : List Int} {k : Nat} {d : Int} (hk : 0 < k) (h : D.contains ((d + 3) % 7) = true) : dayF D k d = d := by
  cases k with
  | zero => omega
  | succ k => unfold dayF; rw [if_pos h]
theorem dayF_no {D : List Int} {k : Nat} {d : Int} (hk : 0 < k) (h : D.contains ((d + 3) % 7) = false) : dayF D k d = dayF D (k - 1) (d + 1) := by
  cases k with
  | zero => omega
  | succ k => conv => lhs; unfold dayF
              rw [h]; simp
theorem day_there {D : List Int} (hD : D ≠ []) (h : ∀ x ∈ D, 0 ≤ x ∧ x ≤ 6) (d : Int) : ∃ i : Nat, i < 7 ∧ D.contains ((d + i + 3) % 7) = true := by
  obtain ⟨x, hx⟩ := List.exists_mem_of_ne_nil D hD
  have b := h x hx
  refine ⟨((x - d - 3) % 7).toNat, by omega, ?_⟩
  have : (d + (((x - d - 3) % 7).toNat : Nat) + 3) % 7 = x := by omega
  rw [this]
  simpa using hx
/-- When the next attempt is due, if there is one. -/
def dueM (gap : Int) (l : List (Int × Int)) (minute : Int) : Int := if l.length = 0 then minute else max minute ((l.getD (l.length - 1) (0, 0)).1 + gap)
def day0 (w : Int × Int) (m : Int) : Int := if m / 1440 * 1440 + w.2 ≤ m then m / 1440 + 1 else m / 1440
def dueAt (D : List Int) (w : Int × Int) (m : Int) : Int := max m (dayF D 7 (day0 w m) * 1440 + w.1)
def dueF (most gap : Int) (D : List Int) (V : List (Int × Int)) (l : List (Int × Int)) (minute : Int) : Int × Bool × Int :=
  if callF most gap D V ≠ 0 then (0, false, callF most gap D V)
  else if (outcF l).2 ≠ 0 then (0, false, (outcF l).2)
  else if minute < 0 ∨ 1099511627776 < minute then (0, false, 1)
  else if (outcF l).1 = 1 ∨ (outcF l).1 = 2 ∨ (outcF l).1 = 4 ∨ most ≤ l.length then (0, false, 0)
  else if 1099511627776 < dueAt D (nextW l V) (dueM gap l minute) then (0, false, 0)
  else (dueAt D (nextW l V) (dueM gap l minute), true, 0)
end Go.Proofs.Ytaiiobojlipbeaa.Sm
