/-
  SampleFramesMatchSpec: the datum of a map that divides places by their keys.
-/
import Derived.Test.YtkppfceogknlkaaDoorFrmMath
import Derived.Maps.OwnRows
import Derived.Maps.Views
namespace Go.Proofs.YtkppfceogknlkaaDoor
open Go.ChangeShapes (lits)
open Go.Maps

variable {κ : Type} [DecidableEq κ]
/-- The first m values whose key is x, in their order. -/
def pl (kf : Nat → κ) (xs : Nat → Int) (x : κ) : Nat → List Int
  | 0 => []
  | m + 1 => if kf m = x then pl kf xs x m ++ [xs m] else pl kf xs x m
theorem pl_hit {kf : Nat → κ} {xs : Nat → Int} {x : κ} {m : Nat} (h : kf m = x) : pl kf xs x (m + 1) = pl kf xs x m ++ [xs m] := by
  show (if kf m = x then pl kf xs x m ++ [xs m] else pl kf xs x m) = _
  rw [if_pos h]
theorem pl_miss {kf : Nat → κ} {xs : Nat → Int} {x : κ} {m : Nat} (h : kf m ≠ x) : pl kf xs x (m + 1) = pl kf xs x m := by
  show (if kf m = x then pl kf xs x m ++ [xs m] else pl kf xs x m) = _
  rw [if_neg h]
theorem pl_take {key : Int → κ} (ps : List Int) (x : κ) : ∀ m, m ≤ ps.length → pl (fun i => key (ps.getD i 0)) (fun i => ps.getD i 0) x m = (ps.take m).filter (fun z => decide (key z = x))
  | 0, _ => by simp [pl]
  | m + 1, h => by
    have e : ps.take (m + 1) = ps.take m ++ [ps.getD m 0] := by
      rw [List.take_add_one, List.getElem?_eq_getElem (by omega)]
      simp [List.getD, List.getElem?_eq_getElem (show m < ps.length by omega)]
    rw [e, List.filter_append, ← pl_take ps x m (by omega)]
    generalize hz : ps.getD m 0 = z
    by_cases hx : key z = x
    · rw [pl_hit (by rw [hz]; exact hx), hz]; simp [hx]
    · rw [pl_miss (by rw [hz]; exact hx)]; simp [hx]
theorem pl_len (kf : Nat → κ) (xs : Nat → Int) (x : κ) : ∀ m, (pl kf xs x m).length ≤ m
  | 0 => Nat.le_refl _
  | m + 1 => by
    have h := pl_len kf xs x m
    by_cases e : kf m = x
    · rw [pl_hit e]; simp; omega
    · rw [pl_miss e]; omega
theorem pl_mem {kf : Nat → κ} {xs : Nat → Int} {x : κ} {z : Int} : ∀ {m}, z ∈ pl kf xs x m ↔ ∃ i, i < m ∧ kf i = x ∧ xs i = z
  | 0 => by simp [pl]
  | m + 1 => by
    by_cases e : kf m = x
    · rw [pl_hit e, List.mem_append, pl_mem (m := m)]
      constructor
      · rintro (⟨i, h1, h2, h3⟩ | h)
        · exact ⟨i, by omega, h2, h3⟩
        · exact ⟨m, by omega, e, by simpa using (List.mem_singleton.1 h).symm⟩
      · rintro ⟨i, h1, h2, h3⟩
        by_cases hi : i = m
        · subst hi; exact .inr (by simp [h3])
        · exact .inl ⟨i, by omega, h2, h3⟩
    · rw [pl_miss e, pl_mem (m := m)]
      constructor
      · rintro ⟨i, h1, h2, h3⟩; exact ⟨i, by omega, h2, h3⟩
      · rintro ⟨i, h1, h2, h3⟩
        have : i ≠ m := fun h => e (h ▸ h2)
        exact ⟨i, by omega, h2, h3⟩
theorem pl_nil {kf : Nat → κ} {xs : Nat → Int} {x : κ} {m : Nat} : pl kf xs x m = [] ↔ ∀ i, i < m → kf i ≠ x := by
  constructor
  · intro h i hi e
    have := (pl_mem (xs := xs) (m := m) (z := xs i)).2 ⟨i, hi, e, rfl⟩
    rw [h] at this
    cases this
  · intro h
    cases hp : pl kf xs x m with
    | nil => rfl
    | cons a t =>
      obtain ⟨i, h1, h2, _⟩ := (pl_mem (kf := kf) (xs := xs) (x := x) (m := m) (z := a)).1 (by rw [hp]; simp)
      exact absurd h2 (h i h1)
variable {H : Type}
/-- How keys read: each otherwise. -/
structure Keys (en : κ → Lit) : Prop where
  key : ∀ x, WideAt.IsKeyLit (en x)
  inj : ∀ x y, en x = en y → x = y
/-- The map's datum behind m rounds. -/
def gd (en : κ → Lit) (kf : Nat → κ) (xs : Nat → Int) : Nat → DataW H
  | 0 => .map []
  | m + 1 => (gd en kf xs m).put (en (kf m)) (.slice (lits .i64 (pl kf xs (kf m) m ++ [xs m])) [])
theorem gd_isMap (en : κ → Lit) (kf : Nat → κ) (xs : Nat → Int) : ∀ m, IsMap (gd (H := H) en kf xs m)
  | 0 => isMap_empty
  | m + 1 => by
    obtain ⟨es, e⟩ := gd_isMap en kf xs m
    show IsMap ((gd en kf xs m).put _ _)
    rw [e]
    exact ⟨_, rfl⟩
/-- What the map has at a key. -/
theorem gd_at {en : κ → Lit} (he : Keys en) {kf : Nat → κ} {xs : Nat → Int} (x : κ) : ∀ m, (gd (H := H) en kf xs m).atKey (en x) .nil = if pl kf xs x m = [] then .nil else .slice (lits .i64 (pl kf xs x m)) []
  | 0 => rfl
  | m + 1 => by
    show ((gd en kf xs m).put (en (kf m)) _).atKey (en x) .nil = _
    by_cases e : kf m = x
    · subst e
      rw [atKey_put_same (gd_isMap _ _ _ _) (he.key _), pl_hit rfl, if_neg (by simp)]
    · rw [atKey_put_other (fun h => e (he.inj _ _ h).symm), pl_miss e]
      exact gd_at he x m
theorem gd_has {en : κ → Lit} (he : Keys en) {kf : Nat → κ} {xs : Nat → Int} (x : κ) : ∀ m, has (gd (H := H) en kf xs m) (en x) = true ↔ ∃ i, i < m ∧ kf i = x
  | 0 => by simp [gd, has]
  | m + 1 => by
    show has ((gd en kf xs m).put (en (kf m)) _) (en x) = true ↔ _
    by_cases e : kf m = x
    · subst e
      rw [has_put_same (gd_isMap _ _ _ _) (he.key _)]
      exact ⟨fun _ => ⟨m, by omega, rfl⟩, fun _ => rfl⟩
    · rw [has_put_other (fun h => e (he.inj _ _ h).symm), gd_has he x m]
      constructor
      · rintro ⟨i, h1, h2⟩; exact ⟨i, by omega, h2⟩
      · rintro ⟨i, h1, h2⟩
        have : i ≠ m := fun h => e (h ▸ h2)
        exact ⟨i, by omega, h2⟩
theorem lits_inj {a b : List Int} (h : lits (H := H) .i64 a = lits .i64 b) : a = b := by
  unfold lits at h
  exact (List.map_inj_right (fun x y e => by simpa using e)).1 h
/-- What the look-up's law leaves is the list of the places. -/
theorem zs_is {en : κ → Lit} (he : Keys en) {kf : Nat → κ} {xs : Nat → Int} {m : Nat} {x : κ} {w : World} {base : Nat} {e : TypeId} {v : Value} {zs : List Int} (ho : w.ownsInts base e .i64 v zs)
    (hat : (gd (H := H) en kf xs m).atKey (en x) .nil = rowDatum .i64 v zs) : zs = pl kf xs x m := by
  rw [gd_at he] at hat
  rcases ho.datum (H := H) with ⟨h1, rfl⟩ | h1
  · rw [h1] at hat
    split at hat
    · next h => exact h.symm
    · cases hat
  · rw [h1] at hat
    split at hat
    · cases hat
    · injection hat with h2 _
      exact (lits_inj h2).symm
theorem gd_step {en : κ → Lit} {kf : Nat → κ} {xs : Nat → Int} {m : Nat} {zs : List Int} (hz : zs = pl kf xs (kf m) m) : gd (H := H) en kf xs (m + 1) = (gd en kf xs m).put (en (kf m)) (.slice (lits .i64 (zs ++ [xs m])) []) := by
  rw [hz]; rfl
theorem keysS : Keys (κ := List UInt8) Lit.string := ⟨fun _ => trivial, fun _ _ h => by injection h⟩
theorem keysI : Keys (κ := Int) (Lit.int .i64) := ⟨fun _ => trivial, fun _ _ h => by injection h⟩
end Go.Proofs.YtkppfceogknlkaaDoor
