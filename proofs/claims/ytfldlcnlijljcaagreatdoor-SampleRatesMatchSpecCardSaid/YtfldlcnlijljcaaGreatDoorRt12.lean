/-
  SampleRatesMatchSpec: how often a number stands at the beginning of a list, and the fraction of the estimated rate.
  Slices of ints that read as lists; what an outcome is, in the program and in the reference.
  The boxes of Rates: fourteen texts, and eight counters.
  SampleRatesMatchSpec: what Rates gives, of a list of ints.
-/
import Derived.Test.YtfldlcnlijljcaaGreatDoorRt11
namespace Go.Proofs.YtfldlcnlijljcaaGreatDoor
open Go.RowKit

/-- How many of the first k values are j. -/
def cn (f : Nat → Int) (j : Int) : Nat → Nat
  | 0 => 0
  | k + 1 => cn f j k + (if f k = j then 1 else 0)
theorem cn_zero (f : Nat → Int) (j : Int) : cn f j 0 = 0 := rfl
theorem cn_hit {f : Nat → Int} {j : Int} {k : Nat} (h : f k = j) : cn f j (k + 1) = cn f j k + 1 := by
  show cn f j k + (if f k = j then 1 else 0) = cn f j k + 1
  rw [if_pos h]
theorem cn_miss {f : Nat → Int} {j : Int} {k : Nat} (h : f k ≠ j) : cn f j (k + 1) = cn f j k := by
  show cn f j k + (if f k = j then 1 else 0) = cn f j k
  rw [if_neg h]; omega
theorem one_hit (x : Int) : (if x = 1 then 1 else 0) + (if x = 2 then 1 else 0) + (if x = 3 then 1 else 0) + (if x = 4 then 1 else 0) + (if x = 5 then 1 else 0) + (if x = 6 then 1 else 0) + (if x = 7 then 1 else 0) ≤ 1 := by
  by_cases h1 : x = 1
  · subst h1; decide
  by_cases h2 : x = 2
  · subst h2; decide
  by_cases h3 : x = 3
  · subst h3; decide
  by_cases h4 : x = 4
  · subst h4; decide
  by_cases h5 : x = 5
  · subst h5; decide
  by_cases h6 : x = 6
  · subst h6; decide
  by_cases h7 : x = 7
  · subst h7; decide
  simp [h1, h2, h3, h4, h5, h6, h7]
/-- All counts together are at most the length. -/
theorem cn_sum (f : Nat → Int) : ∀ k, cn f 1 k + cn f 2 k + cn f 3 k + cn f 4 k + cn f 5 k + cn f 6 k + cn f 7 k ≤ k
  | 0 => by simp [cn]
  | k + 1 => by
    have h := cn_sum f k
    have g := one_hit (f k)
    simp only [cn]
    omega
theorem cn_le (f : Nat → Int) (j : Int) : ∀ k, cn f j k ≤ k
  | 0 => Nat.le_refl _
  | k + 1 => by
    have h := cn_le f j k
    show cn f j k + (if f k = j then 1 else 0) ≤ k + 1
    split <;> omega
/-- Eight counters in a block. -/
def Tl (g : Nat) (f : Nat → Int) (k : Nat) (W : World) : Prop := ∀ j, j < 8 → W.cell? ⟨g, j, none⟩ = some (.int .i64 (cn f (j : Nat) k : Nat)) ∧ W.frozen? ⟨g, j, none⟩ = false
theorem Tl.miss {g : Nat} {f : Nat → Int} {k : Nat} {W : World} (h : Tl g f k W) {m : Nat} (hm : m < 8) (e : f k = (m : Nat)) :
    Tl g f (k + 1) (W.setCell ⟨g, m, none⟩ (.int .i64 (cn f (m : Nat) k + 1 : Nat))) := by
  intro j hj
  refine ⟨?_, by rw [World.frozen?_setCell]; exact (h j hj).2⟩
  by_cases ej : j = m
  · subst ej
    rw [World.cell?_setCell_same _ _ _ (h j hj).1, cn_hit e]
  · rw [World.cell?_setCell_other _ _ _ _ (by intro h; exact ej (by injection h with _ h2; exact h2.symm)), cn_miss (by rw [e]; omega)]
    exact (h j hj).1
theorem Tl.keep {g : Nat} {f : Nat → Int} {k : Nat} {W W' : World} (h : Tl g f k W) (hb : Below W.heap.size W W') (hg : g < W.heap.size) : Tl g f k W' :=
  fun j hj => ⟨by rw [hb.cell (p := ⟨g, j, none⟩) hg]; exact (h j hj).1, by rw [hb.frozen (p := ⟨g, j, none⟩) hg]; exact (h j hj).2⟩
/-- Whether the first k values are outcomes. -/
def isOc (x : Int) : Prop := 1 ≤ x ∧ x ≤ 7
instance (x : Int) : Decidable (isOc x) := inferInstanceAs (Decidable (_ ∧ _))
end Go.Proofs.YtfldlcnlijljcaaGreatDoor
namespace Go.Proofs.YtfldlcnlijljcaaGreatDoor
open Go.RowKit

/-- The places of a list. -/
def fn (l : List Int) : Nat → Int := fun j => l.getD j 0
/-- A slice that reads as a list of ints. -/
def Rd (w : World) (a : Option Addr) (l : List Int) : Prop :=
  l.length ≤ 9223372036854775807 ∧ (0 < l.length → ∃ b off, a = some ⟨b, off, none⟩ ∧ b < w.heap.size ∧ ∀ j, j < l.length → w.cell? ⟨b, off + j, none⟩ = some (.int .i64 (fn l j)))
theorem Rd.below {w w' : World} {a : Option Addr} {l : List Int} (h : Rd w a l) (hb : Below w.heap.size w w') : Rd w' a l :=
  ⟨h.1, fun h0 => by
    obtain ⟨b, off, e, hl, hc⟩ := h.2 h0
    exact ⟨b, off, e, Nat.lt_of_lt_of_le hl hb.size, fun j hj => by rw [hb.cell (p := ⟨b, off + j, none⟩) hl]; exact hc j hj⟩⟩
theorem Rd.at_ {w : World} {a : Option Addr} {l : List Int} (h : Rd w a l) {k : Nat} (hk : k < l.length) :
    ∃ b off, a = some ⟨b, off, none⟩ ∧ w.cell? ⟨b, off + k, none⟩ = some (.int .i64 (fn l k)) := by
  obtain ⟨b, off, e, _, hc⟩ := h.2 (by omega)
  exact ⟨b, off, e, hc k hk⟩
theorem Rd.none_ (w : World) : Rd w none [] := ⟨by simp, fun h => by simp at h⟩
theorem isOutcome_c (x : Int) (w : World) : Calls Tryz.prog 22 #[.int .i64 x] w fun e w' => e = .returned (.bool (decide (isOc x))) ∧ w = w' := by
  by_cases h1 : 1 ≤ x
  · by_cases h2 : x ≤ 7
    · have e : decide (isOc x) = true := decide_eq_true (show 1 ≤ x ∧ x ≤ 7 from ⟨h1, h2⟩)
      rw [e]
      clear e
      go_enter Tryz.func22, Tryz.ntmps22
      go_wp2
      go_ret
      exact ⟨rfl, rfl⟩
    · have e : decide (isOc x) = false := decide_eq_false (fun (h : 1 ≤ x ∧ x ≤ 7) => h2 h.2)
      rw [e]
      clear e
      go_enter Tryz.func22, Tryz.ntmps22
      go_wp2
      go_ret
      exact ⟨rfl, rfl⟩
  · have e : decide (isOc x) = false := decide_eq_false (fun (h : 1 ≤ x ∧ x ≤ 7) => h1 h.1)
    rw [e]
    clear e
    go_enter Tryz.func22, Tryz.ntmps22
    go_wp2
    go_ret
    exact ⟨rfl, rfl⟩
theorem withinOc_c (x : Int) (w : World) : Calls Tryz.prog 15 #[.int .i64 x, .int .i64 1, .int .i64 7] w fun e w' => e = .returned (.bool (decide (isOc x))) ∧ w = w' := by
  by_cases h1 : 1 ≤ x
  · by_cases h2 : x ≤ 7
    · have e : decide (isOc x) = true := decide_eq_true (show 1 ≤ x ∧ x ≤ 7 from ⟨h1, h2⟩)
      rw [e]
      clear e
      go_enter Tryz.func15, Tryz.ntmps15
      go_wp2
      go_ret
      exact ⟨rfl, rfl⟩
    · have e : decide (isOc x) = false := decide_eq_false (fun (h : 1 ≤ x ∧ x ≤ 7) => h2 h.2)
      rw [e]
      clear e
      go_enter Tryz.func15, Tryz.ntmps15
      go_wp2
      go_ret
      exact ⟨rfl, rfl⟩
  · have e : decide (isOc x) = false := decide_eq_false (fun (h : 1 ≤ x ∧ x ≤ 7) => h1 h.1)
    rw [e]
    clear e
    go_enter Tryz.func15, Tryz.ntmps15
    go_wp2
    go_ret
    exact ⟨rfl, rfl⟩
end Go.Proofs.YtfldlcnlijljcaaGreatDoor
namespace Go.Proofs.YtfldlcnlijljcaaGreatDoor
open Go.RowKit

/-- A row of values is stored. -/
def setL (W : World) (g : Nat) : Nat → List Value → World
  | _, [] => W
  | o, x :: xs => setL (W.setCell ⟨g, o, none⟩ x) g (o + 1) xs
theorem setL_far {g : Nat} : ∀ (vs : List Value) (W : World) (o b p : Nat), b ≠ g ∨ p < o → (setL W g o vs).cell? ⟨b, p, none⟩ = W.cell? ⟨b, p, none⟩
  | [], _, _, _, _, _ => rfl
  | x :: xs, W, o, b, p, h => by
    show (setL (W.setCell ⟨g, o, none⟩ x) g (o + 1) xs).cell? _ = _
    rw [setL_far xs _ (o + 1) b p (by omega), World.cell?_setCell_other _ _ _ _ (by intro e; injection e with e1 e2; omega)]
theorem setL_cells {g : Nat} : ∀ (vs : List Value) (W : World) (o : Nat), (∀ j, o ≤ j → j < o + vs.length → ∃ u, W.cell? ⟨g, j, none⟩ = some u) →
    ∀ j, (hj : j < vs.length) → (setL W g o vs).cell? ⟨g, o + j, none⟩ = some vs[j]
  | [], _, _, _, j, hj => by simp at hj
  | x :: xs, W, o, h, j, hj => by
    show (setL (W.setCell ⟨g, o, none⟩ x) g (o + 1) xs).cell? _ = _
    obtain ⟨u, hu⟩ := h o (Nat.le_refl _) (by simp)
    rcases j with _ | j
    · rw [setL_far xs _ (o + 1) g _ (by omega)]
      exact World.cell?_setCell_same _ _ _ hu
    · have t := setL_cells xs (W.setCell ⟨g, o, none⟩ x) (o + 1) (fun i h1 h2 => by
        obtain ⟨v, hv⟩ := h i (by omega) (by simp; omega)
        exact ⟨v, by rw [World.cell?_setCell_other _ _ _ _ (by intro e; injection e with e1 e2; omega)]; exact hv⟩) j (by simpa using hj)
      have e : o + 1 + j = o + (j + 1) := by omega
      rw [e] at t
      rw [t]
      rfl
theorem setL_below {g B : Nat} {w : World} (hg : B ≤ g) : ∀ (vs : List Value) (W : World) (o : Nat), Below B w W → Below B w (setL W g o vs)
  | [], _, _, h => h
  | x :: xs, W, o, h => setL_below hg xs (W.setCell ⟨g, o, none⟩ x) (o + 1) (h.setCell (p := ⟨g, o, none⟩) hg x)
/-- The fourteen cells of Rates are stored. -/
def set14 (W : World) (g : Nat) (x0 x1 x2 x3 x4 x5 x6 x7 x8 x9 x10 x11 x12 x13 : Value) : World :=
  (((((((((((((W.setCell ⟨g, 0, none⟩ x0).setCell ⟨g, 1, none⟩ x1).setCell ⟨g, 2, none⟩ x2).setCell ⟨g, 3, none⟩ x3).setCell ⟨g, 4, none⟩ x4).setCell ⟨g, 5, none⟩ x5).setCell ⟨g, 6, none⟩ x6).setCell ⟨g, 7, none⟩ x7).setCell ⟨g, 8, none⟩ x8).setCell ⟨g, 9, none⟩ x9).setCell ⟨g, 10, none⟩ x10).setCell ⟨g, 11, none⟩ x11).setCell ⟨g, 12, none⟩ x12).setCell ⟨g, 13, none⟩ x13
theorem set14_is (W : World) (g : Nat) (x0 x1 x2 x3 x4 x5 x6 x7 x8 x9 x10 x11 x12 x13 : Value) : set14 W g x0 x1 x2 x3 x4 x5 x6 x7 x8 x9 x10 x11 x12 x13 = setL W g 0 [x0, x1, x2, x3, x4, x5, x6, x7, x8, x9, x10, x11, x12, x13] := rfl
/-- An empty box of Rates. -/
def Rx14 (g : Nat) (W : World) : Prop := ∀ j, j < 14 → W.cell? ⟨g, j, none⟩ = some (.string ⟨#[]⟩) ∧ W.frozen? ⟨g, j, none⟩ = false
theorem Rx14.keep {g : Nat} {W W' : World} (h : Rx14 g W) (hb : Below W.heap.size W W') (hg : g < W.heap.size) : Rx14 g W' :=
  fun j hj => ⟨by rw [hb.cell (p := ⟨g, j, none⟩) hg]; exact (h j hj).1, by rw [hb.frozen (p := ⟨g, j, none⟩) hg]; exact (h j hj).2⟩
theorem Rx14.all {g : Nat} {W : World} (h : Rx14 g W) : W.cell? ⟨g, 0, none⟩ = some (.string ⟨#[]⟩) ∧ W.cell? ⟨g, 1, none⟩ = some (.string ⟨#[]⟩) ∧ W.cell? ⟨g, 2, none⟩ = some (.string ⟨#[]⟩) ∧ W.cell? ⟨g, 3, none⟩ = some (.string ⟨#[]⟩) ∧ W.cell? ⟨g, 4, none⟩ = some (.string ⟨#[]⟩) ∧ W.cell? ⟨g, 5, none⟩ = some (.string ⟨#[]⟩) ∧ W.cell? ⟨g, 6, none⟩ = some (.string ⟨#[]⟩) ∧ W.cell? ⟨g, 7, none⟩ = some (.string ⟨#[]⟩) ∧ W.cell? ⟨g, 8, none⟩ = some (.string ⟨#[]⟩) ∧ W.cell? ⟨g, 9, none⟩ = some (.string ⟨#[]⟩) ∧ W.cell? ⟨g, 10, none⟩ = some (.string ⟨#[]⟩) ∧ W.cell? ⟨g, 11, none⟩ = some (.string ⟨#[]⟩) ∧ W.cell? ⟨g, 12, none⟩ = some (.string ⟨#[]⟩) ∧ W.cell? ⟨g, 13, none⟩ = some (.string ⟨#[]⟩) ∧ W.frozen? ⟨g, 0, none⟩ = false ∧ W.frozen? ⟨g, 1, none⟩ = false ∧ W.frozen? ⟨g, 2, none⟩ = false ∧ W.frozen? ⟨g, 3, none⟩ = false ∧ W.frozen? ⟨g, 4, none⟩ = false ∧ W.frozen? ⟨g, 5, none⟩ = false ∧ W.frozen? ⟨g, 6, none⟩ = false ∧ W.frozen? ⟨g, 7, none⟩ = false ∧ W.frozen? ⟨g, 8, none⟩ = false ∧ W.frozen? ⟨g, 9, none⟩ = false ∧ W.frozen? ⟨g, 10, none⟩ = false ∧ W.frozen? ⟨g, 11, none⟩ = false ∧ W.frozen? ⟨g, 12, none⟩ = false ∧ W.frozen? ⟨g, 13, none⟩ = false :=
  ⟨(h 0 (by decide)).1, (h 1 (by decide)).1, (h 2 (by decide)).1, (h 3 (by decide)).1, (h 4 (by decide)).1, (h 5 (by decide)).1, (h 6 (by decide)).1, (h 7 (by decide)).1, (h 8 (by decide)).1, (h 9 (by decide)).1, (h 10 (by decide)).1, (h 11 (by decide)).1, (h 12 (by decide)).1, (h 13 (by decide)).1, (h 0 (by decide)).2, (h 1 (by decide)).2, (h 2 (by decide)).2, (h 3 (by decide)).2, (h 4 (by decide)).2, (h 5 (by decide)).2, (h 6 (by decide)).2, (h 7 (by decide)).2, (h 8 (by decide)).2, (h 9 (by decide)).2, (h 10 (by decide)).2, (h 11 (by decide)).2, (h 12 (by decide)).2, (h 13 (by decide)).2⟩
theorem set14_fin {g B : Nat} {w W : World} (h : Rx14 g W) (hb : Below B w W) (hg : B ≤ g) (x0 x1 x2 x3 x4 x5 x6 x7 x8 x9 x10 x11 x12 x13 : Value) :
    (set14 W g x0 x1 x2 x3 x4 x5 x6 x7 x8 x9 x10 x11 x12 x13).cell? ⟨g, 0, none⟩ = some x0 ∧ (set14 W g x0 x1 x2 x3 x4 x5 x6 x7 x8 x9 x10 x11 x12 x13).cell? ⟨g, 1, none⟩ = some x1 ∧ (set14 W g x0 x1 x2 x3 x4 x5 x6 x7 x8 x9 x10 x11 x12 x13).cell? ⟨g, 2, none⟩ = some x2 ∧ (set14 W g x0 x1 x2 x3 x4 x5 x6 x7 x8 x9 x10 x11 x12 x13).cell? ⟨g, 3, none⟩ = some x3 ∧ (set14 W g x0 x1 x2 x3 x4 x5 x6 x7 x8 x9 x10 x11 x12 x13).cell? ⟨g, 4, none⟩ = some x4 ∧ (set14 W g x0 x1 x2 x3 x4 x5 x6 x7 x8 x9 x10 x11 x12 x13).cell? ⟨g, 5, none⟩ = some x5 ∧ (set14 W g x0 x1 x2 x3 x4 x5 x6 x7 x8 x9 x10 x11 x12 x13).cell? ⟨g, 6, none⟩ = some x6 ∧ (set14 W g x0 x1 x2 x3 x4 x5 x6 x7 x8 x9 x10 x11 x12 x13).cell? ⟨g, 7, none⟩ = some x7 ∧ (set14 W g x0 x1 x2 x3 x4 x5 x6 x7 x8 x9 x10 x11 x12 x13).cell? ⟨g, 8, none⟩ = some x8 ∧ (set14 W g x0 x1 x2 x3 x4 x5 x6 x7 x8 x9 x10 x11 x12 x13).cell? ⟨g, 9, none⟩ = some x9 ∧ (set14 W g x0 x1 x2 x3 x4 x5 x6 x7 x8 x9 x10 x11 x12 x13).cell? ⟨g, 10, none⟩ = some x10 ∧ (set14 W g x0 x1 x2 x3 x4 x5 x6 x7 x8 x9 x10 x11 x12 x13).cell? ⟨g, 11, none⟩ = some x11 ∧ (set14 W g x0 x1 x2 x3 x4 x5 x6 x7 x8 x9 x10 x11 x12 x13).cell? ⟨g, 12, none⟩ = some x12 ∧ (set14 W g x0 x1 x2 x3 x4 x5 x6 x7 x8 x9 x10 x11 x12 x13).cell? ⟨g, 13, none⟩ = some x13 ∧ Below B w (set14 W g x0 x1 x2 x3 x4 x5 x6 x7 x8 x9 x10 x11 x12 x13) := by
  rw [set14_is]
  have t := setL_cells (g := g) [x0, x1, x2, x3, x4, x5, x6, x7, x8, x9, x10, x11, x12, x13] W 0 (fun j _ h2 => ⟨_, (h j (by simpa using h2)).1⟩)
  exact ⟨t 0 (show 0 < 14 by decide), t 1 (show 1 < 14 by decide), t 2 (show 2 < 14 by decide), t 3 (show 3 < 14 by decide), t 4 (show 4 < 14 by decide), t 5 (show 5 < 14 by decide), t 6 (show 6 < 14 by decide), t 7 (show 7 < 14 by decide), t 8 (show 8 < 14 by decide), t 9 (show 9 < 14 by decide), t 10 (show 10 < 14 by decide), t 11 (show 11 < 14 by decide), t 12 (show 12 < 14 by decide), t 13 (show 13 < 14 by decide), setL_below hg _ _ _ hb⟩
/-- The world in which the loop of Rates starts. -/
def mk0 (w : World) : World := (w.alloc (.cells #[.string ⟨#[]⟩, .string ⟨#[]⟩, .string ⟨#[]⟩, .string ⟨#[]⟩, .string ⟨#[]⟩, .string ⟨#[]⟩, .string ⟨#[]⟩, .string ⟨#[]⟩, .string ⟨#[]⟩, .string ⟨#[]⟩, .string ⟨#[]⟩, .string ⟨#[]⟩, .string ⟨#[]⟩, .string ⟨#[]⟩] 36)).alloc (.cells #[.int .i64 0, .int .i64 0, .int .i64 0, .int .i64 0, .int .i64 0, .int .i64 0, .int .i64 0, .int .i64 0] 48)
/-- The boxes behind k rounds. -/
structure Lp (w : World) (l : List Int) (k : Nat) (W : World) : Prop where
  tl : Tl (w.heap.size + 1) (fn l) k W
  box : Rx14 w.heap.size W
  bel : Below w.heap.size w W
  size : w.heap.size + 2 ≤ W.heap.size
theorem mk0_lp (w : World) (l : List Int) : Lp w l 0 (mk0 w) := by
  refine ⟨fun j hj => ?_, fun j hj => ?_, ((Below.refl _ _).alloc (Nat.le_refl _) _).alloc (by simp) _, by simp [mk0]⟩
  · have e : j = 0 ∨ j = 1 ∨ j = 2 ∨ j = 3 ∨ j = 4 ∨ j = 5 ∨ j = 6 ∨ j = 7 := by omega
    rcases e with rfl | rfl | rfl | rfl | rfl | rfl | rfl | rfl <;> exact ⟨by simp [mk0, cn_zero, World.cell?_alloc_at], by simp [mk0]⟩
  · have e : j = 0 ∨ j = 1 ∨ j = 2 ∨ j = 3 ∨ j = 4 ∨ j = 5 ∨ j = 6 ∨ j = 7 ∨ j = 8 ∨ j = 9 ∨ j = 10 ∨ j = 11 ∨ j = 12 ∨ j = 13 := by omega
    rcases e with rfl | rfl | rfl | rfl | rfl | rfl | rfl | rfl | rfl | rfl | rfl | rfl | rfl | rfl <;> exact ⟨by simp [mk0, go_sem, World.cell?_alloc_past], by simp [mk0]⟩
theorem Lp.next {w : World} {l : List Int} {k : Nat} {W : World} (h : Lp w l k W) {m : Nat} (hm : m < 8) (e : fn l k = (m : Nat)) :
    Lp w l (k + 1) (W.setCell ⟨w.heap.size + 1, m, none⟩ (.int .i64 (cn (fn l) (m : Nat) k + 1 : Nat))) :=
  ⟨h.tl.miss hm e, fun j hj => ⟨by rw [World.cell?_setCell_other _ _ _ _ (by intro e; injection e with e1 _; omega)]; exact (h.box j hj).1, by rw [World.frozen?_setCell]; exact (h.box j hj).2⟩,
    h.bel.setCell (p := ⟨w.heap.size + 1, m, none⟩) (Nat.le_succ _) _, by simpa using h.size⟩
theorem Lp.keep {w : World} {l : List Int} {k : Nat} {W W' : World} (h : Lp w l k W) (hb : Below W.heap.size W W') : Lp w l k W' :=
  ⟨h.tl.keep hb (by have := h.size; omega), h.box.keep hb (by have := h.size; omega), h.bel.trans (hb.mono h.bel.size), Nat.le_trans h.size hb.size⟩
end Go.Proofs.YtfldlcnlijljcaaGreatDoor
namespace Go.Proofs.YtfldlcnlijljcaaGreatDoor
open Go.RowKit

/-- The counts, and the sums of them. -/
def C (l : List Int) (j : Int) : Nat := cn (fn l) j l.length
def IV (l : List Int) : Nat := C l 1 + C l 3
def RA (l : List Int) : Nat := IV l + C l 4
def RE (l : List Int) : Nat := RA l + C l 5
def EL (l : List Int) : Nat := RE l + C l 6
def KN (l : List Int) : Nat := EL l + C l 2
def AL (l : List Int) : Nat := EL l + C l 7
def P1 (l : List Int) : Nat := C l 1 * KN l
def KU (l : List Int) : Nat := KN l + C l 7
def Q (l : List Int) : Nat := EL l * KU l
def EU (l : List Int) : Nat := EL l * C l 7
/-- All bounds. -/
theorem bounds {l : List Int} (h : l.length ≤ 5000) : KU l ≤ 5000 ∧ P1 l ≤ 25000000 ∧ Q l ≤ 25000000 ∧ EU l ≤ 25000000 := by
  have s := cn_sum (fn l) l.length
  have hk : KU l ≤ 5000 := by unfold KU KN EL RE RA IV C; omega
  have h1 : C l 1 ≤ KU l := by unfold KU KN EL RE RA IV; omega
  have h2 : KN l ≤ KU l := by unfold KU; omega
  have h3 : EL l ≤ KU l := by unfold KU KN; omega
  have h4 : C l 7 ≤ KU l := by unfold KU; omega
  refine ⟨hk, ?_, ?_, ?_⟩
  · exact Nat.le_trans (Nat.mul_le_mul (Nat.le_trans h1 hk) (Nat.le_trans h2 hk)) (by decide)
  · exact Nat.le_trans (Nat.mul_le_mul (Nat.le_trans h3 hk) hk) (by decide)
  · exact Nat.le_trans (Nat.mul_le_mul (Nat.le_trans h3 hk) (Nat.le_trans h4 hk)) (by decide)
/-- The pairs of which the rates are the ratios. -/
def rp (l : List Int) : Nat → Nat × Nat
  | 0 => (C l 1, AL l)
  | 1 => (IV l, AL l)
  | 2 => (P1 l, Q l)
  | 3 => (C l 1, EL l)
  | 4 => (C l 1, RE l)
  | 5 => (C l 4, AL l)
  | _ => (RE l, AL l)
/-- Whether the list has outcomes alone. -/
def okL (l : List Int) : Prop := ∀ j, j < l.length → isOc (fn l j)
open Classical in
noncomputable def ns (l : List Int) (p : Nat) : ByteArray := if l.length ≤ 5000 ∧ okL l then decB (rtN (rp l p).1 (rp l p).2) else ⟨#[]⟩
open Classical in
noncomputable def ds (l : List Int) (p : Nat) : ByteArray := if l.length ≤ 5000 ∧ okL l then decB (rtD (rp l p).1 (rp l p).2) else ⟨#[]⟩
open Classical in
noncomputable def rf (l : List Int) : Int := if l.length ≤ 5000 then (if okL l then 0 else 4) else 2
/-- What Rates gives. -/
noncomputable def ratesV (l : List Int) : Value := .agg #[.string (ns l 0), .string (ds l 0), .string (ns l 1), .string (ds l 1), .string (ns l 2), .string (ds l 2), .string (ns l 3), .string (ds l 3), .string (ns l 4), .string (ds l 4), .string (ns l 5), .string (ds l 5), .string (ns l 6), .string (ds l 6)]
theorem ratesV_no {l : List Int} (h : ¬ (l.length ≤ 5000 ∧ okL l)) : ratesV l = .agg #[.string ⟨#[]⟩, .string ⟨#[]⟩, .string ⟨#[]⟩, .string ⟨#[]⟩, .string ⟨#[]⟩, .string ⟨#[]⟩, .string ⟨#[]⟩, .string ⟨#[]⟩, .string ⟨#[]⟩, .string ⟨#[]⟩, .string ⟨#[]⟩, .string ⟨#[]⟩, .string ⟨#[]⟩, .string ⟨#[]⟩] := by
  unfold ratesV ns ds
  simp only [if_neg h]
theorem ratesV_ok {l : List Int} (h : l.length ≤ 5000 ∧ okL l) : ratesV l = .agg #[.string (decB (rtN (C l 1) (AL l))), .string (decB (rtD (C l 1) (AL l))), .string (decB (rtN (IV l) (AL l))), .string (decB (rtD (IV l) (AL l))), .string (decB (rtN (P1 l) (Q l))), .string (decB (rtD (P1 l) (Q l))), .string (decB (rtN (C l 1) (EL l))), .string (decB (rtD (C l 1) (EL l))), .string (decB (rtN (C l 1) (RE l))), .string (decB (rtD (C l 1) (RE l))), .string (decB (rtN (C l 4) (AL l))), .string (decB (rtD (C l 4) (AL l))), .string (decB (rtN (RE l) (AL l))), .string (decB (rtD (RE l) (AL l)))] := by
  unfold ratesV ns ds
  simp only [if_pos h, rp]
theorem rf_large {l : List Int} (h : ¬ l.length ≤ 5000) : rf l = 2 := by unfold rf; rw [if_neg h]
theorem rf_kind {l : List Int} (h : l.length ≤ 5000) (h2 : ¬ okL l) : rf l = 4 := by unfold rf; rw [if_pos h, if_neg h2]
theorem rf_ok {l : List Int} (h : l.length ≤ 5000) (h2 : okL l) : rf l = 0 := by unfold rf; rw [if_pos h, if_pos h2]
def RtsPost (l : List Int) (w : World) (e : Ending) (w' : World) : Prop := e = .returned (.tuple #[ratesV l, .int .i64 (rf l)]) ∧ Below w.heap.size w w'
end Go.Proofs.YtfldlcnlijljcaaGreatDoor
