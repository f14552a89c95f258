/-
  The boxes of Rates: fourteen texts, and eight counters.
-/
import Derived.Test.YtecbkfmdpgkdiaaGreatDoorRtsRd
import Derived.Test.YtecbkfmdpgkdiaaGreatDoorRatOf
namespace Go.Proofs.YtecbkfmdpgkdiaaGreatDoor
open Go.RowKit

/-- A row of values is stored. -/
def setL (W : World) (g : Nat) : Nat → List Value → World
  | _, [] => W
  | o, x :: xs => setL (W.setCell ⟨g, o, none⟩ x) g (o + 1) xs
theorem setL_far {g : Nat} : ∀ (vs : List Value) (W : World) (o b p : Nat), b ≠ g ∨ p < o → (setL W g o vs).cell? ⟨b, p, none⟩ = W.cell? ⟨b, p, none⟩
  | [], _, _, _, _, _ => rfl
  | x :: xs, W, o, b, p, h => by
    show (setL (W.setCell ⟨g, o, none⟩ x) g (o + 1) xs).cell? _ = _
    rw [setL_far xs _ (o + 1) b p (by omega), World.cell?_setCell_other _ _ _ _ (by intro e; injection e with e1 e2; omega)]
theorem setL_cells {g : Nat} : ∀ (vs : List Value) (W : World) (o : Nat), (∀ j, o ≤ j → j < o + vs.length → ∃ u, W.cell? ⟨g, j, none⟩ = some u) →
    ∀ j, (hj : j < vs.length) → (setL W g o vs).cell? ⟨g, o + j, none⟩ = some vs[j]
  | [], _, _, _, j, hj => by simp at hj
  | x :: xs, W, o, h, j, hj => by
    show (setL (W.setCell ⟨g, o, none⟩ x) g (o + 1) xs).cell? _ = _
    obtain ⟨u, hu⟩ := h o (Nat.le_refl _) (by simp)
    rcases j with _ | j
    · rw [setL_far xs _ (o + 1) g _ (by omega)]
      exact World.cell?_setCell_same _ _ _ hu
    · have t := setL_cells xs (W.setCell ⟨g, o, none⟩ x) (o + 1) (fun i h1 h2 => by
        obtain ⟨v, hv⟩ := h i (by omega) (by simp; omega)
        exact ⟨v, by rw [World.cell?_setCell_other _ _ _ _ (by intro e; injection e with e1 e2; omega)]; exact hv⟩) j (by simpa using hj)
      have e : o + 1 + j = o + (j + 1) := by omega
      rw [e] at t
      rw [t]
      rfl
theorem setL_below {g B : Nat} {w : World} (hg : B ≤ g) : ∀ (vs : List Value) (W : World) (o : Nat), Below B w W → Below B w (setL W g o vs)
  | [], _, _, h => h
  | x :: xs, W, o, h => setL_below hg xs (W.setCell ⟨g, o, none⟩ x) (o + 1) (h.setCell (p := ⟨g, o, none⟩) hg x)
/-- The fourteen cells of Rates are stored. -/
def set14 (W : World) (g : Nat) (x0 x1 x2 x3 x4 x5 x6 x7 x8 x9 x10 x11 x12 x13 : Value) : World :=
  (((((((((((((W.setCell ⟨g, 0, none⟩ x0).setCell ⟨g, 1, none⟩ x1).setCell ⟨g, 2, none⟩ x2).setCell ⟨g, 3, none⟩ x3).setCell ⟨g, 4, none⟩ x4).setCell ⟨g, 5, none⟩ x5).setCell ⟨g, 6, none⟩ x6).setCell ⟨g, 7, none⟩ x7).setCell ⟨g, 8, none⟩ x8).setCell ⟨g, 9, none⟩ x9).setCell ⟨g, 10, none⟩ x10).setCell ⟨g, 11, none⟩ x11).setCell ⟨g, 12, none⟩ x12).setCell ⟨g, 13, none⟩ x13
theorem set14_is (W : World) (g : Nat) (x0 x1 x2 x3 x4 x5 x6 x7 x8 x9 x10 x11 x12 x13 : Value) : set14 W g x0 x1 x2 x3 x4 x5 x6 x7 x8 x9 x10 x11 x12 x13 = setL W g 0 [x0, x1, x2, x3, x4, x5, x6, x7, x8, x9, x10, x11, x12, x13] := rfl
/-- An empty box of Rates. -/
def Rx14 (g : Nat) (W : World) : Prop := ∀ j, j < 14 → W.cell? ⟨g, j, none⟩ = some (.string ⟨#[]⟩) ∧ W.frozen? ⟨g, j, none⟩ = false
theorem Rx14.keep {g : Nat} {W W' : World} (h : Rx14 g W) (hb : Below W.heap.size W W') (hg : g < W.heap.size) : Rx14 g W' :=
  fun j hj => ⟨by rw [hb.cell (p := ⟨g, j, none⟩) hg]; exact (h j hj).1, by rw [hb.frozen (p := ⟨g, j, none⟩) hg]; exact (h j hj).2⟩
theorem Rx14.all {g : Nat} {W : World} (h : Rx14 g W) : W.cell? ⟨g, 0, none⟩ = some (.string ⟨#[]⟩) ∧ W.cell? ⟨g, 1, none⟩ = some (.string ⟨#[]⟩) ∧ W.cell? ⟨g, 2, none⟩ = some (.string ⟨#[]⟩) ∧ W.cell? ⟨g, 3, none⟩ = some (.string ⟨#[]⟩) ∧ W.cell? ⟨g, 4, none⟩ = some (.string ⟨#[]⟩) ∧ W.cell? ⟨g, 5, none⟩ = some (.string ⟨#[]⟩) ∧ W.cell? ⟨g, 6, none⟩ = some (.string ⟨#[]⟩) ∧ W.cell? ⟨g, 7, none⟩ = some (.string ⟨#[]⟩) ∧ W.cell? ⟨g, 8, none⟩ = some (.string ⟨#[]⟩) ∧ W.cell? ⟨g, 9, none⟩ = some (.string ⟨#[]⟩) ∧ W.cell? ⟨g, 10, none⟩ = some (.string ⟨#[]⟩) ∧ W.cell? ⟨g, 11, none⟩ = some (.string ⟨#[]⟩) ∧ W.cell? ⟨g, 12, none⟩ = some (.string ⟨#[]⟩) ∧ W.cell? ⟨g, 13, none⟩ = some (.string ⟨#[]⟩) ∧ W.frozen? ⟨g, 0, none⟩ = false ∧ W.frozen? ⟨g, 1, none⟩ = false ∧ W.frozen? ⟨g, 2, none⟩ = false ∧ W.frozen? ⟨g, 3, none⟩ = false ∧ W.frozen? ⟨g, 4, none⟩ = false ∧ W.frozen? ⟨g, 5, none⟩ = false ∧ W.frozen? ⟨g, 6, none⟩ = false ∧ W.frozen? ⟨g, 7, none⟩ = false ∧ W.frozen? ⟨g, 8, none⟩ = false ∧ W.frozen? ⟨g, 9, none⟩ = false ∧ W.frozen? ⟨g, 10, none⟩ = false ∧ W.frozen? ⟨g, 11, none⟩ = false ∧ W.frozen? ⟨g, 12, none⟩ = false ∧ W.frozen? ⟨g, 13, none⟩ = false :=
  ⟨(h 0 (by decide)).1, (h 1 (by decide)).1, (h 2 (by decide)).1, (h 3 (by decide)).1, (h 4 (by decide)).1, (h 5 (by decide)).1, (h 6 (by decide)).1, (h 7 (by decide)).1, (h 8 (by decide)).1, (h 9 (by decide)).1, (h 10 (by decide)).1, (h 11 (by decide)).1, (h 12 (by decide)).1, (h 13 (by decide)).1, (h 0 (by decide)).2, (h 1 (by decide)).2, (h 2 (by decide)).2, (h 3 (by decide)).2, (h 4 (by decide)).2, (h 5 (by decide)).2, (h 6 (by decide)).2, (h 7 (by decide)).2, (h 8 (by decide)).2, (h 9 (by decide)).2, (h 10 (by decide)).2, (h 11 (by decide)).2, (h 12 (by decide)).2, (h 13 (by decide)).2⟩
theorem set14_fin {g B : Nat} {w W : World} (h : Rx14 g W) (hb : Below B w W) (hg : B ≤ g) (x0 x1 x2 x3 x4 x5 x6 x7 x8 x9 x10 x11 x12 x13 : Value) :
    (set14 W g x0 x1 x2 x3 x4 x5 x6 x7 x8 x9 x10 x11 x12 x13).cell? ⟨g, 0, none⟩ = some x0 ∧ (set14 W g x0 x1 x2 x3 x4 x5 x6 x7 x8 x9 x10 x11 x12 x13).cell? ⟨g, 1, none⟩ = some x1 ∧ (set14 W g x0 x1 x2 x3 x4 x5 x6 x7 x8 x9 x10 x11 x12 x13).cell? ⟨g, 2, none⟩ = some x2 ∧ (set14 W g x0 x1 x2 x3 x4 x5 x6 x7 x8 x9 x10 x11 x12 x13).cell? ⟨g, 3, none⟩ = some x3 ∧ (set14 W g x0 x1 x2 x3 x4 x5 x6 x7 x8 x9 x10 x11 x12 x13).cell? ⟨g, 4, none⟩ = some x4 ∧ (set14 W g x0 x1 x2 x3 x4 x5 x6 x7 x8 x9 x10 x11 x12 x13).cell? ⟨g, 5, none⟩ = some x5 ∧ (set14 W g x0 x1 x2 x3 x4 x5 x6 x7 x8 x9 x10 x11 x12 x13).cell? ⟨g, 6, none⟩ = some x6 ∧ (set14 W g x0 x1 x2 x3 x4 x5 x6 x7 x8 x9 x10 x11 x12 x13).cell? ⟨g, 7, none⟩ = some x7 ∧ (set14 W g x0 x1 x2 x3 x4 x5 x6 x7 x8 x9 x10 x11 x12 x13).cell? ⟨g, 8, none⟩ = some x8 ∧ (set14 W g x0 x1 x2 x3 x4 x5 x6 x7 x8 x9 x10 x11 x12 x13).cell? ⟨g, 9, none⟩ = some x9 ∧ (set14 W g x0 x1 x2 x3 x4 x5 x6 x7 x8 x9 x10 x11 x12 x13).cell? ⟨g, 10, none⟩ = some x10 ∧ (set14 W g x0 x1 x2 x3 x4 x5 x6 x7 x8 x9 x10 x11 x12 x13).cell? ⟨g, 11, none⟩ = some x11 ∧ (set14 W g x0 x1 x2 x3 x4 x5 x6 x7 x8 x9 x10 x11 x12 x13).cell? ⟨g, 12, none⟩ = some x12 ∧ (set14 W g x0 x1 x2 x3 x4 x5 x6 x7 x8 x9 x10 x11 x12 x13).cell? ⟨g, 13, none⟩ = some x13 ∧ Below B w (set14 W g x0 x1 x2 x3 x4 x5 x6 x7 x8 x9 x10 x11 x12 x13) := by
  rw [set14_is]
  have t := setL_cells (g := g) [x0, x1, x2, x3, x4, x5, x6, x7, x8, x9, x10, x11, x12, x13] W 0 (fun j _ h2 => ⟨_, (h j (by simpa using h2)).1⟩)
  exact ⟨t 0 (show 0 < 14 by decide), t 1 (show 1 < 14 by decide), t 2 (show 2 < 14 by decide), t 3 (show 3 < 14 by decide), t 4 (show 4 < 14 by decide), t 5 (show 5 < 14 by decide), t 6 (show 6 < 14 by decide), t 7 (show 7 < 14 by decide), t 8 (show 8 < 14 by decide), t 9 (show 9 < 14 by decide), t 10 (show 10 < 14 by decide), t 11 (show 11 < 14 by decide), t 12 (show 12 < 14 by decide), t 13 (show 13 < 14 by decide), setL_below hg _ _ _ hb⟩
/-- The world in which the loop of Rates starts. -/
def mk0 (w : World) : World := (w.alloc (.cells #[.string ⟨#[]⟩, .string ⟨#[]⟩, .string ⟨#[]⟩, .string ⟨#[]⟩, .string ⟨#[]⟩, .string ⟨#[]⟩, .string ⟨#[]⟩, .string ⟨#[]⟩, .string ⟨#[]⟩, .string ⟨#[]⟩, .string ⟨#[]⟩, .string ⟨#[]⟩, .string ⟨#[]⟩, .string ⟨#[]⟩] 36)).alloc (.cells #[.int .i64 0, .int .i64 0, .int .i64 0, .int .i64 0, .int .i64 0, .int .i64 0, .int .i64 0, .int .i64 0] 48)
/-- The boxes behind k rounds. -/
structure Lp (w : World) (l : List Int) (k : Nat) (W : World) : Prop where
  tl : Tl (w.heap.size + 1) (fn l) k W
  box : Rx14 w.heap.size W
  bel : Below w.heap.size w W
  size : w.heap.size + 2 ≤ W.heap.size
theorem mk0_lp (w : World) (l : List Int) : Lp w l 0 (mk0 w) := by
  refine ⟨fun j hj => ?_, fun j hj => ?_, ((Below.refl _ _).alloc (Nat.le_refl _) _).alloc (by simp) _, by simp [mk0]⟩
  · have e : j = 0 ∨ j = 1 ∨ j = 2 ∨ j = 3 ∨ j = 4 ∨ j = 5 ∨ j = 6 ∨ j = 7 := by omega
    rcases e with rfl | rfl | rfl | rfl | rfl | rfl | rfl | rfl <;> exact ⟨by simp [mk0, cn_zero, World.cell?_alloc_at], by simp [mk0]⟩
  · have e : j = 0 ∨ j = 1 ∨ j = 2 ∨ j = 3 ∨ j = 4 ∨ j = 5 ∨ j = 6 ∨ j = 7 ∨ j = 8 ∨ j = 9 ∨ j = 10 ∨ j = 11 ∨ j = 12 ∨ j = 13 := by omega
    rcases e with rfl | rfl | rfl | rfl | rfl | rfl | rfl | rfl | rfl | rfl | rfl | rfl | rfl | rfl <;> exact ⟨by simp [mk0, go_sem, World.cell?_alloc_past], by simp [mk0]⟩
theorem Lp.next {w : World} {l : List Int} {k : Nat} {W : World} (h : Lp w l k W) {m : Nat} (hm : m < 8) (e : fn l k = (m : Nat)) :
    Lp w l (k + 1) (W.setCell ⟨w.heap.size + 1, m, none⟩ (.int .i64 (cn (fn l) (m : Nat) k + 1 : Nat))) :=
  ⟨h.tl.miss hm e, fun j hj => ⟨by rw [World.cell?_setCell_other _ _ _ _ (by intro e; injection e with e1 _; omega)]; exact (h.box j hj).1, by rw [World.frozen?_setCell]; exact (h.box j hj).2⟩,
    h.bel.setCell (p := ⟨w.heap.size + 1, m, none⟩) (Nat.le_succ _) _, by simpa using h.size⟩
theorem Lp.keep {w : World} {l : List Int} {k : Nat} {W W' : World} (h : Lp w l k W) (hb : Below W.heap.size W W') : Lp w l k W' :=
  ⟨h.tl.keep hb (by have := h.size; omega), h.box.keep hb (by have := h.size; omega), h.bel.trans (hb.mono h.bel.size), Nat.le_trans h.size hb.size⟩
end Go.Proofs.YtecbkfmdpgkdiaaGreatDoor
