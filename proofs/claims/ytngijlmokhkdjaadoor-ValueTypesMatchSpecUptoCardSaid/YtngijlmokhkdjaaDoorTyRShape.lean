/-
  shapeOf, fits and operation of the reference (their cases made by a program).
-/
import Derived.Test.YtngijlmokhkdjaaDoorTyKind
import Derived.Test.YtngijlmokhkdjaaDoorTxtRefChk
import Derived.Deep.RegionHeld3
namespace Go.Proofs.YtngijlmokhkdjaaDoor
open Go.RowKit

def moreM (o : Int) : Bool := decide (o = 2 ∨ o = 3 ∨ o = 24 ∨ o = 25)
def ShapeM (o : Int) (w : World) (e : Ending) (w' : World) : Prop :=
  ∃ b c, e = .returned (.agg #[.slice (some ⟨b, 0, none⟩) (marksS o).length c, .int .i64 (resultS o), .bool (moreM o)]) ∧ (∀ j, j < (marksS o).length → w'.cell? ⟨b, j, none⟩ = some (.int .i64 ((marksS o).getD j 0))) ∧ b < w'.heap.size ∧ Below w.heap.size w w'
theorem cells_1 (w : World) (x : Int) (e : TypeId) (n : Nat) (hn : n = w.heap.size) : ∀ j, j < [x].length → (w.alloc (.cells #[.int .i64 x] e)).cell? ⟨n, j, none⟩ = some (.int .i64 ([x].getD j 0)) := by
  intro j hj
  rw [World.cell?_alloc_at _ _ _ _ hn]
  match j, hj with
  | 0, _ => rfl
theorem cells_2 (w : World) (x y : Int) (e : TypeId) (n : Nat) (hn : n = w.heap.size) : ∀ j, j < [x, y].length → (w.alloc (.cells #[.int .i64 x, .int .i64 y] e)).cell? ⟨n, j, none⟩ = some (.int .i64 ([x, y].getD j 0)) := by
  intro j hj
  rw [World.cell?_alloc_at _ _ _ _ hn]
  match j, hj with
  | 0, _ => rfl
  | 1, _ => rfl
theorem cells_3 (w : World) (x y z : Int) (e : TypeId) (n : Nat) (hn : n = w.heap.size) : ∀ j, j < [x, y, z].length → (w.alloc (.cells #[.int .i64 x, .int .i64 y, .int .i64 z] e)).cell? ⟨n, j, none⟩ = some (.int .i64 ([x, y, z].getD j 0)) := by
  intro j hj
  rw [World.cell?_alloc_at _ _ _ _ hn]
  match j, hj with
  | 0, _ => rfl
  | 1, _ => rfl
  | 2, _ => rfl

set_option maxHeartbeats 8000000 in
theorem rShapeM_0 (o : Int) (w : World) (h1 : 1 ≤ o) (h2 : o ≤ 13) :
    Calls Tryd.prog 54 #[.int .i64 o] w (ShapeM o w) := by
  have ho : o = 1 ∨ o = 2 ∨ o = 3 ∨ o = 4 ∨ o = 5 ∨ o = 6 ∨ o = 7 ∨ o = 8 ∨ o = 9 ∨ o = 10 ∨ o = 11 ∨ o = 12 ∨ o = 13 := by omega
  clear h1 h2
  rcases ho with rfl | rfl | rfl | rfl | rfl | rfl | rfl | rfl | rfl | rfl | rfl | rfl | rfl
  · go_enter Tryd.func54, Tryd.ntmps54
    go_wp2
    exact bodyPost_ret (v := .agg #[.slice (some ⟨w.heap.size + 1, 0, none⟩) 1 1, .int .i64 7, .bool false]) (by simp [results, Tryd.results54, go_sem]) rfl ⟨_, _, rfl, cells_1 _ 7 _ _ (by simp), by simp, ((Below.refl _ _).alloc (Nat.le_refl _) _).alloc (by simp) _⟩
  · go_enter Tryd.func54, Tryd.ntmps54
    go_wp2
    exact bodyPost_ret (v := .agg #[.slice (some ⟨w.heap.size + 1, 0, none⟩) 1 1, .int .i64 7, .bool true]) (by simp [results, Tryd.results54, go_sem]) rfl ⟨_, _, rfl, cells_1 _ 7 _ _ (by simp), by simp, ((Below.refl _ _).alloc (Nat.le_refl _) _).alloc (by simp) _⟩
  · go_enter Tryd.func54, Tryd.ntmps54
    go_wp2
    exact bodyPost_ret (v := .agg #[.slice (some ⟨w.heap.size + 1, 0, none⟩) 1 1, .int .i64 7, .bool true]) (by simp [results, Tryd.results54, go_sem]) rfl ⟨_, _, rfl, cells_1 _ 7 _ _ (by simp), by simp, ((Below.refl _ _).alloc (Nat.le_refl _) _).alloc (by simp) _⟩
  · go_enter Tryd.func54, Tryd.ntmps54
    go_wp2
    exact bodyPost_ret (v := .agg #[.slice (some ⟨w.heap.size + 1, 0, none⟩) 2 2, .int .i64 7, .bool false]) (by simp [results, Tryd.results54, go_sem]) rfl ⟨_, _, rfl, cells_2 _ (-1) (-1) _ _ (by simp), by simp, ((Below.refl _ _).alloc (Nat.le_refl _) _).alloc (by simp) _⟩
  · go_enter Tryd.func54, Tryd.ntmps54
    go_wp2
    exact bodyPost_ret (v := .agg #[.slice (some ⟨w.heap.size + 1, 0, none⟩) 2 2, .int .i64 7, .bool false]) (by simp [results, Tryd.results54, go_sem]) rfl ⟨_, _, rfl, cells_2 _ (-1) (-1) _ _ (by simp), by simp, ((Below.refl _ _).alloc (Nat.le_refl _) _).alloc (by simp) _⟩
  · go_enter Tryd.func54, Tryd.ntmps54
    go_wp2
    exact bodyPost_ret (v := .agg #[.slice (some ⟨w.heap.size + 1, 0, none⟩) 2 2, .int .i64 7, .bool false]) (by simp [results, Tryd.results54, go_sem]) rfl ⟨_, _, rfl, cells_2 _ (-2) (-2) _ _ (by simp), by simp, ((Below.refl _ _).alloc (Nat.le_refl _) _).alloc (by simp) _⟩
  · go_enter Tryd.func54, Tryd.ntmps54
    go_wp2
    exact bodyPost_ret (v := .agg #[.slice (some ⟨w.heap.size + 1, 0, none⟩) 2 2, .int .i64 7, .bool false]) (by simp [results, Tryd.results54, go_sem]) rfl ⟨_, _, rfl, cells_2 _ (-2) (-2) _ _ (by simp), by simp, ((Below.refl _ _).alloc (Nat.le_refl _) _).alloc (by simp) _⟩
  · go_enter Tryd.func54, Tryd.ntmps54
    go_wp2
    exact bodyPost_ret (v := .agg #[.slice (some ⟨w.heap.size + 1, 0, none⟩) 2 2, .int .i64 7, .bool false]) (by simp [results, Tryd.results54, go_sem]) rfl ⟨_, _, rfl, cells_2 _ (-2) (-2) _ _ (by simp), by simp, ((Below.refl _ _).alloc (Nat.le_refl _) _).alloc (by simp) _⟩
  · go_enter Tryd.func54, Tryd.ntmps54
    go_wp2
    exact bodyPost_ret (v := .agg #[.slice (some ⟨w.heap.size + 1, 0, none⟩) 2 2, .int .i64 7, .bool false]) (by simp [results, Tryd.results54, go_sem]) rfl ⟨_, _, rfl, cells_2 _ (-2) (-2) _ _ (by simp), by simp, ((Below.refl _ _).alloc (Nat.le_refl _) _).alloc (by simp) _⟩
  · go_enter Tryd.func54, Tryd.ntmps54
    go_wp2
    exact bodyPost_ret (v := .agg #[.slice (some ⟨w.heap.size + 1, 0, none⟩) 2 2, .int .i64 7, .bool false]) (by simp [results, Tryd.results54, go_sem]) rfl ⟨_, _, rfl, cells_2 _ 4 5 _ _ (by simp), by simp, ((Below.refl _ _).alloc (Nat.le_refl _) _).alloc (by simp) _⟩
  · go_enter Tryd.func54, Tryd.ntmps54
    go_wp2
    exact bodyPost_ret (v := .agg #[.slice (some ⟨w.heap.size + 1, 0, none⟩) 2 2, .int .i64 7, .bool false]) (by simp [results, Tryd.results54, go_sem]) rfl ⟨_, _, rfl, cells_2 _ 5 4 _ _ (by simp), by simp, ((Below.refl _ _).alloc (Nat.le_refl _) _).alloc (by simp) _⟩
  · go_enter Tryd.func54, Tryd.ntmps54
    go_wp2
    exact bodyPost_ret (v := .agg #[.slice (some ⟨w.heap.size + 1, 0, none⟩) 1 1, .int .i64 7, .bool false]) (by simp [results, Tryd.results54, go_sem]) rfl ⟨_, _, rfl, cells_1 _ (-1) _ _ (by simp), by simp, ((Below.refl _ _).alloc (Nat.le_refl _) _).alloc (by simp) _⟩
  · go_enter Tryd.func54, Tryd.ntmps54
    go_wp2
    exact bodyPost_ret (v := .agg #[.slice (some ⟨w.heap.size + 1, 0, none⟩) 1 1, .int .i64 7, .bool false]) (by simp [results, Tryd.results54, go_sem]) rfl ⟨_, _, rfl, cells_1 _ (-1) _ _ (by simp), by simp, ((Below.refl _ _).alloc (Nat.le_refl _) _).alloc (by simp) _⟩

set_option maxHeartbeats 8000000 in
theorem rShapeM_1 (o : Int) (w : World) (h1 : 14 ≤ o) (h2 : o ≤ 26) :
    Calls Tryd.prog 54 #[.int .i64 o] w (ShapeM o w) := by
  have ho : o = 14 ∨ o = 15 ∨ o = 16 ∨ o = 17 ∨ o = 18 ∨ o = 19 ∨ o = 20 ∨ o = 21 ∨ o = 22 ∨ o = 23 ∨ o = 24 ∨ o = 25 ∨ o = 26 := by omega
  clear h1 h2
  rcases ho with rfl | rfl | rfl | rfl | rfl | rfl | rfl | rfl | rfl | rfl | rfl | rfl | rfl
  · go_enter Tryd.func54, Tryd.ntmps54
    go_wp2
    exact bodyPost_ret (v := .agg #[.slice (some ⟨w.heap.size + 1, 0, none⟩) 1 1, .int .i64 2, .bool false]) (by simp [results, Tryd.results54, go_sem]) rfl ⟨_, _, rfl, cells_1 _ (-1) _ _ (by simp), by simp, ((Below.refl _ _).alloc (Nat.le_refl _) _).alloc (by simp) _⟩
  · go_enter Tryd.func54, Tryd.ntmps54
    go_wp2
    exact bodyPost_ret (v := .agg #[.slice (some ⟨w.heap.size + 1, 0, none⟩) 2 2, .int .i64 2, .bool false]) (by simp [results, Tryd.results54, go_sem]) rfl ⟨_, _, rfl, cells_2 _ 2 2 _ _ (by simp), by simp, ((Below.refl _ _).alloc (Nat.le_refl _) _).alloc (by simp) _⟩
  · go_enter Tryd.func54, Tryd.ntmps54
    go_wp2
    exact bodyPost_ret (v := .agg #[.slice (some ⟨w.heap.size + 1, 0, none⟩) 2 2, .int .i64 2, .bool false]) (by simp [results, Tryd.results54, go_sem]) rfl ⟨_, _, rfl, cells_2 _ 2 2 _ _ (by simp), by simp, ((Below.refl _ _).alloc (Nat.le_refl _) _).alloc (by simp) _⟩
  · go_enter Tryd.func54, Tryd.ntmps54
    go_wp2
    exact bodyPost_ret (v := .agg #[.slice (some ⟨w.heap.size + 1, 0, none⟩) 2 2, .int .i64 2, .bool false]) (by simp [results, Tryd.results54, go_sem]) rfl ⟨_, _, rfl, cells_2 _ 2 2 _ _ (by simp), by simp, ((Below.refl _ _).alloc (Nat.le_refl _) _).alloc (by simp) _⟩
  · go_enter Tryd.func54, Tryd.ntmps54
    go_wp2
    exact bodyPost_ret (v := .agg #[.slice (some ⟨w.heap.size + 1, 0, none⟩) 2 2, .int .i64 2, .bool false]) (by simp [results, Tryd.results54, go_sem]) rfl ⟨_, _, rfl, cells_2 _ 2 2 _ _ (by simp), by simp, ((Below.refl _ _).alloc (Nat.le_refl _) _).alloc (by simp) _⟩
  · go_enter Tryd.func54, Tryd.ntmps54
    go_wp2
    exact bodyPost_ret (v := .agg #[.slice (some ⟨w.heap.size + 1, 0, none⟩) 2 2, .int .i64 2, .bool false]) (by simp [results, Tryd.results54, go_sem]) rfl ⟨_, _, rfl, cells_2 _ 2 2 _ _ (by simp), by simp, ((Below.refl _ _).alloc (Nat.le_refl _) _).alloc (by simp) _⟩
  · go_enter Tryd.func54, Tryd.ntmps54
    go_wp2
    exact bodyPost_ret (v := .agg #[.slice (some ⟨w.heap.size + 1, 0, none⟩) 1 1, .int .i64 2, .bool false]) (by simp [results, Tryd.results54, go_sem]) rfl ⟨_, _, rfl, cells_1 _ 2 _ _ (by simp), by simp, ((Below.refl _ _).alloc (Nat.le_refl _) _).alloc (by simp) _⟩
  · go_enter Tryd.func54, Tryd.ntmps54
    go_wp2
    exact bodyPost_ret (v := .agg #[.slice (some ⟨w.heap.size + 1, 0, none⟩) 1 1, .int .i64 2, .bool false]) (by simp [results, Tryd.results54, go_sem]) rfl ⟨_, _, rfl, cells_1 _ 2 _ _ (by simp), by simp, ((Below.refl _ _).alloc (Nat.le_refl _) _).alloc (by simp) _⟩
  · go_enter Tryd.func54, Tryd.ntmps54
    go_wp2
    exact bodyPost_ret (v := .agg #[.slice (some ⟨w.heap.size + 1, 0, none⟩) 1 1, .int .i64 2, .bool false]) (by simp [results, Tryd.results54, go_sem]) rfl ⟨_, _, rfl, cells_1 _ 2 _ _ (by simp), by simp, ((Below.refl _ _).alloc (Nat.le_refl _) _).alloc (by simp) _⟩
  · go_enter Tryd.func54, Tryd.ntmps54
    go_wp2
    exact bodyPost_ret (v := .agg #[.slice (some ⟨w.heap.size + 1, 0, none⟩) 1 1, .int .i64 2, .bool false]) (by simp [results, Tryd.results54, go_sem]) rfl ⟨_, _, rfl, cells_1 _ 2 _ _ (by simp), by simp, ((Below.refl _ _).alloc (Nat.le_refl _) _).alloc (by simp) _⟩
  · go_enter Tryd.func54, Tryd.ntmps54
    go_wp2
    exact bodyPost_ret (v := .agg #[.slice (some ⟨w.heap.size + 1, 0, none⟩) 1 1, .int .i64 (-2), .bool true]) (by simp [results, Tryd.results54, go_sem]) rfl ⟨_, _, rfl, cells_1 _ (-2) _ _ (by simp), by simp, ((Below.refl _ _).alloc (Nat.le_refl _) _).alloc (by simp) _⟩
  · go_enter Tryd.func54, Tryd.ntmps54
    go_wp2
    exact bodyPost_ret (v := .agg #[.slice (some ⟨w.heap.size + 1, 0, none⟩) 1 1, .int .i64 (-2), .bool true]) (by simp [results, Tryd.results54, go_sem]) rfl ⟨_, _, rfl, cells_1 _ (-2) _ _ (by simp), by simp, ((Below.refl _ _).alloc (Nat.le_refl _) _).alloc (by simp) _⟩
  · go_enter Tryd.func54, Tryd.ntmps54
    go_wp2
    exact bodyPost_ret (v := .agg #[.slice (some ⟨w.heap.size + 1, 0, none⟩) 3 3, .int .i64 (-1), .bool false]) (by simp [results, Tryd.results54, go_sem]) rfl ⟨_, _, rfl, cells_3 _ 7 (-1) (-1) _ _ (by simp), by simp, ((Below.refl _ _).alloc (Nat.le_refl _) _).alloc (by simp) _⟩

set_option maxHeartbeats 8000000 in
theorem rShapeM_2 (o : Int) (w : World) (h1 : 27 ≤ o) (h2 : o ≤ 39) :
    Calls Tryd.prog 54 #[.int .i64 o] w (ShapeM o w) := by
  have ho : o = 27 ∨ o = 28 ∨ o = 29 ∨ o = 30 ∨ o = 31 ∨ o = 32 ∨ o = 33 ∨ o = 34 ∨ o = 35 ∨ o = 36 ∨ o = 37 ∨ o = 38 ∨ o = 39 := by omega
  clear h1 h2
  rcases ho with rfl | rfl | rfl | rfl | rfl | rfl | rfl | rfl | rfl | rfl | rfl | rfl | rfl
  · go_enter Tryd.func54, Tryd.ntmps54
    go_wp2
    exact bodyPost_ret (v := .agg #[.slice (some ⟨w.heap.size + 1, 0, none⟩) 2 2, .int .i64 (-1), .bool false]) (by simp [results, Tryd.results54, go_sem]) rfl ⟨_, _, rfl, cells_2 _ (-1) (-1) _ _ (by simp), by simp, ((Below.refl _ _).alloc (Nat.le_refl _) _).alloc (by simp) _⟩
  · go_enter Tryd.func54, Tryd.ntmps54
    go_wp2
    exact bodyPost_ret (v := .agg #[.slice (some ⟨w.heap.size + 1, 0, none⟩) 1 1, .int .i64 2, .bool false]) (by simp [results, Tryd.results54, go_sem]) rfl ⟨_, _, rfl, cells_1 _ (-3) _ _ (by simp), by simp, ((Below.refl _ _).alloc (Nat.le_refl _) _).alloc (by simp) _⟩
  · go_enter Tryd.func54, Tryd.ntmps54
    go_wp2
    exact bodyPost_ret (v := .agg #[.slice (some ⟨w.heap.size + 1, 0, none⟩) 1 1, .int .i64 2, .bool false]) (by simp [results, Tryd.results54, go_sem]) rfl ⟨_, _, rfl, cells_1 _ 4 _ _ (by simp), by simp, ((Below.refl _ _).alloc (Nat.le_refl _) _).alloc (by simp) _⟩
  · go_enter Tryd.func54, Tryd.ntmps54
    go_wp2
    exact bodyPost_ret (v := .agg #[.slice (some ⟨w.heap.size + 1, 0, none⟩) 1 1, .int .i64 3, .bool false]) (by simp [results, Tryd.results54, go_sem]) rfl ⟨_, _, rfl, cells_1 _ 3 _ _ (by simp), by simp, ((Below.refl _ _).alloc (Nat.le_refl _) _).alloc (by simp) _⟩
  · go_enter Tryd.func54, Tryd.ntmps54
    go_wp2
    exact bodyPost_ret (v := .agg #[.slice (some ⟨w.heap.size + 1, 0, none⟩) 2 2, .int .i64 3, .bool false]) (by simp [results, Tryd.results54, go_sem]) rfl ⟨_, _, rfl, cells_2 _ 3 3 _ _ (by simp), by simp, ((Below.refl _ _).alloc (Nat.le_refl _) _).alloc (by simp) _⟩
  · go_enter Tryd.func54, Tryd.ntmps54
    go_wp2
    exact bodyPost_ret (v := .agg #[.slice (some ⟨w.heap.size + 1, 0, none⟩) 2 2, .int .i64 7, .bool false]) (by simp [results, Tryd.results54, go_sem]) rfl ⟨_, _, rfl, cells_2 _ 3 3 _ _ (by simp), by simp, ((Below.refl _ _).alloc (Nat.le_refl _) _).alloc (by simp) _⟩
  · go_enter Tryd.func54, Tryd.ntmps54
    go_wp2
    exact bodyPost_ret (v := .agg #[.slice (some ⟨w.heap.size + 1, 0, none⟩) 2 2, .int .i64 7, .bool false]) (by simp [results, Tryd.results54, go_sem]) rfl ⟨_, _, rfl, cells_2 _ 3 3 _ _ (by simp), by simp, ((Below.refl _ _).alloc (Nat.le_refl _) _).alloc (by simp) _⟩
  · go_enter Tryd.func54, Tryd.ntmps54
    go_wp2
    exact bodyPost_ret (v := .agg #[.slice (some ⟨w.heap.size + 1, 0, none⟩) 1 1, .int .i64 2, .bool false]) (by simp [results, Tryd.results54, go_sem]) rfl ⟨_, _, rfl, cells_1 _ 6 _ _ (by simp), by simp, ((Below.refl _ _).alloc (Nat.le_refl _) _).alloc (by simp) _⟩
  · go_enter Tryd.func54, Tryd.ntmps54
    go_wp2
    exact bodyPost_ret (v := .agg #[.slice (some ⟨w.heap.size + 1, 0, none⟩) 1 1, .int .i64 2, .bool false]) (by simp [results, Tryd.results54, go_sem]) rfl ⟨_, _, rfl, cells_1 _ 6 _ _ (by simp), by simp, ((Below.refl _ _).alloc (Nat.le_refl _) _).alloc (by simp) _⟩
  · go_enter Tryd.func54, Tryd.ntmps54
    go_wp2
    exact bodyPost_ret (v := .agg #[.slice (some ⟨w.heap.size + 1, 0, none⟩) 1 1, .int .i64 2, .bool false]) (by simp [results, Tryd.results54, go_sem]) rfl ⟨_, _, rfl, cells_1 _ 6 _ _ (by simp), by simp, ((Below.refl _ _).alloc (Nat.le_refl _) _).alloc (by simp) _⟩
  · go_enter Tryd.func54, Tryd.ntmps54
    go_wp2
    exact bodyPost_ret (v := .agg #[.slice (some ⟨w.heap.size + 1, 0, none⟩) 2 2, .int .i64 2, .bool false]) (by simp [results, Tryd.results54, go_sem]) rfl ⟨_, _, rfl, cells_2 _ 6 6 _ _ (by simp), by simp, ((Below.refl _ _).alloc (Nat.le_refl _) _).alloc (by simp) _⟩
  · go_enter Tryd.func54, Tryd.ntmps54
    go_wp2
    exact bodyPost_ret (v := .agg #[.slice (some ⟨w.heap.size + 1, 0, none⟩) 2 2, .int .i64 2, .bool false]) (by simp [results, Tryd.results54, go_sem]) rfl ⟨_, _, rfl, cells_2 _ 6 6 _ _ (by simp), by simp, ((Below.refl _ _).alloc (Nat.le_refl _) _).alloc (by simp) _⟩
  · go_enter Tryd.func54, Tryd.ntmps54
    go_wp2
    exact bodyPost_ret (v := .agg #[.slice (some ⟨w.heap.size + 1, 0, none⟩) 2 2, .int .i64 6, .bool false]) (by simp [results, Tryd.results54, go_sem]) rfl ⟨_, _, rfl, cells_2 _ 6 2 _ _ (by simp), by simp, ((Below.refl _ _).alloc (Nat.le_refl _) _).alloc (by simp) _⟩
theorem rShapeM_c (o : Int) (w : World) (h1 : 1 ≤ o) (h2 : o ≤ 39) : Calls Tryd.prog 54 #[.int .i64 o] w (ShapeM o w) := by
  by_cases h : o ≤ 13
  · exact rShapeM_0 o w h1 h
  by_cases h' : o ≤ 26
  · exact rShapeM_1 o w (by omega) h'
  · exact rShapeM_2 o w (by omega) h2

set_option maxHeartbeats 4000000 in
theorem fits_c (mark kind so : Int) (w : World) : Calls Tryd.prog 55 #[.int .i64 mark, .int .i64 kind, .int .i64 so] w fun e w' => e = .returned (.tuple #[.int .i64 (fitsS mark kind so).1, .bool (fitsS mark kind so).2]) ∧ w' = w := by
  obtain ⟨s0, hs0⟩ : ∃ b, b = decide (so = 0) := ⟨_, rfl⟩
  obtain ⟨sk, hsk⟩ : ∃ b, b = decide (so = kind) := ⟨_, rfl⟩
  have t0 : (so == 0) = s0 := by rw [hs0]; by_cases h : so = 0 <;> simp [h]
  have tk : (so == kind) = sk := by rw [hsk]; by_cases h : so = kind <;> simp [h]
  have e1 : fitsS (-1) kind so = (kind, s0 || sk) := by unfold fitsS; rw [if_pos rfl, hs0, hsk]; simp
  have e2 : fitsS (-2) kind so = (kind, (decide (kind = 2) || decide (kind = 6)) && (s0 || sk)) := by unfold fitsS; rw [if_neg (by decide), if_pos rfl, hs0, hsk]; simp
  have e3 : fitsS (-3) kind so = (so, decide (kind = 5) || decide (kind = 3)) := by unfold fitsS; rw [if_neg (by decide), if_neg (by decide), if_pos rfl]; simp
  have e4 : mark ≠ -1 → mark ≠ -2 → mark ≠ -3 → fitsS mark kind so = (so, decide (mark = kind)) := fun a b c => by unfold fitsS; rw [if_neg a, if_neg b, if_neg c]
  clear hs0 hsk
  by_cases m1 : mark = -1
  · subst m1
    generalize fitsS (-1) kind so = R at e1 ⊢
    have e := Lib.hid e1
    clear e1 e2 e3 e4
    cases s0 <;> cases sk
    all_goals
      go_enter Tryd.func55, Tryd.ntmps55
      go_wp2
      go_ret2
      exact ⟨by rw [e.out]; rfl, rfl⟩
  by_cases m2 : mark = -2
  · subst m2
    generalize fitsS (-2) kind so = R at e2 ⊢
    have e := Lib.hid e2
    clear e1 e2 e3 e4 m1
    by_cases k2 : kind = 2
    · subst k2
      cases s0 <;> cases sk
      all_goals
        go_enter Tryd.func55, Tryd.ntmps55
        go_wp2
        go_ret2
        exact ⟨by rw [e.out]; rfl, rfl⟩
    · have b2 : (kind == 2) = false := by simpa using k2
      have d2 : Hid (decide (kind = 2) = false) := by unfold Hid; simpa using k2
      clear k2
      rw [d2.out] at e
      by_cases k6 : kind = 6
      · subst k6
        cases s0 <;> cases sk
        all_goals
          go_enter Tryd.func55, Tryd.ntmps55
          go_wp2
          go_ret2
          exact ⟨by rw [e.out]; rfl, rfl⟩
      · have b6 : (kind == 6) = false := by simpa using k6
        have d6 : Hid (decide (kind = 6) = false) := by unfold Hid; simpa using k6
        clear k6
        rw [d6.out] at e
        cases s0 <;> cases sk
        all_goals
          go_enter Tryd.func55, Tryd.ntmps55
          go_wp2
          go_ret2
          exact ⟨by rw [e.out]; rfl, rfl⟩
  by_cases m3 : mark = -3
  · subst m3
    generalize fitsS (-3) kind so = R at e3 ⊢
    have e := Lib.hid e3
    clear e1 e2 e3 e4 m1 m2 t0 tk
    by_cases k5 : kind = 5
    · subst k5
      go_enter Tryd.func55, Tryd.ntmps55
      go_wp2
      go_ret2
      exact ⟨by rw [e.out]; rfl, rfl⟩
    · have b5 : (kind == 5) = false := by simpa using k5
      have d5 : Hid (decide (kind = 5) = false) := by unfold Hid; simpa using k5
      clear k5
      rw [d5.out] at e
      by_cases k3 : kind = 3
      · subst k3
        go_enter Tryd.func55, Tryd.ntmps55
        go_wp2
        go_ret2
        exact ⟨by rw [e.out]; rfl, rfl⟩
      · have b3 : (kind == 3) = false := by simpa using k3
        have d3 : Hid (decide (kind = 3) = false) := by unfold Hid; simpa using k3
        clear k3
        rw [d3.out] at e
        go_enter Tryd.func55, Tryd.ntmps55
        go_wp2
        go_ret2
        exact ⟨by rw [e.out]; rfl, rfl⟩
  · have e5 := e4 m1 m2 m3
    generalize fitsS mark kind so = R at e5 ⊢
    have n1 : (mark == -1) = false := by simpa using m1
    have n2 : (mark == -2) = false := by simpa using m2
    have n3 : (mark == -3) = false := by simpa using m3
    obtain ⟨mk, hmk⟩ : ∃ b, b = decide (mark = kind) := ⟨_, rfl⟩
    have tm : (mark == kind) = mk := by rw [hmk]; by_cases h : mark = kind <;> simp [h]
    rw [← hmk] at e5
    have e := Lib.hid e5
    clear e1 e2 e3 e4 e5 m1 m2 m3 hmk t0 tk
    cases mk
    all_goals
      go_enter Tryd.func55, Tryd.ntmps55
      go_wp2
      go_ret2
      exact ⟨by rw [e.out]; rfl, rfl⟩
end Go.Proofs.YtngijlmokhkdjaaDoor
