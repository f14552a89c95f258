/-
  Package code: frameWith, Meeting.
  Package code: checkCodings, frameFor.
  Package code: checkCodings.
  Package code: frameFor, CheckFrame, CheckCodings.
-/
import Derived.Test.YtdapmmhbnaknbaaDoorWW03
import Derived.Test.YtdapmmhbnaknbaaDoorWW02
namespace Go.Proofs.YtdapmmhbnaknbaaDoor
open Go.RowKit Go.WideMaps Go.Maps

/-- The code is one of the frame's. -/
def hasS (l : List Nd) (c : Int) : Bool := hasB (lev l) c
theorem hasS_iff {l : List Nd} (h : Fr l) {c : Int} : hasS l c = true ↔ ∃ k : Nat, c = k ∧ Has l k := by
  unfold hasS hasB
  rw [Bool.and_eq_true, Bool.and_eq_true, decide_eq_true_iff, decide_eq_true_iff, decide_eq_true_iff]
  constructor
  · rintro ⟨h1, h2, h3⟩
    refine ⟨c.toNat, by omega, ?_⟩
    by_cases hh : Has l c.toNat
    · exact hh
    · rw [lev_no hh] at h3; omega
  · rintro ⟨k, rfl, hk⟩
    have a := has_pos h.ord hk
    have b := h.lev hk
    rw [Int.toNat_natCast]
    exact ⟨by omega, by omega, by omega⟩
def codeE (l : List Nd) (cs : List Int) (k : Nat) : Int := if hasS l (fn cs k) = false then 5 else 0
def withS (l : List Nd) (cs : List Int) : Int := if frS l ≠ 0 then frS l else fe (codeE l cs) cs.length
def FwP (l : List Nd) (f : Int) (w : World) (e : Ending) (w' : World) : Prop :=
  (f = 0 ∧ ∃ x y, e = .returned (.tuple #[fv x y, .int .i64 0]) ∧ Arr w' x (par l) ∧ Arr w' y (lev l) ∧ Below w.heap.size w w' ∧ w.heap.size < x ∧ w.heap.size < y) ∨
  (f ≠ 0 ∧ e = .returned (.tuple #[.agg #[.slice none 0 0, .slice none 0 0], .int .i64 f]) ∧ Below w.heap.size w w')
theorem frame_ok {l : List Nd} {w w' : World} {e : Ending} (h : FrP l w e w') (hz : frS l = 0) : ∃ x y, e = .returned (.tuple #[fv x y, .int .i64 0]) ∧ Arr w' x (par l) ∧ Arr w' y (lev l) ∧ Below w.heap.size w w' ∧ w.heap.size < x ∧ w.heap.size < y := by
  rcases h with ⟨_, h⟩ | ⟨h, _⟩
  · exact h
  · exact absurd hz h
theorem frame_no {l : List Nd} {w w' : World} {e : Ending} (h : FrP l w e w') (hz : frS l ≠ 0) : e = .returned (.tuple #[.agg #[.slice none 0 0, .slice none 0 0], .int .i64 (frS l)]) ∧ Below w.heap.size w w' := by
  rcases h with ⟨h, _⟩ | ⟨_, h⟩
  · exact absurd h hz
  · exact h
theorem B2.frame (w : World) (x0 x1 : Value) (T : TypeId) : Below w.heap.size w (w.alloc (.cells #[x0, x1] T)) ∧ B2 (w.alloc (.cells #[x0, x1] T)) w.heap.size x0 x1 := ⟨bel_one _ _, B2.made _ _ _ _⟩
end Go.Proofs.YtdapmmhbnaknbaaDoor
namespace Go.Proofs.YtdapmmhbnaknbaaDoor
open Go.RowKit Go.WideMaps Go.Maps

/-- A box of three cells. -/
structure B3 (W : World) (g : Nat) (x0 x1 x2 : Value) : Prop where
  c0 : W.cell? ⟨g, 0, none⟩ = some x0
  c1 : W.cell? ⟨g, 1, none⟩ = some x1
  c2 : W.cell? ⟨g, 2, none⟩ = some x2
  fr : ∀ o, W.frozen? ⟨g, o, none⟩ = false
  lt : g < W.heap.size
theorem B3.keep {W W' : World} {g : Nat} {x0 x1 x2 : Value} (h : B3 W g x0 x1 x2) (hb : Below W.heap.size W W') : B3 W' g x0 x1 x2 :=
  ⟨(hb.cell (p := ⟨g, 0, none⟩) h.lt).trans h.c0, (hb.cell (p := ⟨g, 1, none⟩) h.lt).trans h.c1, (hb.cell (p := ⟨g, 2, none⟩) h.lt).trans h.c2, fun o => (hb.frozen (p := ⟨g, o, none⟩) h.lt).trans (h.fr o), Nat.lt_of_lt_of_le h.lt hb.size⟩
theorem B3.made (W : World) (x0 x1 x2 : Value) (T : TypeId) : B3 (W.alloc (.cells #[x0, x1, x2] T)) W.heap.size x0 x1 x2 := by
  refine ⟨?_, ?_, ?_, fun o => by simp, by simp⟩
  all_goals (rw [World.cell?_alloc_new]; rfl)
def three (W : World) (g : Nat) (y0 y1 y2 : Value) : World := ((W.setCell ⟨g, 0, none⟩ y0).setCell ⟨g, 1, none⟩ y1).setCell ⟨g, 2, none⟩ y2
theorem three_size (W : World) (g : Nat) (y0 y1 y2 : Value) : (three W g y0 y1 y2).heap.size = W.heap.size := by unfold three; simp
theorem three_cell {W : World} {g h : Nat} (hne : h ≠ g) (y0 y1 y2 : Value) (o : Nat) : (three W h y0 y1 y2).cell? ⟨g, o, none⟩ = W.cell? ⟨g, o, none⟩ := by
  unfold three
  rw [set_cell hne, set_cell hne, set_cell hne]
theorem B3.set {W : World} {g : Nat} {x0 x1 x2 : Value} (h : B3 W g x0 x1 x2) (y0 y1 y2 : Value) : B3 (three W g y0 y1 y2) g y0 y1 y2 := by
  have hne : ∀ {i j : Nat}, i ≠ j → (⟨g, i, none⟩ : Addr) ≠ ⟨g, j, none⟩ := fun h e => by injection e with _ e2; exact h e2
  unfold three
  refine ⟨?_, ?_, ?_, fun o => by simp only [World.frozen?_setCell]; exact h.fr o, by simpa using h.lt⟩
  · rw [World.cell?_setCell_other _ _ _ _ (hne (by decide)), World.cell?_setCell_other _ _ _ _ (hne (by decide)), World.cell?_setCell_same _ _ _ h.c0]
  · rw [World.cell?_setCell_other _ _ _ _ (hne (by decide)), World.cell?_setCell_same _ _ _ (u := x1) (by rw [World.cell?_setCell_other _ _ _ _ (hne (by decide))]; exact h.c1)]
  · rw [World.cell?_setCell_same _ _ _ (u := x2) (by rw [World.cell?_setCell_other _ _ _ _ (hne (by decide)), World.cell?_setCell_other _ _ _ _ (hne (by decide))]; exact h.c2)]
theorem below_three {W0 W : World} {B g : Nat} (h : Below B W0 W) (hg : B ≤ g) (y0 y1 y2 : Value) : Below B W0 (three W g y0 y1 y2) :=
  ((h.setCell (p := ⟨g, 0, none⟩) hg y0).setCell (p := ⟨g, 1, none⟩) hg y1).setCell (p := ⟨g, 2, none⟩) hg y2

/-- What stands ahead of coding k. -/
def lst (C : List Cg) (k : Nat) : Cg := if k = 0 then cg0 else cg C (k - 1)
/-- The error of coding k; h says which codes there are. -/
def cgE (h : Int → Bool) (C : List Cg) (k : Nat) : Int :=
  if (cg C k).ca < 1 ∨ (cg C k).co < 1 ∨ 50 < (cg C k).co then 1
  else if h (cg C k).cd = false then 5
  else if (cg C k).ca < (lst C k).ca ∨ ((cg C k).ca = (lst C k).ca ∧ (cg C k).co < (lst C k).co) then 7
  else if (cg C k).ca = (lst C k).ca ∧ (cg C k).co = (lst C k).co then 6 else 0
def cgsS (h : Int → Bool) (C : List Cg) : Int := if 20000 < C.length then 2 else fe (cgE h C) C.length
/-- What lies there in the loop of checkCodings. -/
structure InC (w wr : World) (x y : Nat) (C : List Cg) (k : Nat) : Prop where
  box : B2 wr w.heap.size (row x) (row y)
  last : B3 wr (w.heap.size + 1) (.int .i64 (lst C k).ca) (.int .i64 (lst C k).co) (.int .i64 (lst C k).cd)
  bel : Below w.heap.size w wr
theorem InC.keep {w wr W : World} {x y : Nat} {C : List Cg} {k : Nat} (h : InC w wr x y C k) (hb : Below wr.heap.size wr W) : InC w W x y C k :=
  ⟨h.box.keep hb, h.last.keep hb, h.bel.trans (hb.mono h.bel.size)⟩
theorem InC.next {w wr : World} {x y : Nat} {C : List Cg} {k : Nat} (h : InC w wr x y C k) : InC w (three wr (w.heap.size + 1) (.int .i64 (cg C k).ca) (.int .i64 (cg C k).co) (.int .i64 (cg C k).cd)) x y C (k + 1) := by
  have hn : w.heap.size + 1 ≠ w.heap.size := by omega
  refine ⟨⟨(three_cell hn _ _ _ _).trans h.box.c0, (three_cell hn _ _ _ _).trans h.box.c1, fun o => by unfold three; simp only [World.frozen?_setCell]; exact h.box.fr o, by rw [three_size]; exact h.box.lt⟩, ?_, below_three h.bel (by omega) _ _ _⟩
  have e : lst C (k + 1) = cg C k := by unfold lst; rw [if_neg (by omega)]; rfl
  rw [e]
  exact h.last.set _ _ _
def CodB (wr W1 : World) (u : Cg) : Prop := Below wr.heap.size wr W1 ∧ B3 W1 wr.heap.size (.int .i64 u.ca) (.int .i64 u.co) (.int .i64 u.cd)
end Go.Proofs.YtdapmmhbnaknbaaDoor
namespace Go.Proofs.YtdapmmhbnaknbaaDoor
open Go.RowKit Go.WideMaps Go.Maps

section
variable {h : Int → Bool} {C : List Cg} {k : Nat}
theorem cgE_1 (a : (cg C k).ca < 1 ∨ (cg C k).co < 1 ∨ 50 < (cg C k).co) : cgE h C k = 1 := by unfold cgE; rw [if_pos a]
theorem cgE_5 (a : ¬ ((cg C k).ca < 1 ∨ (cg C k).co < 1 ∨ 50 < (cg C k).co)) (b : h (cg C k).cd = false) : cgE h C k = 5 := by unfold cgE; rw [if_neg a, if_pos b]
theorem cgE_r (a : ¬ ((cg C k).ca < 1 ∨ (cg C k).co < 1 ∨ 50 < (cg C k).co)) (b : ¬ h (cg C k).cd = false) : cgE h C k = if (cg C k).ca < (lst C k).ca ∨ ((cg C k).ca = (lst C k).ca ∧ (cg C k).co < (lst C k).co) then 7
  else if (cg C k).ca = (lst C k).ca ∧ (cg C k).co = (lst C k).co then 6 else 0 := by unfold cgE; rw [if_neg a, if_neg b]
end
end Go.Proofs.YtdapmmhbnaknbaaDoor
namespace Go.Proofs.YtdapmmhbnaknbaaDoor
open Go.RowKit Go.WideMaps Go.Maps

/-- CheckCodings' answer. -/
def forS (l : List Nd) (C : List Cg) : Int := if frS l ≠ 0 then frS l else cgsS (hasB (lev l)) C
end Go.Proofs.YtdapmmhbnaknbaaDoor
