/-
  Whole numbers of any size: quotients and rests.
  Fractions of whole numbers of any size: boxes.
  Fractions of whole numbers of any size: Compare.
  Decimal texts of numbers of any size: appendChunk.
-/
import Derived.Test.YtchdfekajjeflaaGreatDoorM07
import Derived.Test.YtchdfekajjeflaaGreatDoorM01
import Derived.OwnWalk
namespace Go.Proofs.YtchdfekajjeflaaGreatDoor
open Go.RowKit

theorem zv_tdiv (b1 b2 : Bool) (n1 n2 : Nat) : zv (b1 != b2) (n1 / n2) = (zv b1 n1).tdiv (zv b2 n2) := by
  cases b1 <;> cases b2 <;> simp [zv, Int.neg_tdiv, Int.tdiv_neg, Int.ofNat_tdiv]
theorem zv_tmod (b1 b2 : Bool) (n1 n2 : Nat) : zv b1 (n1 % n2) = (zv b1 n1).tmod (zv b2 n2) := by
  cases b1 <;> cases b2 <;> simp [zv, Int.neg_tmod, Int.tmod_neg, Int.ofNat_tmod] <;> exact (Int.tmod_eq_emod_of_nonneg (by omega)).symm
/-- Two boxes of arguments, and the boxes of two results. -/
structure I4 (w : World) (b1 : Bool) (a1 : Option Addr) (k1 c1 : Nat) (b2 : Bool) (a2 : Option Addr) (k2 c2 : Nat) (W : World) : Prop where
  x : B2 W w.heap.size (.bool b1) (.slice a1 k1 c1)
  y : B2 W (w.heap.size + 1) (.bool b2) (.slice a2 k2 c2)
  r : B2 W (w.heap.size + 1 + 1) (.bool false) (.slice none 0 0)
  s : B2 W (w.heap.size + 1 + 1 + 1) (.bool false) (.slice none 0 0)
  bel : Below w.heap.size w W
theorem I4.keep {w : World} {b1 : Bool} {a1 : Option Addr} {k1 c1 : Nat} {b2 : Bool} {a2 : Option Addr} {k2 c2 : Nat} {W W' : World} (h : I4 w b1 a1 k1 c1 b2 a2 k2 c2 W) (hb : Below W.heap.size W W') : I4 w b1 a1 k1 c1 b2 a2 k2 c2 W' :=
  ⟨h.x.keep hb, h.y.keep hb, h.r.keep hb, h.s.keep hb, h.bel.trans (hb.mono h.bel.size)⟩
theorem I4.made (w : World) (b1 : Bool) (a1 : Option Addr) (k1 c1 : Nat) (b2 : Bool) (a2 : Option Addr) (k2 c2 : Nat) (T1 T2 T3 T4 : TypeId) :
    I4 w b1 a1 k1 c1 b2 a2 k2 c2 ((((w.alloc (.cells #[.bool b1, .slice a1 k1 c1] T1)).alloc (.cells #[.bool b2, .slice a2 k2 c2] T2)).alloc (.cells #[.bool false, .slice none 0 0] T3)).alloc (.cells #[.bool false, .slice none 0 0] T4)) := by
  have h := I3.made w b1 a1 k1 c1 b2 a2 k2 c2 T1 T2 T3
  have s3 : (((w.alloc (.cells #[.bool b1, .slice a1 k1 c1] T1)).alloc (.cells #[.bool b2, .slice a2 k2 c2] T2)).alloc (.cells #[.bool false, .slice none 0 0] T3)).heap.size = w.heap.size + 1 + 1 + 1 := by simp
  have k := h.keep (bel_one _ (.cells #[.bool false, .slice none 0 0] T4))
  refine ⟨k.x, k.y, k.r, ?_, k.bel⟩
  rw [← s3]; exact B2.made _ _ _ T4
theorem I4.si {w : World} {b1 : Bool} {a1 : Option Addr} {k1 c1 : Nat} {b2 : Bool} {a2 : Option Addr} {k2 c2 : Nat} {W : World} (h : I4 w b1 a1 k1 c1 b2 a2 k2 c2 W) : SI w.heap.size b1 a1 k1 c1 b2 a2 k2 c2 W := ⟨h.x.c0, h.x.c1, h.y.c0, h.y.c1⟩
def DvPost (q r : Int) (w : World) (e : Ending) (w' : World) : Prop :=
  ∃ b a k c b' a' k' c', e = .returned (.tuple #[.agg #[.bool b, .slice a k c], .agg #[.bool b', .slice a' k' c']]) ∧ Zn w' b a k c q ∧ Zn w' b' a' k' c' r ∧ Below w.heap.size w w'
end Go.Proofs.YtchdfekajjeflaaGreatDoor
namespace Go.Proofs.YtchdfekajjeflaaGreatDoor
open Go.RowKit

/-- A box of four cells. -/
structure B4 (W : World) (g : Nat) (x0 x1 x2 x3 : Value) : Prop where
  c0 : W.cell? ⟨g, 0, none⟩ = some x0
  c1 : W.cell? ⟨g, 1, none⟩ = some x1
  c2 : W.cell? ⟨g, 2, none⟩ = some x2
  c3 : W.cell? ⟨g, 3, none⟩ = some x3
  fr : ∀ o, W.frozen? ⟨g, o, none⟩ = false
  lt : g < W.heap.size
theorem B4.keep {W W' : World} {g : Nat} {x0 x1 x2 x3 : Value} (h : B4 W g x0 x1 x2 x3) (hb : Below W.heap.size W W') : B4 W' g x0 x1 x2 x3 := by
  have c := fun (o : Nat) => hb.cell (p := ⟨g, o, none⟩) h.lt
  exact ⟨(c 0).trans h.c0, (c 1).trans h.c1, (c 2).trans h.c2, (c 3).trans h.c3, fun o => (hb.frozen (p := ⟨g, o, none⟩) h.lt).trans (h.fr o), Nat.lt_of_lt_of_le h.lt hb.size⟩
theorem B4.made (W : World) (x0 x1 x2 x3 : Value) (T : TypeId) : B4 (W.alloc (.cells #[x0, x1, x2, x3] T)) W.heap.size x0 x1 x2 x3 := by
  refine ⟨?_, ?_, ?_, ?_, fun o => by simp, by simp⟩
  all_goals (rw [World.cell?_alloc_new]; rfl)
/-- All four cells are stored. -/
def four (W : World) (g : Nat) (y0 y1 y2 y3 : Value) : World := (((W.setCell ⟨g, 0, none⟩ y0).setCell ⟨g, 1, none⟩ y1).setCell ⟨g, 2, none⟩ y2).setCell ⟨g, 3, none⟩ y3
theorem four_size (W : World) (g : Nat) (y0 y1 y2 y3 : Value) : (four W g y0 y1 y2 y3).heap.size = W.heap.size := by unfold four; simp
theorem addr_ne {g : Nat} {i j : Nat} (h : i ≠ j) : (⟨g, i, none⟩ : Addr) ≠ ⟨g, j, none⟩ := fun e => by injection e with _ e2; exact h e2
theorem addr_ne' {g h : Nat} {i j : Nat} (hn : h ≠ g) : (⟨h, i, none⟩ : Addr) ≠ ⟨g, j, none⟩ := fun e => by injection e with e1 _; exact hn e1
theorem B4.set {W : World} {g : Nat} {x0 x1 x2 x3 : Value} (h : B4 W g x0 x1 x2 x3) (y0 y1 y2 y3 : Value) : B4 (four W g y0 y1 y2 y3) g y0 y1 y2 y3 := by
  unfold four
  refine ⟨?_, ?_, ?_, ?_, fun o => by simp only [World.frozen?_setCell]; exact h.fr o, by simpa using h.lt⟩
  · rw [World.cell?_setCell_other _ _ _ _ (addr_ne (by decide)), World.cell?_setCell_other _ _ _ _ (addr_ne (by decide)), World.cell?_setCell_other _ _ _ _ (addr_ne (by decide)), World.cell?_setCell_same _ _ _ h.c0]
  · rw [World.cell?_setCell_other _ _ _ _ (addr_ne (by decide)), World.cell?_setCell_other _ _ _ _ (addr_ne (by decide)), World.cell?_setCell_same _ _ _ (u := x1) (by rw [World.cell?_setCell_other _ _ _ _ (addr_ne (by decide))]; exact h.c1)]
  · rw [World.cell?_setCell_other _ _ _ _ (addr_ne (by decide)), World.cell?_setCell_same _ _ _ (u := x2) (by rw [World.cell?_setCell_other _ _ _ _ (addr_ne (by decide)), World.cell?_setCell_other _ _ _ _ (addr_ne (by decide))]; exact h.c2)]
  · rw [World.cell?_setCell_same _ _ _ (u := x3) (by rw [World.cell?_setCell_other _ _ _ _ (addr_ne (by decide)), World.cell?_setCell_other _ _ _ _ (addr_ne (by decide)), World.cell?_setCell_other _ _ _ _ (addr_ne (by decide))]; exact h.c3)]
theorem four_cell {W : World} {g h : Nat} (hne : h ≠ g) (y0 y1 y2 y3 : Value) (o : Nat) : (four W h y0 y1 y2 y3).cell? ⟨g, o, none⟩ = W.cell? ⟨g, o, none⟩ := by
  unfold four
  rw [World.cell?_setCell_other _ _ _ _ (addr_ne' hne), World.cell?_setCell_other _ _ _ _ (addr_ne' hne), World.cell?_setCell_other _ _ _ _ (addr_ne' hne), World.cell?_setCell_other _ _ _ _ (addr_ne' hne)]
theorem two_cell {W : World} {g h : Nat} (hne : h ≠ g) (y0 y1 : Value) (o : Nat) : (two W h y0 y1).cell? ⟨g, o, none⟩ = W.cell? ⟨g, o, none⟩ := by
  unfold two
  rw [World.cell?_setCell_other _ _ _ _ (addr_ne' hne), World.cell?_setCell_other _ _ _ _ (addr_ne' hne)]
theorem B4.other2 {W : World} {g h : Nat} {x0 x1 x2 x3 : Value} (hb : B4 W g x0 x1 x2 x3) (hne : h ≠ g) (y0 y1 : Value) : B4 (two W h y0 y1) g x0 x1 x2 x3 :=
  ⟨(two_cell hne _ _ 0).trans hb.c0, (two_cell hne _ _ 1).trans hb.c1, (two_cell hne _ _ 2).trans hb.c2, (two_cell hne _ _ 3).trans hb.c3, fun o => by unfold two; simp only [World.frozen?_setCell]; exact hb.fr o, by rw [two_size]; exact hb.lt⟩
theorem B4.other {W : World} {g h : Nat} {x0 x1 x2 x3 : Value} (hb : B4 W g x0 x1 x2 x3) (hne : h ≠ g) (y0 y1 y2 y3 : Value) : B4 (four W h y0 y1 y2 y3) g x0 x1 x2 x3 :=
  ⟨(four_cell hne _ _ _ _ 0).trans hb.c0, (four_cell hne _ _ _ _ 1).trans hb.c1, (four_cell hne _ _ _ _ 2).trans hb.c2, (four_cell hne _ _ _ _ 3).trans hb.c3, fun o => by unfold four; simp only [World.frozen?_setCell]; exact hb.fr o, by rw [four_size]; exact hb.lt⟩
theorem below_four {W0 W : World} {g : Nat} (h : Below W0.heap.size W0 W) (hg : W0.heap.size ≤ g) (y0 y1 y2 y3 : Value) : Below W0.heap.size W0 (four W g y0 y1 y2 y3) :=
  (((h.setCell (p := ⟨g, 0, none⟩) hg y0).setCell (p := ⟨g, 1, none⟩) hg y1).setCell (p := ⟨g, 2, none⟩) hg y2).setCell (p := ⟨g, 3, none⟩) hg y3
/-- No limb lies in this box. -/
def NL (u : Value) : Prop := ∀ m, u ≠ .int .u64 m
theorem NL.b (s : Bool) : NL (.bool s) := fun m e => by cases e
theorem NL.s (a : Option Addr) (k c : Nat) : NL (.slice a k c) := fun m e => by cases e
theorem Zn.set4 {W : World} {b : Bool} {a : Option Addr} {k c : Nat} {z : Int} (h : Zn W b a k c z) {g : Nat} {x0 x1 x2 x3 : Value} (hb : B4 W g x0 x1 x2 x3) (l0 : NL x0) (l1 : NL x1) (l2 : NL x2) (l3 : NL x3) (y0 y1 y2 y3 : Value) : Zn (four W g y0 y1 y2 y3) b a k c z := by
  obtain ⟨n, h1, h2⟩ := h
  refine ⟨n, ?_, h2⟩
  unfold four
  refine (((h1.set hb.c0 l0 y0).set (u := x1) ?_ l1 y1).set (u := x2) ?_ l2 y2).set (u := x3) ?_ l3 y3
  · rw [World.cell?_setCell_other _ _ _ _ (addr_ne (by decide))]; exact hb.c1
  · rw [World.cell?_setCell_other _ _ _ _ (addr_ne (by decide)), World.cell?_setCell_other _ _ _ _ (addr_ne (by decide))]; exact hb.c2
  · rw [World.cell?_setCell_other _ _ _ _ (addr_ne (by decide)), World.cell?_setCell_other _ _ _ _ (addr_ne (by decide)), World.cell?_setCell_other _ _ _ _ (addr_ne (by decide))]; exact hb.c3
def FrPost (n d : Int) (w : World) (e : Ending) (w' : World) : Prop :=
  ∃ b a k c b' a' k' c', e = .returned (.agg #[.bool b, .slice a k c, .bool b', .slice a' k' c']) ∧ Zn w' b a k c n ∧ Zn w' b' a' k' c' d ∧ Below w.heap.size w w'
/-- The arguments' boxes of Over, its result's, and the divisor's. -/
structure Ov (w : World) (gd : Nat) (b1 : Bool) (a1 : Option Addr) (k1 c1 : Nat) (b2 : Bool) (a2 : Option Addr) (k2 c2 : Nat) (b3 : Bool) (a3 : Option Addr) (k3 c3 : Nat) (W : World) : Prop where
  x : B2 W w.heap.size (.bool b1) (.slice a1 k1 c1)
  y : B2 W (w.heap.size + 1) (.bool b2) (.slice a2 k2 c2)
  r : B4 W (w.heap.size + 1 + 1) (.bool false) (.slice none 0 0) (.bool false) (.slice none 0 0)
  d : B2 W gd (.bool b3) (.slice a3 k3 c3)
  hd : w.heap.size + 1 + 1 < gd
  bel : Below w.heap.size w W
theorem Ov.keep {w : World} {gd : Nat} {b1 : Bool} {a1 : Option Addr} {k1 c1 : Nat} {b2 : Bool} {a2 : Option Addr} {k2 c2 : Nat} {b3 : Bool} {a3 : Option Addr} {k3 c3 : Nat} {W W' : World} (h : Ov w gd b1 a1 k1 c1 b2 a2 k2 c2 b3 a3 k3 c3 W) (hb : Below W.heap.size W W') :
    Ov w gd b1 a1 k1 c1 b2 a2 k2 c2 b3 a3 k3 c3 W' := ⟨h.x.keep hb, h.y.keep hb, h.r.keep hb, h.d.keep hb, h.hd, h.bel.trans (hb.mono h.bel.size)⟩
theorem Ov.setD {w : World} {gd : Nat} {b1 : Bool} {a1 : Option Addr} {k1 c1 : Nat} {b2 : Bool} {a2 : Option Addr} {k2 c2 : Nat} {b3 : Bool} {a3 : Option Addr} {k3 c3 : Nat} {W : World} (h : Ov w gd b1 a1 k1 c1 b2 a2 k2 c2 b3 a3 k3 c3 W) (b : Bool) (a : Option Addr) (k c : Nat) :
    Ov w gd b1 a1 k1 c1 b2 a2 k2 c2 b a k c (two W gd (.bool b) (.slice a k c)) :=
  have hd := h.hd
  ⟨h.x.other (by omega) _ _, h.y.other (by omega) _ _, h.r.other2 (by omega) _ _, h.d.set _ _, h.hd, below_two h.bel (by omega) _ _⟩
theorem Ov.setX {w : World} {gd : Nat} {b1 : Bool} {a1 : Option Addr} {k1 c1 : Nat} {b2 : Bool} {a2 : Option Addr} {k2 c2 : Nat} {b3 : Bool} {a3 : Option Addr} {k3 c3 : Nat} {W : World} (h : Ov w gd b1 a1 k1 c1 b2 a2 k2 c2 b3 a3 k3 c3 W) (b : Bool) (a : Option Addr) (k c : Nat) :
    Ov w gd b a k c b2 a2 k2 c2 b3 a3 k3 c3 (two W w.heap.size (.bool b) (.slice a k c)) :=
  have hd := h.hd
  ⟨h.x.set _ _, h.y.other (by omega) _ _, h.r.other2 (by omega) _ _, h.d.other (by omega) _ _, h.hd, below_two h.bel (by omega) _ _⟩
theorem Ov.setY {w : World} {gd : Nat} {b1 : Bool} {a1 : Option Addr} {k1 c1 : Nat} {b2 : Bool} {a2 : Option Addr} {k2 c2 : Nat} {b3 : Bool} {a3 : Option Addr} {k3 c3 : Nat} {W : World} (h : Ov w gd b1 a1 k1 c1 b2 a2 k2 c2 b3 a3 k3 c3 W) (b : Bool) (a : Option Addr) (k c : Nat) :
    Ov w gd b1 a1 k1 c1 b a k c b3 a3 k3 c3 (two W (w.heap.size + 1) (.bool b) (.slice a k c)) :=
  have hd := h.hd
  ⟨h.x.other (by omega) _ _, h.y.set _ _, h.r.other2 (by omega) _ _, h.d.other (by omega) _ _, h.hd, below_two h.bel (by omega) _ _⟩
/-- The divisor of Over: the greatest common divisor, with the denominator's sign. -/
def ovG (n d : Int) : Int := if d < 0 then -(Int.gcd n d : Int) else Int.gcd n d
theorem ovG_abs (n d : Int) : (ovG n d).natAbs = Int.gcd n d := by unfold ovG; split <;> omega
theorem ovG_ne {n d : Int} (h : d ≠ 0) : ovG n d ≠ 0 := by
  have : 0 < Int.gcd n d := Int.gcd_pos_of_ne_zero_right n h
  intro e
  have := ovG_abs n d
  rw [e] at this
  simp at this
  omega
end Go.Proofs.YtchdfekajjeflaaGreatDoor
namespace Go.Proofs.YtchdfekajjeflaaGreatDoor
open Go.RowKit

/-- Two boxes of fractions, and the box of a result. -/
structure F3 (w : World) (b1 : Bool) (a1 : Option Addr) (k1 c1 : Nat) (d1 : Bool) (e1 : Option Addr) (m1 q1 : Nat) (b2 : Bool) (a2 : Option Addr) (k2 c2 : Nat) (d2 : Bool) (e2 : Option Addr) (m2 q2 : Nat) (W : World) : Prop where
  x : B4 W w.heap.size (.bool b1) (.slice a1 k1 c1) (.bool d1) (.slice e1 m1 q1)
  y : B4 W (w.heap.size + 1) (.bool b2) (.slice a2 k2 c2) (.bool d2) (.slice e2 m2 q2)
  r : B4 W (w.heap.size + 1 + 1) (.bool false) (.slice none 0 0) (.bool false) (.slice none 0 0)
  bel : Below w.heap.size w W
theorem F3.keep {w : World} {b1 : Bool} {a1 : Option Addr} {k1 c1 : Nat} {d1 : Bool} {e1 : Option Addr} {m1 q1 : Nat} {b2 : Bool} {a2 : Option Addr} {k2 c2 : Nat} {d2 : Bool} {e2 : Option Addr} {m2 q2 : Nat} {W W' : World} (h : F3 w b1 a1 k1 c1 d1 e1 m1 q1 b2 a2 k2 c2 d2 e2 m2 q2 W) (hb : Below W.heap.size W W') : F3 w b1 a1 k1 c1 d1 e1 m1 q1 b2 a2 k2 c2 d2 e2 m2 q2 W' :=
  ⟨h.x.keep hb, h.y.keep hb, h.r.keep hb, h.bel.trans (hb.mono h.bel.size)⟩
theorem F3.made (w : World) (b1 : Bool) (a1 : Option Addr) (k1 c1 : Nat) (d1 : Bool) (e1 : Option Addr) (m1 q1 : Nat) (b2 : Bool) (a2 : Option Addr) (k2 c2 : Nat) (d2 : Bool) (e2 : Option Addr) (m2 q2 : Nat) (T1 T2 T3 : TypeId) :
    F3 w b1 a1 k1 c1 d1 e1 m1 q1 b2 a2 k2 c2 d2 e2 m2 q2 (((w.alloc (.cells #[.bool b1, .slice a1 k1 c1, .bool d1, .slice e1 m1 q1] T1)).alloc (.cells #[.bool b2, .slice a2 k2 c2, .bool d2, .slice e2 m2 q2] T2)).alloc (.cells #[.bool false, .slice none 0 0, .bool false, .slice none 0 0] T3)) := by
  have s1 : (w.alloc (.cells #[.bool b1, .slice a1 k1 c1, .bool d1, .slice e1 m1 q1] T1)).heap.size = w.heap.size + 1 := by simp
  have s2 : ((w.alloc (.cells #[.bool b1, .slice a1 k1 c1, .bool d1, .slice e1 m1 q1] T1)).alloc (.cells #[.bool b2, .slice a2 k2 c2, .bool d2, .slice e2 m2 q2] T2)).heap.size = w.heap.size + 1 + 1 := by simp
  refine ⟨((B4.made w _ _ _ _ T1).keep (bel_one _ _)).keep (bel_one _ _), ?_, ?_, ?_⟩
  · rw [← s1]; exact (B4.made _ _ _ _ _ T2).keep (bel_one _ _)
  · rw [← s2]; exact B4.made _ _ _ _ _ T3
  · exact (((Below.refl _ _).alloc (Nat.le_refl _) _).alloc (by simp) _).alloc (by simp; omega) _
def SF (g : Nat) (b1 : Bool) (a1 : Option Addr) (k1 c1 : Nat) (d1 : Bool) (e1 : Option Addr) (m1 q1 : Nat) (b2 : Bool) (a2 : Option Addr) (k2 c2 : Nat) (d2 : Bool) (e2 : Option Addr) (m2 q2 : Nat) (W : World) : Prop :=
  W.cell? ⟨g, 0, none⟩ = some (.bool b1) ∧ W.cell? ⟨g, 1, none⟩ = some (.slice a1 k1 c1) ∧ W.cell? ⟨g, 2, none⟩ = some (.bool d1) ∧ W.cell? ⟨g, 3, none⟩ = some (.slice e1 m1 q1) ∧
  W.cell? ⟨g + 1, 0, none⟩ = some (.bool b2) ∧ W.cell? ⟨g + 1, 1, none⟩ = some (.slice a2 k2 c2) ∧ W.cell? ⟨g + 1, 2, none⟩ = some (.bool d2) ∧ W.cell? ⟨g + 1, 3, none⟩ = some (.slice e2 m2 q2)
theorem F3.si {w : World} {b1 : Bool} {a1 : Option Addr} {k1 c1 : Nat} {d1 : Bool} {e1 : Option Addr} {m1 q1 : Nat} {b2 : Bool} {a2 : Option Addr} {k2 c2 : Nat} {d2 : Bool} {e2 : Option Addr} {m2 q2 : Nat} {W : World} (h : F3 w b1 a1 k1 c1 d1 e1 m1 q1 b2 a2 k2 c2 d2 e2 m2 q2 W) : SF w.heap.size b1 a1 k1 c1 d1 e1 m1 q1 b2 a2 k2 c2 d2 e2 m2 q2 W := ⟨h.x.c0, h.x.c1, h.x.c2, h.x.c3, h.y.c0, h.y.c1, h.y.c2, h.y.c3⟩
theorem F3.done {w : World} {b1 : Bool} {a1 : Option Addr} {k1 c1 : Nat} {d1 : Bool} {e1 : Option Addr} {m1 q1 : Nat} {b2 : Bool} {a2 : Option Addr} {k2 c2 : Nat} {d2 : Bool} {e2 : Option Addr} {m2 q2 : Nat} {W : World} (h : F3 w b1 a1 k1 c1 d1 e1 m1 q1 b2 a2 k2 c2 d2 e2 m2 q2 W) (y0 y1 y2 y3 : Value) : SF w.heap.size b1 a1 k1 c1 d1 e1 m1 q1 b2 a2 k2 c2 d2 e2 m2 q2 (four W (w.heap.size + 1 + 1) y0 y1 y2 y3) := by
  have u := h.x.other (h := w.heap.size + 1 + 1) (by omega) y0 y1 y2 y3
  have v := h.y.other (h := w.heap.size + 1 + 1) (by omega) y0 y1 y2 y3
  exact ⟨u.c0, u.c1, u.c2, u.c3, v.c0, v.c1, v.c2, v.c3⟩
theorem bp_mul {x y i j : Nat} (hx : x < bp i) (hy : y < bp j) : x * y < bp (i + j) := by
  rw [bp_add]
  have := bp_pos i
  exact Nat.mul_lt_mul_of_lt_of_lt hx hy
theorem bpz_mul {x y : Int} {i j k : Nat} (hx : x.natAbs < bp i) (hy : y.natAbs < bp j) (hk : i + j ≤ k) : (x * y).natAbs < bp k := by
  rw [Int.natAbs_mul]
  exact Nat.lt_of_lt_of_le (bp_mul hx hy) (bp_mono hk)
theorem bpz_add {x y : Int} {i k : Nat} (hx : x.natAbs < bp i) (hy : y.natAbs < bp i) (hk : i + 1 ≤ k) : (x + y).natAbs < bp k := by
  refine Nat.lt_of_lt_of_le ?_ (bp_mono hk)
  rw [bp_succ]
  have := Int.natAbs_add_le x y
  omega
/-- Two boxes of fractions. -/
structure F2 (w : World) (b1 : Bool) (a1 : Option Addr) (k1 c1 : Nat) (d1 : Bool) (e1 : Option Addr) (m1 q1 : Nat) (b2 : Bool) (a2 : Option Addr) (k2 c2 : Nat) (d2 : Bool) (e2 : Option Addr) (m2 q2 : Nat) (W : World) : Prop where
  x : B4 W w.heap.size (.bool b1) (.slice a1 k1 c1) (.bool d1) (.slice e1 m1 q1)
  y : B4 W (w.heap.size + 1) (.bool b2) (.slice a2 k2 c2) (.bool d2) (.slice e2 m2 q2)
  bel : Below w.heap.size w W
theorem F2.keep {w : World} {b1 : Bool} {a1 : Option Addr} {k1 c1 : Nat} {d1 : Bool} {e1 : Option Addr} {m1 q1 : Nat} {b2 : Bool} {a2 : Option Addr} {k2 c2 : Nat} {d2 : Bool} {e2 : Option Addr} {m2 q2 : Nat} {W W' : World} (h : F2 w b1 a1 k1 c1 d1 e1 m1 q1 b2 a2 k2 c2 d2 e2 m2 q2 W) (hb : Below W.heap.size W W') : F2 w b1 a1 k1 c1 d1 e1 m1 q1 b2 a2 k2 c2 d2 e2 m2 q2 W' :=
  ⟨h.x.keep hb, h.y.keep hb, h.bel.trans (hb.mono h.bel.size)⟩
theorem F2.made (w : World) (b1 : Bool) (a1 : Option Addr) (k1 c1 : Nat) (d1 : Bool) (e1 : Option Addr) (m1 q1 : Nat) (b2 : Bool) (a2 : Option Addr) (k2 c2 : Nat) (d2 : Bool) (e2 : Option Addr) (m2 q2 : Nat) (T1 T2 : TypeId) :
    F2 w b1 a1 k1 c1 d1 e1 m1 q1 b2 a2 k2 c2 d2 e2 m2 q2 ((w.alloc (.cells #[.bool b1, .slice a1 k1 c1, .bool d1, .slice e1 m1 q1] T1)).alloc (.cells #[.bool b2, .slice a2 k2 c2, .bool d2, .slice e2 m2 q2] T2)) := by
  have s1 : (w.alloc (.cells #[.bool b1, .slice a1 k1 c1, .bool d1, .slice e1 m1 q1] T1)).heap.size = w.heap.size + 1 := by simp
  refine ⟨(B4.made w _ _ _ _ T1).keep (bel_one _ _), ?_, ?_⟩
  · rw [← s1]; exact B4.made _ _ _ _ _ T2
  · exact ((Below.refl _ _).alloc (Nat.le_refl _) _).alloc (by simp) _
theorem F2.si {w : World} {b1 : Bool} {a1 : Option Addr} {k1 c1 : Nat} {d1 : Bool} {e1 : Option Addr} {m1 q1 : Nat} {b2 : Bool} {a2 : Option Addr} {k2 c2 : Nat} {d2 : Bool} {e2 : Option Addr} {m2 q2 : Nat} {W : World} (h : F2 w b1 a1 k1 c1 d1 e1 m1 q1 b2 a2 k2 c2 d2 e2 m2 q2 W) : SF w.heap.size b1 a1 k1 c1 d1 e1 m1 q1 b2 a2 k2 c2 d2 e2 m2 q2 W := ⟨h.x.c0, h.x.c1, h.x.c2, h.x.c3, h.y.c0, h.y.c1, h.y.c2, h.y.c3⟩
set_option maxRecDepth 100000 in
set_option maxHeartbeats 4000000 in
theorem FCompare_c (b1 : Bool) (a1 : Option Addr) (k1 c1 : Nat) (d1 : Bool) (e1 : Option Addr) (m1 q1 : Nat) (b2 : Bool) (a2 : Option Addr) (k2 c2 : Nat) (d2 : Bool) (e2 : Option Addr) (m2 q2 : Nat) (z1 y1 z2 y2 : Int) (w : World) (h1 : Zn w b1 a1 k1 c1 z1) (g1 : Zn w d1 e1 m1 q1 y1) (h2 : Zn w b2 a2 k2 c2 z2) (g2 : Zn w d2 e2 m2 q2 y2) (n1 : z1.natAbs < bp 400) (o1 : y1.natAbs < bp 400) (n2 : z2.natAbs < bp 400) (o2 : y2.natAbs < bp 400) :
    Calls Tryz.prog 9 #[.agg #[.bool b1, .slice a1 k1 c1, .bool d1, .slice e1 m1 q1], .agg #[.bool b2, .slice a2 k2 c2, .bool d2, .slice e2 m2 q2]] w fun e w' => e = .returned (.int .i64 (zcmp (z1 * y2) (z2 * y1))) ∧ Below w.heap.size w w' := by
  obtain ⟨W0, hW0⟩ : ∃ W0, (w.alloc (.cells #[.bool b1, .slice a1 k1 c1, .bool d1, .slice e1 m1 q1] 38)).alloc (.cells #[.bool b2, .slice a2 k2 c2, .bool d2, .slice e2 m2 q2] 38) = W0 := ⟨_, rfl⟩
  have J0 : Hid (F2 w b1 a1 k1 c1 d1 e1 m1 q1 b2 a2 k2 c2 d2 e2 m2 q2 W0) := by rw [← hW0]; exact F2.made _ _ _ _ _ _ _ _ _ _ _ _ _ _ _ _ _ _ _
  have M1 := Lib.hid (fun W (h : F2 w b1 a1 k1 c1 d1 e1 m1 q1 b2 a2 k2 c2 d2 e2 m2 q2 W) => h1.below h.bel)
  have M2 := Lib.hid (fun W (h : F2 w b1 a1 k1 c1 d1 e1 m1 q1 b2 a2 k2 c2 d2 e2 m2 q2 W) => h2.below h.bel)
  have D1 := Lib.hid (fun W (h : F2 w b1 a1 k1 c1 d1 e1 m1 q1 b2 a2 k2 c2 d2 e2 m2 q2 W) => g1.below h.bel)
  have D2 := Lib.hid (fun W (h : F2 w b1 a1 k1 c1 d1 e1 m1 q1 b2 a2 k2 c2 d2 e2 m2 q2 W) => g2.below h.bel)
  have P1 := Lib.hid (Nat.lt_of_lt_of_le n1 (bp_mono (show 400 ≤ 2000 by decide)))
  have P2 := Lib.hid (Nat.lt_of_lt_of_le n2 (bp_mono (show 400 ≤ 2000 by decide)))
  have Q1 := Lib.hid (Nat.lt_of_lt_of_le o1 (bp_mono (show 400 ≤ 2000 by decide)))
  have Q2 := Lib.hid (Nat.lt_of_lt_of_le o2 (bp_mono (show 400 ≤ 2000 by decide)))
  clear h1 h2 g1 g2 n1 n2 o1 o2
  go_enter Tryz.func9, Tryz.ntmps9
  go_wp2_with fail
  clear hW0
  refine wp_region_noPanic ?_
  refine wp_region_held_drew (S := SF w.heap.size b1 a1 k1 c1 d1 e1 m1 q1 b2 a2 k2 c2 d2 e2 m2 q2) (by kernel_rfl) (J0.out.keep (Below.refl _ _).drew).si (fun hS => ?_)
  have J1 := Lib.hid (J0.out.keep (Below.refl _ _).drew)
  clear J0
  refine wpAnyH_take (i := 0) (v := ?v0z49) rfl (by kernel_rfl) (by kernel_rfl) (by kernel_rfl) (fun _ _ _ h => h) (Or.inl ⟨by rfl, ?hy0z49⟩) (by assumption) ?rest0z49
  case hy0z49 =>
    intro w hSw
    dsimp only [SF] at hSw
    go_simp
    try with_reducible rfl
  simp only [Act.put, List.getElem_toArray, List.getElem_cons_succ, List.getElem_cons_zero, List.setIfInBounds_toArray, List.set_cons_zero, List.set_cons_succ]
  refine wpAnyH_take (i := 1) (v := ?v1z50) rfl (by kernel_rfl) (by kernel_rfl) (by kernel_rfl) (fun _ _ _ h => h) (Or.inl ⟨by rfl, ?hy1z50⟩) (by assumption) ?rest1z50
  case hy1z50 =>
    intro w hSw
    dsimp only [SF] at hSw
    go_simp
    try with_reducible rfl
  simp only [Act.put, List.getElem_toArray, List.getElem_cons_succ, List.getElem_cons_zero, List.setIfInBounds_toArray, List.set_cons_zero, List.set_cons_succ]
  refine wpAnyH_take (i := 2) (v := ?v2z51) rfl (by kernel_rfl) (by kernel_rfl) (by kernel_rfl) (fun _ _ _ h => h) (Or.inl ⟨by rfl, ?hy2z51⟩) (by assumption) ?rest2z51
  case hy2z51 =>
    intro w hSw
    dsimp only [SF] at hSw
    go_simp
    try with_reducible rfl
  simp only [Act.put, List.getElem_toArray, List.getElem_cons_succ, List.getElem_cons_zero, List.setIfInBounds_toArray, List.set_cons_zero, List.set_cons_succ]
  refine wpAnyH_take (i := 3) (v := ?v3z52) rfl (by kernel_rfl) (by kernel_rfl) (by kernel_rfl) (fun _ _ _ h => h) (Or.inl ⟨by rfl, ?hy3z52⟩) (by assumption) ?rest3z52
  case hy3z52 =>
    intro w hSw
    dsimp only [SF] at hSw
    go_simp
    try with_reducible rfl
  simp only [Act.put, List.getElem_toArray, List.getElem_cons_succ, List.getElem_cons_zero, List.setIfInBounds_toArray, List.set_cons_zero, List.set_cons_succ]
  refine wpAnyH_take (i := 5) (v := ?v5z53) rfl (by kernel_rfl) (by kernel_rfl) (by kernel_rfl) (fun _ _ _ h => h) (Or.inl ⟨by rfl, ?hy5z53⟩) (by assumption) ?rest5z53
  case hy5z53 =>
    intro w hSw
    dsimp only [SF] at hSw
    go_simp
    try with_reducible rfl
  simp only [Act.put, List.getElem_toArray, List.getElem_cons_succ, List.getElem_cons_zero, List.setIfInBounds_toArray, List.set_cons_zero, List.set_cons_succ]
  refine wpAnyH_take (i := 6) (v := ?v6z54) rfl (by kernel_rfl) (by kernel_rfl) (by kernel_rfl) (fun _ _ _ h => h) (Or.inl ⟨by rfl, ?hy6z54⟩) (by assumption) ?rest6z54
  case hy6z54 =>
    intro w hSw
    dsimp only [SF] at hSw
    go_simp
    try with_reducible rfl
  simp only [Act.put, List.getElem_toArray, List.getElem_cons_succ, List.getElem_cons_zero, List.setIfInBounds_toArray, List.set_cons_zero, List.set_cons_succ]
  refine wpAnyH_take (i := 7) (v := ?v7z55) rfl (by kernel_rfl) (by kernel_rfl) (by kernel_rfl) (fun _ _ _ h => h) (Or.inl ⟨by rfl, ?hy7z55⟩) (by assumption) ?rest7z55
  case hy7z55 =>
    intro w hSw
    dsimp only [SF] at hSw
    go_simp
    try with_reducible rfl
  simp only [Act.put, List.getElem_toArray, List.getElem_cons_succ, List.getElem_cons_zero, List.setIfInBounds_toArray, List.set_cons_zero, List.set_cons_succ]
  refine wpAnyH_take (i := 8) (v := ?v8z56) rfl (by kernel_rfl) (by kernel_rfl) (by kernel_rfl) (fun _ _ _ h => h) (Or.inl ⟨by rfl, ?hy8z56⟩) (by assumption) ?rest8z56
  case hy8z56 =>
    intro w hSw
    dsimp only [SF] at hSw
    go_simp
    try with_reducible rfl
  simp only [Act.put, List.getElem_toArray, List.getElem_cons_succ, List.getElem_cons_zero, List.setIfInBounds_toArray, List.set_cons_zero, List.set_cons_succ]
  refine wpAnyH_ready (rs := [4]) (by kernel_rfl) (by simp) ?_
  refine AllReadyH.cons rfl (fun K hK => ?_) AllReadyH.nil
  go_simp
  refine (Times_c b1 d2 a1 e2 k1 m2 c1 q2 z1 y2 _ (M1.out _ J1.out) (D2.out _ J1.out) P1.out Q2.out).mono ?_
  rintro e W3 ⟨nb, na, nk, nc, rfl, hn, bc⟩
  try go_simp
  have J3 := Lib.hid (J1.out.keep bc)
  have hT := J3.out.si
  have HN := Lib.hid hn
  refine hK.out _ _ hT (fun _ => ?_)
  clear hK K hS bc J1 hn
  have hS := hT
  clear hT
  try simp only [Act.put, List.setIfInBounds_toArray, List.set_cons_zero, List.set_cons_succ]
  refine wpAnyH_ready (rs := [9]) (by kernel_rfl) (by simp) ?_
  refine AllReadyH.cons rfl (fun K hK => ?_) AllReadyH.nil
  go_simp
  refine (Times_c b2 d1 a2 e1 k2 m1 c2 q1 z2 y1 _ (M2.out _ J3.out) (D1.out _ J3.out) P2.out Q1.out).mono ?_
  rintro e W4 ⟨tb, ta, tk, tc, rfl, hn, bc⟩
  try go_simp
  have J4 := Lib.hid (J3.out.keep bc)
  have hT := J4.out.si
  have HD := Lib.hid hn
  have HN4 := Lib.hid (HN.out.below bc)
  refine hK.out _ _ hT (fun _ => ?_)
  clear hK K hS bc J3 hn HN
  have hS := hT
  clear hT
  try simp only [Act.put, List.setIfInBounds_toArray, List.set_cons_zero, List.set_cons_succ]
  refine wpAnyH_ready (rs := [10]) (by kernel_rfl) (by simp) ?_
  refine AllReadyH.cons rfl (fun K hK => ?_) AllReadyH.nil
  go_simp
  refine (Compare_c nb tb na ta nk tk nc tc (z1 * y2) (z2 * y1) _ HN4.out HD.out).mono ?_
  rintro e W5 ⟨rfl, bc⟩
  try go_simp
  have J5 := Lib.hid (J4.out.keep bc)
  have hT := J5.out.si
  have BB := Lib.hid J5.out.bel
  refine hK.out _ _ hT (fun _ => ?_)
  clear hK K hS bc J4 HN4 HD
  have hS := hT
  clear hT
  try simp only [Act.put, List.setIfInBounds_toArray, List.set_cons_zero, List.set_cons_succ]
  refine wpAnyH_take (i := 11) (v := ?v11z57) rfl (by kernel_rfl) (by kernel_rfl) (by kernel_rfl) (fun _ _ _ h => h) (Or.inl ⟨by rfl, ?hy11z57⟩) (by assumption) ?rest11z57
  case hy11z57 =>
    intro w hSw
    dsimp only [SF] at hSw
    go_simp
    try with_reducible rfl
  simp only [Act.put, List.getElem_toArray, List.getElem_cons_succ, List.getElem_cons_zero, List.setIfInBounds_toArray, List.set_cons_zero, List.set_cons_succ]
  refine wpAnyH_done (by kernel_rfl) ?_ _
  refine NoPanic.normal ?_
  clear hS J5
  go_wp2
  go_ret
  exact ⟨rfl, BB.out⟩
end Go.Proofs.YtchdfekajjeflaaGreatDoor
namespace Go.Proofs.YtchdfekajjeflaaGreatDoor
open Go.RowKit

def bvals (l : List UInt8) : List Value := l.map fun x => Value.int .u8 (x.toNat : Int)
theorem bvals_append (a b : List UInt8) : bvals (a ++ b) = bvals a ++ bvals b := by unfold bvals; rw [List.map_append]
theorem bvals_length (a : List UInt8) : (bvals a).length = a.length := by unfold bvals; simp
/-- The first digits of a chunk. -/
def cdig (n k : Nat) : List UInt8 := (List.range k).map fun i => UInt8.ofNat (48 + n / pw i % 10)
theorem cdig_succ (n k : Nat) : cdig n (k + 1) = cdig n k ++ [UInt8.ofNat (48 + n / pw k % 10)] := by unfold cdig; rw [List.range_succ, List.map_append]; rfl
theorem cdig_length (n k : Nat) : (cdig n k).length = k := by simp [cdig]
theorem cdig_padL (n : Nat) : cdig n 19 = padL 19 n := by
  unfold cdig padL
  refine List.map_congr_left fun i hi => ?_
  have hi := List.mem_range.1 hi
  rw [pw_eq (by omega), show 19 - 1 - i = 18 - i by omega]
/-- A row of bytes of the call's own. -/
structure Byt (B : Nat) (w0 : World) (l : List UInt8) (v : Value) (w : World) : Prop where
  row : w.ownsRow B 5 1 v l.length (bvals l)
  bel : Below B w0 w
  size : B ≤ w.heap.size
theorem Byt.more {B : Nat} {w0 w w' : World} {l : List UInt8} {v v' : Value} (h : Byt B w0 l v w) (x : UInt8) (hown : w'.ownsRow B 5 1 v' (l.length + 1) (bvals l ++ [.int .u8 (x.toNat : Int)])) (o : Obj) (hg : (w.alloc o).grownBy w' v.ownBlock) : Byt B w0 (l ++ [x]) v' w' := by
  have hb := (h.bel.alloc h.size o).grown hg (by simp; have := h.size; omega) (fun b hb => (World.ownsRow.lt (h.row.alloc o) b hb).1)
  refine ⟨?_, hb, Nat.le_trans (Nat.le_trans h.size (by simp)) hg.size⟩
  rw [bvals_append, List.length_append]
  exact hown
theorem infoB : (Tryz.prog.info? 5).map (fun i => (i.zero, i.size, i.bytes)) = some (some (.int .u8 0), 1, 1) := by kernel_rfl
theorem info_byte : ∃ i, Tryz.prog.info? 5 = some i ∧ i.zero = some (.int .u8 0) ∧ i.size = 1 ∧ i.bytes = 1 := by
  have h := infoB
  cases e : Tryz.prog.info? 5 with
  | none => rw [e] at h; cases h
  | some i => rw [e] at h; simp at h; exact ⟨i, rfl, h⟩
set_option maxRecDepth 100000 in
set_option maxHeartbeats 1000000 in
theorem appendChunk_c (v : Value) (n B : Nat) (l : List UInt8) (w0 w : World) (hn : n < 10000000000000000000) (hl : l.length ≤ 200000) (hv : Byt B w0 l v w) :
    Calls Tryz.prog 68 #[v, .int .u64 n] w fun e w' => ∃ v', e = .returned v' ∧ Byt B w0 (l ++ padL 19 n) v' w' := by
  obtain ⟨i0, hi, hz0, hz1, hz2⟩ := info_byte
  have HN := Lib.hid hn
  have H0 : Hid (Byt B w0 (l ++ cdig n 0) v w) := by
    have e : l ++ cdig n 0 = l := by simp [cdig]
    unfold Hid; rw [e]; exact hv
  have HL := Lib.hid hl
  clear hn hv hl
  go_enter Tryz.func68, Tryz.ntmps68
  go_wp2
  go_loopw [0, 5] (fun v p wr => ∃ i : Nat, i ≤ 19 ∧ p = .int .u64 (pw i) ∧ Hid (Byt B w0 (l ++ cdig n i) v wr)) (fun _ p _ => (intOf p).toNat)
  case atStart => exact ⟨0, by omega, rfl, H0⟩
  case round =>
    obtain ⟨i, hi19, rfl, hC⟩ := hrel
    by_cases hlt : i < 19
    · have hp : 0 < pw i := by rw [pw_eq (by omega)]; exact Nat.pow_pos (by decide)
      have hp' : (0 : Int) < (pw i : Int) := by omega
      have hpb := pw_le i
      have hs := Lib.hid (pw_succ i)
      have hps := Lib.hid (cdig_succ n i)
      have hdt := Lib.hid (digit_toNat (d := n / pw i % 10) (Nat.mod_lt _ (by decide)))
      obtain ⟨q, hq⟩ : ∃ q, n / pw i = q := ⟨_, rfl⟩
      obtain ⟨p2, hp2⟩ : ∃ p, pw i / 10 = p := ⟨_, rfl⟩
      have hqb : q < 18446744073709551616 := by rw [← hq]; have := Nat.div_le_self n (pw i); have := HN.out; omega
      have e1 : (n : Int) / (pw i : Int) = (q : Int) := div_cast hq
      have w1 : IntKind.u64.wrap (q : Int) = (q : Int) := wrap_lt hqb
      have e2 : (pw i : Int) / 10 = (p2 : Int) := by rw [← hp2, Int.natCast_ediv]; rfl
      have w2 : IntKind.u64.wrap (p2 : Int) = (p2 : Int) := wrap_lt (by omega)
      have HP2 : Hid (p2 < pw i) := by unfold Hid; rw [← hp2]; exact Nat.div_lt_self hp (by decide)
      rw [hq] at hps hdt
      rw [hp2] at hs
      obtain ⟨d, hd⟩ : ∃ d, q % 10 = d := ⟨_, rfl⟩
      have hd10 : d < 10 := by rw [← hd]; exact Nat.mod_lt _ (by decide)
      have e3 : (q : Int) % 10 = (d : Int) := by rw [← hd, Int.natCast_emod]; rfl
      rw [hd] at hps hdt
      clear hq hp2 hd
      have hlen : (l ++ cdig n i).length = l.length + i := by rw [List.length_append, cdig_length]
      have HLEN := Lib.hid hlen
      clear hlen
      generalize pw i = p at *
      go_wp2_with (at_builtin; refine wpList_append_own _ rfl _ _ 88 rfl B 5 i0 (.int .u8 0) 1 1 Tryz.underlying88 hi hz0 hz1 hz2 rfl (by decide) _ _ _ rfl (hC.out.row.alloc _) ⟨wr.heap.size, 0, none⟩ 1 1 [.int .u8 (48 + (d : Int))] rfl rfl ?c1 ?c2 ?c3 ?c4 ?c5 ?_)
      case c1 =>
        intro j u hj
        match j, hj with
        | 0, hj => simp at hj; subst hj; simp [Addr.add]
      case c2 => intro u hu; simp at hu; subst hu; rfl
      case c3 => have := HLEN.out; have := HL.out; unfold maxLen; omega
      case c4 => have := HLEN.out; have := HL.out; omega
      case c5 => have := hC.out.size; simp; omega
      intro v' w1 hown' hgrow _
      have hC' : Hid (Byt B w0 (l ++ cdig n (i + 1)) v' w1) := by
        unfold Hid
        rw [hps.out, ← List.append_assoc]
        refine hC.out.more _ ?_ _ hgrow
        rw [hdt.out, show ((48 + d : Nat) : Int) = 48 + (d : Int) by omega, List.length_append]
        exact hown'
      clear hown' hgrow hC
      go_wp2
      go_roundw
      case rel => exact ⟨i + 1, by omega, by rw [hs.out], hC'.out⟩
      case measure => simp [intOf]; have := HP2.out; omega
    · obtain rfl : i = 19 := by omega
      rw [pw_end]
      go_wp2
      go_ret
      exact ⟨_, rfl, by rw [← cdig_padL]; exact hC.out⟩
end Go.Proofs.YtchdfekajjeflaaGreatDoor
