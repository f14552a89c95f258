/-
  Fractions of whole numbers of any size: Over.
-/
import Derived.Test.YtaibpppobblnoaaDoorWhDvd
namespace Go.Proofs.YtaibpppobblnoaaDoor
open Go.RowKit

/-- A box of four cells. -/
structure B4 (W : World) (g : Nat) (x0 x1 x2 x3 : Value) : Prop where
  c0 : W.cell? ⟨g, 0, none⟩ = some x0
  c1 : W.cell? ⟨g, 1, none⟩ = some x1
  c2 : W.cell? ⟨g, 2, none⟩ = some x2
  c3 : W.cell? ⟨g, 3, none⟩ = some x3
  fr : ∀ o, W.frozen? ⟨g, o, none⟩ = false
  lt : g < W.heap.size
theorem B4.keep {W W' : World} {g : Nat} {x0 x1 x2 x3 : Value} (h : B4 W g x0 x1 x2 x3) (hb : Below W.heap.size W W') : B4 W' g x0 x1 x2 x3 := by
  have c := fun (o : Nat) => hb.cell (p := ⟨g, o, none⟩) h.lt
  exact ⟨(c 0).trans h.c0, (c 1).trans h.c1, (c 2).trans h.c2, (c 3).trans h.c3, fun o => (hb.frozen (p := ⟨g, o, none⟩) h.lt).trans (h.fr o), Nat.lt_of_lt_of_le h.lt hb.size⟩
theorem B4.made (W : World) (x0 x1 x2 x3 : Value) (T : TypeId) : B4 (W.alloc (.cells #[x0, x1, x2, x3] T)) W.heap.size x0 x1 x2 x3 := by
  refine ⟨?_, ?_, ?_, ?_, fun o => by simp, by simp⟩
  all_goals (rw [World.cell?_alloc_new]; rfl)
/-- All four cells are stored. -/
def four (W : World) (g : Nat) (y0 y1 y2 y3 : Value) : World := (((W.setCell ⟨g, 0, none⟩ y0).setCell ⟨g, 1, none⟩ y1).setCell ⟨g, 2, none⟩ y2).setCell ⟨g, 3, none⟩ y3
theorem four_size (W : World) (g : Nat) (y0 y1 y2 y3 : Value) : (four W g y0 y1 y2 y3).heap.size = W.heap.size := by unfold four; simp
theorem addr_ne {g : Nat} {i j : Nat} (h : i ≠ j) : (⟨g, i, none⟩ : Addr) ≠ ⟨g, j, none⟩ := fun e => by injection e with _ e2; exact h e2
theorem addr_ne' {g h : Nat} {i j : Nat} (hn : h ≠ g) : (⟨h, i, none⟩ : Addr) ≠ ⟨g, j, none⟩ := fun e => by injection e with e1 _; exact hn e1
theorem B4.set {W : World} {g : Nat} {x0 x1 x2 x3 : Value} (h : B4 W g x0 x1 x2 x3) (y0 y1 y2 y3 : Value) : B4 (four W g y0 y1 y2 y3) g y0 y1 y2 y3 := by
  unfold four
  refine ⟨?_, ?_, ?_, ?_, fun o => by simp only [World.frozen?_setCell]; exact h.fr o, by simpa using h.lt⟩
  · rw [World.cell?_setCell_other _ _ _ _ (addr_ne (by decide)), World.cell?_setCell_other _ _ _ _ (addr_ne (by decide)), World.cell?_setCell_other _ _ _ _ (addr_ne (by decide)), World.cell?_setCell_same _ _ _ h.c0]
  · rw [World.cell?_setCell_other _ _ _ _ (addr_ne (by decide)), World.cell?_setCell_other _ _ _ _ (addr_ne (by decide)), World.cell?_setCell_same _ _ _ (u := x1) (by rw [World.cell?_setCell_other _ _ _ _ (addr_ne (by decide))]; exact h.c1)]
  · rw [World.cell?_setCell_other _ _ _ _ (addr_ne (by decide)), World.cell?_setCell_same _ _ _ (u := x2) (by rw [World.cell?_setCell_other _ _ _ _ (addr_ne (by decide)), World.cell?_setCell_other _ _ _ _ (addr_ne (by decide))]; exact h.c2)]
  · rw [World.cell?_setCell_same _ _ _ (u := x3) (by rw [World.cell?_setCell_other _ _ _ _ (addr_ne (by decide)), World.cell?_setCell_other _ _ _ _ (addr_ne (by decide)), World.cell?_setCell_other _ _ _ _ (addr_ne (by decide))]; exact h.c3)]
theorem four_cell {W : World} {g h : Nat} (hne : h ≠ g) (y0 y1 y2 y3 : Value) (o : Nat) : (four W h y0 y1 y2 y3).cell? ⟨g, o, none⟩ = W.cell? ⟨g, o, none⟩ := by
  unfold four
  rw [World.cell?_setCell_other _ _ _ _ (addr_ne' hne), World.cell?_setCell_other _ _ _ _ (addr_ne' hne), World.cell?_setCell_other _ _ _ _ (addr_ne' hne), World.cell?_setCell_other _ _ _ _ (addr_ne' hne)]
theorem two_cell {W : World} {g h : Nat} (hne : h ≠ g) (y0 y1 : Value) (o : Nat) : (two W h y0 y1).cell? ⟨g, o, none⟩ = W.cell? ⟨g, o, none⟩ := by
  unfold two
  rw [World.cell?_setCell_other _ _ _ _ (addr_ne' hne), World.cell?_setCell_other _ _ _ _ (addr_ne' hne)]
theorem B4.other2 {W : World} {g h : Nat} {x0 x1 x2 x3 : Value} (hb : B4 W g x0 x1 x2 x3) (hne : h ≠ g) (y0 y1 : Value) : B4 (two W h y0 y1) g x0 x1 x2 x3 :=
  ⟨(two_cell hne _ _ 0).trans hb.c0, (two_cell hne _ _ 1).trans hb.c1, (two_cell hne _ _ 2).trans hb.c2, (two_cell hne _ _ 3).trans hb.c3, fun o => by unfold two; simp only [World.frozen?_setCell]; exact hb.fr o, by rw [two_size]; exact hb.lt⟩
theorem B4.other {W : World} {g h : Nat} {x0 x1 x2 x3 : Value} (hb : B4 W g x0 x1 x2 x3) (hne : h ≠ g) (y0 y1 y2 y3 : Value) : B4 (four W h y0 y1 y2 y3) g x0 x1 x2 x3 :=
  ⟨(four_cell hne _ _ _ _ 0).trans hb.c0, (four_cell hne _ _ _ _ 1).trans hb.c1, (four_cell hne _ _ _ _ 2).trans hb.c2, (four_cell hne _ _ _ _ 3).trans hb.c3, fun o => by unfold four; simp only [World.frozen?_setCell]; exact hb.fr o, by rw [four_size]; exact hb.lt⟩
theorem below_four {W0 W : World} {g : Nat} (h : Below W0.heap.size W0 W) (hg : W0.heap.size ≤ g) (y0 y1 y2 y3 : Value) : Below W0.heap.size W0 (four W g y0 y1 y2 y3) :=
  (((h.setCell (p := ⟨g, 0, none⟩) hg y0).setCell (p := ⟨g, 1, none⟩) hg y1).setCell (p := ⟨g, 2, none⟩) hg y2).setCell (p := ⟨g, 3, none⟩) hg y3
/-- No limb lies in this box. -/
def NL (u : Value) : Prop := ∀ m, u ≠ .int .u64 m
theorem NL.b (s : Bool) : NL (.bool s) := fun m e => by cases e
theorem NL.s (a : Option Addr) (k c : Nat) : NL (.slice a k c) := fun m e => by cases e
theorem Zn.set4 {W : World} {b : Bool} {a : Option Addr} {k c : Nat} {z : Int} (h : Zn W b a k c z) {g : Nat} {x0 x1 x2 x3 : Value} (hb : B4 W g x0 x1 x2 x3) (l0 : NL x0) (l1 : NL x1) (l2 : NL x2) (l3 : NL x3) (y0 y1 y2 y3 : Value) : Zn (four W g y0 y1 y2 y3) b a k c z := by
  obtain ⟨n, h1, h2⟩ := h
  refine ⟨n, ?_, h2⟩
  unfold four
  refine (((h1.set hb.c0 l0 y0).set (u := x1) ?_ l1 y1).set (u := x2) ?_ l2 y2).set (u := x3) ?_ l3 y3
  · rw [World.cell?_setCell_other _ _ _ _ (addr_ne (by decide))]; exact hb.c1
  · rw [World.cell?_setCell_other _ _ _ _ (addr_ne (by decide)), World.cell?_setCell_other _ _ _ _ (addr_ne (by decide))]; exact hb.c2
  · rw [World.cell?_setCell_other _ _ _ _ (addr_ne (by decide)), World.cell?_setCell_other _ _ _ _ (addr_ne (by decide)), World.cell?_setCell_other _ _ _ _ (addr_ne (by decide))]; exact hb.c3
def FrPost (n d : Int) (w : World) (e : Ending) (w' : World) : Prop :=
  ∃ b a k c b' a' k' c', e = .returned (.agg #[.bool b, .slice a k c, .bool b', .slice a' k' c']) ∧ Zn w' b a k c n ∧ Zn w' b' a' k' c' d ∧ Below w.heap.size w w'
/-- The arguments' boxes of Over, its result's, and the divisor's. -/
structure Ov (w : World) (gd : Nat) (b1 : Bool) (a1 : Option Addr) (k1 c1 : Nat) (b2 : Bool) (a2 : Option Addr) (k2 c2 : Nat) (b3 : Bool) (a3 : Option Addr) (k3 c3 : Nat) (W : World) : Prop where
  x : B2 W w.heap.size (.bool b1) (.slice a1 k1 c1)
  y : B2 W (w.heap.size + 1) (.bool b2) (.slice a2 k2 c2)
  r : B4 W (w.heap.size + 1 + 1) (.bool false) (.slice none 0 0) (.bool false) (.slice none 0 0)
  d : B2 W gd (.bool b3) (.slice a3 k3 c3)
  hd : w.heap.size + 1 + 1 < gd
  bel : Below w.heap.size w W
theorem Ov.keep {w : World} {gd : Nat} {b1 : Bool} {a1 : Option Addr} {k1 c1 : Nat} {b2 : Bool} {a2 : Option Addr} {k2 c2 : Nat} {b3 : Bool} {a3 : Option Addr} {k3 c3 : Nat} {W W' : World} (h : Ov w gd b1 a1 k1 c1 b2 a2 k2 c2 b3 a3 k3 c3 W) (hb : Below W.heap.size W W') :
    Ov w gd b1 a1 k1 c1 b2 a2 k2 c2 b3 a3 k3 c3 W' := ⟨h.x.keep hb, h.y.keep hb, h.r.keep hb, h.d.keep hb, h.hd, h.bel.trans (hb.mono h.bel.size)⟩
theorem Ov.setD {w : World} {gd : Nat} {b1 : Bool} {a1 : Option Addr} {k1 c1 : Nat} {b2 : Bool} {a2 : Option Addr} {k2 c2 : Nat} {b3 : Bool} {a3 : Option Addr} {k3 c3 : Nat} {W : World} (h : Ov w gd b1 a1 k1 c1 b2 a2 k2 c2 b3 a3 k3 c3 W) (b : Bool) (a : Option Addr) (k c : Nat) :
    Ov w gd b1 a1 k1 c1 b2 a2 k2 c2 b a k c (two W gd (.bool b) (.slice a k c)) :=
  have hd := h.hd
  ⟨h.x.other (by omega) _ _, h.y.other (by omega) _ _, h.r.other2 (by omega) _ _, h.d.set _ _, h.hd, below_two h.bel (by omega) _ _⟩
theorem Ov.setX {w : World} {gd : Nat} {b1 : Bool} {a1 : Option Addr} {k1 c1 : Nat} {b2 : Bool} {a2 : Option Addr} {k2 c2 : Nat} {b3 : Bool} {a3 : Option Addr} {k3 c3 : Nat} {W : World} (h : Ov w gd b1 a1 k1 c1 b2 a2 k2 c2 b3 a3 k3 c3 W) (b : Bool) (a : Option Addr) (k c : Nat) :
    Ov w gd b a k c b2 a2 k2 c2 b3 a3 k3 c3 (two W w.heap.size (.bool b) (.slice a k c)) :=
  have hd := h.hd
  ⟨h.x.set _ _, h.y.other (by omega) _ _, h.r.other2 (by omega) _ _, h.d.other (by omega) _ _, h.hd, below_two h.bel (by omega) _ _⟩
theorem Ov.setY {w : World} {gd : Nat} {b1 : Bool} {a1 : Option Addr} {k1 c1 : Nat} {b2 : Bool} {a2 : Option Addr} {k2 c2 : Nat} {b3 : Bool} {a3 : Option Addr} {k3 c3 : Nat} {W : World} (h : Ov w gd b1 a1 k1 c1 b2 a2 k2 c2 b3 a3 k3 c3 W) (b : Bool) (a : Option Addr) (k c : Nat) :
    Ov w gd b1 a1 k1 c1 b a k c b3 a3 k3 c3 (two W (w.heap.size + 1) (.bool b) (.slice a k c)) :=
  have hd := h.hd
  ⟨h.x.other (by omega) _ _, h.y.set _ _, h.r.other2 (by omega) _ _, h.d.other (by omega) _ _, h.hd, below_two h.bel (by omega) _ _⟩
/-- The divisor of Over: the greatest common divisor, with the denominator's sign. -/
def ovG (n d : Int) : Int := if d < 0 then -(Int.gcd n d : Int) else Int.gcd n d
theorem ovG_abs (n d : Int) : (ovG n d).natAbs = Int.gcd n d := by unfold ovG; split <;> omega
theorem ovG_ne {n d : Int} (h : d ≠ 0) : ovG n d ≠ 0 := by
  have : 0 < Int.gcd n d := Int.gcd_pos_of_ne_zero_right n h
  intro e
  have := ovG_abs n d
  rw [e] at this
  simp at this
  omega
set_option maxRecDepth 100000 in
set_option maxHeartbeats 4000000 in
theorem Over_pos (b1 : Bool) (a1 a2 : Option Addr) (k1 k2 c1 c2 : Nat) (z1 z2 : Int) (w : World) (h1 : Zn w b1 a1 k1 c1 z1) (h2 : Zn w false a2 k2 c2 z2) (hz : z2 ≠ 0) (n1 : z1.natAbs < bp 2000) (n2 : z2.natAbs < bp 2000) :
    Calls Tryd.prog 26 #[.agg #[.bool b1, .slice a1 k1 c1], .agg #[.bool false, .slice a2 k2 c2]] w (FrPost (z1.tdiv (ovG z1 z2)) (z2.tdiv (ovG z1 z2)) w) := by
  obtain ⟨W0, hW0⟩ : ∃ W0, ((w.alloc (.cells #[.bool b1, .slice a1 k1 c1] 37)).alloc (.cells #[.bool false, .slice a2 k2 c2] 37)).alloc (.cells #[.bool false, .slice none 0 0, .bool false, .slice none 0 0] 39) = W0 := ⟨_, rfl⟩
  have h3 := I3.made w b1 a1 k1 c1 false a2 k2 c2 37 37 37
  have s2 : ((w.alloc (.cells #[.bool b1, .slice a1 k1 c1] 37)).alloc (.cells #[.bool false, .slice a2 k2 c2] 37)).heap.size = w.heap.size + 1 + 1 := by simp
  have X0 : B2 W0 w.heap.size (.bool b1) (.slice a1 k1 c1) := by rw [← hW0]; exact ((B2.made w _ _ _).keep (bel_one _ _)).keep (bel_one _ _)
  have Y0 : B2 W0 (w.heap.size + 1) (.bool false) (.slice a2 k2 c2) := by
    have s1 : (w.alloc (.cells #[.bool b1, .slice a1 k1 c1] 37)).heap.size = w.heap.size + 1 := by simp
    rw [← hW0, ← s1]; exact (B2.made _ _ _ _).keep (bel_one _ _)
  have R0 : B4 W0 (w.heap.size + 1 + 1) (.bool false) (.slice none 0 0) (.bool false) (.slice none 0 0) := by rw [← hW0, ← s2]; exact B4.made _ _ _ _ _ _
  have B0 : Below w.heap.size w W0 := by rw [← hW0]; exact (((Below.refl _ _).alloc (Nat.le_refl _) _).alloc (by simp) _).alloc (by simp; omega) _
  have S0 : Hid (w.heap.size + 1 + 1 < W0.heap.size) := by rw [← hW0]; simp [Hid]
  have HB0 := Lib.hid B0
  have HX0 := Lib.hid X0
  have HY0 := Lib.hid Y0
  have HR0 := Lib.hid R0
  have HC := Lib.hid (Common_c b1 false a1 a2 k1 k2 c1 c2 z1 z2 W0 (h1.below B0) (h2.below B0) n1 n2)
  have Z1 := Lib.hid (h1.below B0)
  have Z2 := Lib.hid (h2.below B0)
  have SG := Lib.hid h2.sign
  have N1 := Lib.hid (Nat.lt_of_lt_of_le n1 (bp_mono (show 2000 ≤ 4000 by decide)))
  have N2 := Lib.hid (Nat.lt_of_lt_of_le n2 (bp_mono (show 2000 ≤ 4000 by decide)))
  have HNE := Lib.hid (ovG_ne (n := z1) hz)
  have x0 := X0.c0
  have x1 := X0.c1
  have y0 := Y0.c0
  have y1 := Y0.c1
  clear h1 h2 h3 s2 hz n1 n2 X0 Y0 R0 B0
  go_enter Tryd.func26, Tryd.ntmps26
  go_wp2_with fail
  clear hW0
  clear x0 x1 y0 y1
  refine HC.out.mono ?_
  rintro e w1 ⟨gb, ga, gk, gc, rfl, hg, b1'⟩
  have HG1 := Lib.hid hg
  have BB1 := Lib.hid b1'
  clear hg b1' HC
  obtain ⟨W2, hW2⟩ : ∃ W2, w1.alloc (.cells #[.bool false, .slice none 0 0] 37) = W2 := ⟨_, rfl⟩
  have D2 : B2 W2 w1.heap.size (.bool false) (.slice none 0 0) := by rw [← hW2]; exact B2.made _ _ _ _
  have B2' : Below w1.heap.size w1 W2 := by rw [← hW2]; exact bel_one _ _
  have hb02 : Below W0.heap.size W0 W2 := BB1.out.trans (B2'.mono BB1.out.size)
  have O2 : Ov w w1.heap.size b1 a1 k1 c1 false a2 k2 c2 false none 0 0 W2 := ⟨HX0.out.keep hb02, HY0.out.keep hb02, HR0.out.keep hb02, D2, Nat.lt_of_lt_of_le S0.out BB1.out.size, HB0.out.trans (hb02.mono HB0.out.size)⟩
  obtain ⟨gd, hgd⟩ : ∃ gd, w1.heap.size = gd := ⟨_, rfl⟩
  rw [hgd] at D2 O2
  obtain ⟨W3, hW3⟩ : ∃ W3, two W2 gd (.bool gb) (.slice ga gk gc) = W3 := ⟨_, rfl⟩
  have O3 : Hid (Ov w gd b1 a1 k1 c1 false a2 k2 c2 gb ga gk gc W3) := by rw [← hW3]; exact O2.setD _ _ _ _
  have Z13 : Hid (Zn W3 b1 a1 k1 c1 z1) := by rw [← hW3]; exact (Z1.out.below hb02).set2 D2 _ _
  have Z23 : Hid (Zn W3 false a2 k2 c2 z2) := by rw [← hW3]; exact (Z2.out.below hb02).set2 D2 _ _
  have G3 : Hid (Zn W3 gb ga gk gc (Int.gcd z1 z2)) := by rw [← hW3]; exact (HG1.out.below B2').set2 D2 _ _
  have d0 := D2.c0
  have d1 := D2.c1
  have f0 := D2.fr 0
  have f1 := D2.fr 1
  clear D2 B2' hb02 O2 HX0 HY0 HR0 S0 HB0 Z1 Z2 HG1 BB1
  have xc0W3 := O3.out.x.c0
  have xc1W3 := O3.out.x.c1
  have xf0W3 := O3.out.x.fr 0
  have xf1W3 := O3.out.x.fr 1
  have yc0W3 := O3.out.y.c0
  have yc1W3 := O3.out.y.c1
  have yf0W3 := O3.out.y.fr 0
  have yf1W3 := O3.out.y.fr 1
  have dc0W3 := O3.out.d.c0
  have dc1W3 := O3.out.d.c1
  have df0W3 := O3.out.d.fr 0
  have df1W3 := O3.out.d.fr 1
  unfold two at hW3
  go_wp2_with fail
  clear hW3 hW2 d0 d1 f0 f1
  clear xc0W3 xc1W3 xf0W3 xf1W3 yc0W3 yc1W3 yf0W3 yf1W3 dc0W3 dc1W3 df0W3 df1W3
  clear hgd
  have G5 : Hid (Zn W3 gb ga gk gc (ovG z1 z2)) := by
    have e : ovG z1 z2 = (Int.gcd z1 z2 : Int) := by
      have := SG.out
      unfold ovG
      rw [if_neg (by simpa using this.symm)]
    rw [e]
    exact G3.out
  clear G3
  refine (Divide_c b1 gb a1 ga k1 gk c1 gc _ _ W3 Z13.out G5.out HNE.out N1.out).mono ?_
  rintro e w6 ⟨qb, qa, qk, qc, rb, ra, rk, rc, rfl, hq, _, b6⟩
  have O6 := Lib.hid (O3.out.keep b6)
  have Z26 := Lib.hid (Z23.out.below b6)
  have G6 := Lib.hid (G5.out.below b6)
  have Q6 := Lib.hid hq
  clear hq b6 O3 Z13 Z23 G5
  obtain ⟨W7, hW7⟩ : ∃ W7, two w6 w.heap.size (.bool qb) (.slice qa qk qc) = W7 := ⟨_, rfl⟩
  have O7 : Hid (Ov w gd qb qa qk qc false a2 k2 c2 gb ga gk gc W7) := by rw [← hW7]; exact O6.out.setX _ _ _ _
  have Z27 : Hid (Zn W7 false a2 k2 c2 z2) := by rw [← hW7]; exact Z26.out.set2 O6.out.x _ _
  have G7 : Hid (Zn W7 gb ga gk gc (ovG z1 z2)) := by rw [← hW7]; exact G6.out.set2 O6.out.x _ _
  have Q7 : Hid (Zn W7 qb qa qk qc (z1.tdiv (ovG z1 z2))) := by rw [← hW7]; exact Q6.out.set2 O6.out.x _ _
  have xc0w6 := O6.out.x.c0
  have xc1w6 := O6.out.x.c1
  have xf0w6 := O6.out.x.fr 0
  have xf1w6 := O6.out.x.fr 1
  have xc0W7 := O7.out.x.c0
  have xc1W7 := O7.out.x.c1
  have xf0W7 := O7.out.x.fr 0
  have xf1W7 := O7.out.x.fr 1
  have yc0W7 := O7.out.y.c0
  have yc1W7 := O7.out.y.c1
  have yf0W7 := O7.out.y.fr 0
  have yf1W7 := O7.out.y.fr 1
  have dc0W7 := O7.out.d.c0
  have dc1W7 := O7.out.d.c1
  have df0W7 := O7.out.d.fr 0
  have df1W7 := O7.out.d.fr 1
  clear O6 Z26 G6 Q6
  unfold two at hW7
  go_wp2_with fail
  clear hW7
  clear xc0w6 xc1w6 xf0w6 xf1w6
  clear xc0W7 xc1W7 xf0W7 xf1W7 yc0W7 yc1W7 yf0W7 yf1W7 dc0W7 dc1W7 df0W7 df1W7
  refine (Divide_c false gb a2 ga k2 gk c2 gc _ _ W7 Z27.out G7.out HNE.out N2.out).mono ?_
  rintro e w8 ⟨pb, pa, pk, pc, sb, sa, sk, sc, rfl, hp, _, b8⟩
  have O8 := Lib.hid (O7.out.keep b8)
  have Q8 := Lib.hid (Q7.out.below b8)
  have P8 := Lib.hid hp
  clear hp b8 O7 Z27 G7 Q7
  obtain ⟨W9, hW9⟩ : ∃ W9, two w8 (w.heap.size + 1) (.bool pb) (.slice pa pk pc) = W9 := ⟨_, rfl⟩
  have O9 : Hid (Ov w gd qb qa qk qc pb pa pk pc gb ga gk gc W9) := by rw [← hW9]; exact O8.out.setY _ _ _ _
  have Q9 : Hid (Zn W9 qb qa qk qc (z1.tdiv (ovG z1 z2))) := by rw [← hW9]; exact Q8.out.set2 O8.out.y _ _
  have P9 : Hid (Zn W9 pb pa pk pc (z2.tdiv (ovG z1 z2))) := by rw [← hW9]; exact P8.out.set2 O8.out.y _ _
  have yc0w8 := O8.out.y.c0
  have yc1w8 := O8.out.y.c1
  have yf0w8 := O8.out.y.fr 0
  have yf1w8 := O8.out.y.fr 1
  have xc0W9 := O9.out.x.c0
  have xc1W9 := O9.out.x.c1
  have xf0W9 := O9.out.x.fr 0
  have xf1W9 := O9.out.x.fr 1
  have yc0W9 := O9.out.y.c0
  have yc1W9 := O9.out.y.c1
  have yf0W9 := O9.out.y.fr 0
  have yf1W9 := O9.out.y.fr 1
  obtain ⟨WX, hWX⟩ : ∃ WX, four W9 (w.heap.size + 1 + 1) (.bool qb) (.slice qa qk qc) (.bool pb) (.slice pa pk pc) = WX := ⟨_, rfl⟩
  have RX : B4 WX (w.heap.size + 1 + 1) (.bool qb) (.slice qa qk qc) (.bool pb) (.slice pa pk pc) := by rw [← hWX]; exact O9.out.r.set _ _ _ _
  have PP : Hid (FrPost (z1.tdiv (ovG z1 z2)) (z2.tdiv (ovG z1 z2)) w (.returned (.agg #[.bool qb, .slice qa qk qc, .bool pb, .slice pa pk pc])) WX) := by
    rw [← hWX]
    exact ⟨_, _, _, _, _, _, _, _, rfl, Q9.out.set4 O9.out.r (NL.b _) (NL.s _ _ _) (NL.b _) (NL.s _ _ _) _ _ _ _, P9.out.set4 O9.out.r (NL.b _) (NL.s _ _ _) (NL.b _) (NL.s _ _ _) _ _ _ _, below_four O9.out.bel (by omega) _ _ _ _⟩
  have r0 := O9.out.r.c0
  have r1 := O9.out.r.c1
  have r2 := O9.out.r.c2
  have r3 := O9.out.r.c3
  have rf0 := O9.out.r.fr 0
  have rf1 := O9.out.r.fr 1
  have rf2 := O9.out.r.fr 2
  have rf3 := O9.out.r.fr 3
  obtain ⟨t0, t1, t2, t3, _, _⟩ := id RX
  clear O8 O9 Q8 P8 Q9 P9 RX
  unfold two at hW9
  unfold four at hWX
  go_wp2_with fail
  exact bodyPost_ret (v := .agg #[.bool qb, .slice qa qk qc, .bool pb, .slice pa pk pc]) (by simp [results, Tryd.results26, go_sem, t0, t1, t2, t3]) rfl PP.out
set_option maxRecDepth 100000 in
set_option maxHeartbeats 4000000 in
theorem Over_neg (b1 : Bool) (a1 a2 : Option Addr) (k1 k2 c1 c2 : Nat) (z1 z2 : Int) (w : World) (h1 : Zn w b1 a1 k1 c1 z1) (h2 : Zn w true a2 k2 c2 z2) (hz : z2 ≠ 0) (n1 : z1.natAbs < bp 2000) (n2 : z2.natAbs < bp 2000) :
    Calls Tryd.prog 26 #[.agg #[.bool b1, .slice a1 k1 c1], .agg #[.bool true, .slice a2 k2 c2]] w (FrPost (z1.tdiv (ovG z1 z2)) (z2.tdiv (ovG z1 z2)) w) := by
  obtain ⟨W0, hW0⟩ : ∃ W0, ((w.alloc (.cells #[.bool b1, .slice a1 k1 c1] 37)).alloc (.cells #[.bool true, .slice a2 k2 c2] 37)).alloc (.cells #[.bool false, .slice none 0 0, .bool false, .slice none 0 0] 39) = W0 := ⟨_, rfl⟩
  have h3 := I3.made w b1 a1 k1 c1 true a2 k2 c2 37 37 37
  have s2 : ((w.alloc (.cells #[.bool b1, .slice a1 k1 c1] 37)).alloc (.cells #[.bool true, .slice a2 k2 c2] 37)).heap.size = w.heap.size + 1 + 1 := by simp
  have X0 : B2 W0 w.heap.size (.bool b1) (.slice a1 k1 c1) := by rw [← hW0]; exact ((B2.made w _ _ _).keep (bel_one _ _)).keep (bel_one _ _)
  have Y0 : B2 W0 (w.heap.size + 1) (.bool true) (.slice a2 k2 c2) := by
    have s1 : (w.alloc (.cells #[.bool b1, .slice a1 k1 c1] 37)).heap.size = w.heap.size + 1 := by simp
    rw [← hW0, ← s1]; exact (B2.made _ _ _ _).keep (bel_one _ _)
  have R0 : B4 W0 (w.heap.size + 1 + 1) (.bool false) (.slice none 0 0) (.bool false) (.slice none 0 0) := by rw [← hW0, ← s2]; exact B4.made _ _ _ _ _ _
  have B0 : Below w.heap.size w W0 := by rw [← hW0]; exact (((Below.refl _ _).alloc (Nat.le_refl _) _).alloc (by simp) _).alloc (by simp; omega) _
  have S0 : Hid (w.heap.size + 1 + 1 < W0.heap.size) := by rw [← hW0]; simp [Hid]
  have HB0 := Lib.hid B0
  have HX0 := Lib.hid X0
  have HY0 := Lib.hid Y0
  have HR0 := Lib.hid R0
  have HC := Lib.hid (Common_c b1 true a1 a2 k1 k2 c1 c2 z1 z2 W0 (h1.below B0) (h2.below B0) n1 n2)
  have Z1 := Lib.hid (h1.below B0)
  have Z2 := Lib.hid (h2.below B0)
  have SG := Lib.hid h2.sign
  have N1 := Lib.hid (Nat.lt_of_lt_of_le n1 (bp_mono (show 2000 ≤ 4000 by decide)))
  have N2 := Lib.hid (Nat.lt_of_lt_of_le n2 (bp_mono (show 2000 ≤ 4000 by decide)))
  have HNE := Lib.hid (ovG_ne (n := z1) hz)
  have x0 := X0.c0
  have x1 := X0.c1
  have y0 := Y0.c0
  have y1 := Y0.c1
  clear h1 h2 h3 s2 hz n1 n2 X0 Y0 R0 B0
  go_enter Tryd.func26, Tryd.ntmps26
  go_wp2_with fail
  clear hW0
  clear x0 x1 y0 y1
  refine HC.out.mono ?_
  rintro e w1 ⟨gb, ga, gk, gc, rfl, hg, b1'⟩
  have HG1 := Lib.hid hg
  have BB1 := Lib.hid b1'
  clear hg b1' HC
  obtain ⟨W2, hW2⟩ : ∃ W2, w1.alloc (.cells #[.bool false, .slice none 0 0] 37) = W2 := ⟨_, rfl⟩
  have D2 : B2 W2 w1.heap.size (.bool false) (.slice none 0 0) := by rw [← hW2]; exact B2.made _ _ _ _
  have B2' : Below w1.heap.size w1 W2 := by rw [← hW2]; exact bel_one _ _
  have hb02 : Below W0.heap.size W0 W2 := BB1.out.trans (B2'.mono BB1.out.size)
  have O2 : Ov w w1.heap.size b1 a1 k1 c1 true a2 k2 c2 false none 0 0 W2 := ⟨HX0.out.keep hb02, HY0.out.keep hb02, HR0.out.keep hb02, D2, Nat.lt_of_lt_of_le S0.out BB1.out.size, HB0.out.trans (hb02.mono HB0.out.size)⟩
  obtain ⟨gd, hgd⟩ : ∃ gd, w1.heap.size = gd := ⟨_, rfl⟩
  rw [hgd] at D2 O2
  obtain ⟨W3, hW3⟩ : ∃ W3, two W2 gd (.bool gb) (.slice ga gk gc) = W3 := ⟨_, rfl⟩
  have O3 : Hid (Ov w gd b1 a1 k1 c1 true a2 k2 c2 gb ga gk gc W3) := by rw [← hW3]; exact O2.setD _ _ _ _
  have Z13 : Hid (Zn W3 b1 a1 k1 c1 z1) := by rw [← hW3]; exact (Z1.out.below hb02).set2 D2 _ _
  have Z23 : Hid (Zn W3 true a2 k2 c2 z2) := by rw [← hW3]; exact (Z2.out.below hb02).set2 D2 _ _
  have G3 : Hid (Zn W3 gb ga gk gc (Int.gcd z1 z2)) := by rw [← hW3]; exact (HG1.out.below B2').set2 D2 _ _
  have d0 := D2.c0
  have d1 := D2.c1
  have f0 := D2.fr 0
  have f1 := D2.fr 1
  clear D2 B2' hb02 O2 HX0 HY0 HR0 S0 HB0 Z1 Z2 HG1 BB1
  have xc0W3 := O3.out.x.c0
  have xc1W3 := O3.out.x.c1
  have xf0W3 := O3.out.x.fr 0
  have xf1W3 := O3.out.x.fr 1
  have yc0W3 := O3.out.y.c0
  have yc1W3 := O3.out.y.c1
  have yf0W3 := O3.out.y.fr 0
  have yf1W3 := O3.out.y.fr 1
  have dc0W3 := O3.out.d.c0
  have dc1W3 := O3.out.d.c1
  have df0W3 := O3.out.d.fr 0
  have df1W3 := O3.out.d.fr 1
  unfold two at hW3
  go_wp2_with fail
  clear hW3 hW2 d0 d1 f0 f1
  clear xc0W3 xc1W3 xf0W3 xf1W3 yc0W3 yc1W3 yf0W3 yf1W3 dc0W3 dc1W3 df0W3 df1W3
  clear hgd
  refine (Minus_c gb ga gk gc _ W3 G3.out).mono ?_
  rintro e w4 ⟨hb, ha, hk, hc, rfl, hg4, b4⟩
  have O4 := Lib.hid (O3.out.keep b4)
  have Z14 := Lib.hid (Z13.out.below b4)
  have Z24 := Lib.hid (Z23.out.below b4)
  have HG4 := Lib.hid hg4
  clear hg4 b4 O3 Z13 Z23 G3
  obtain ⟨W5, hW5⟩ : ∃ W5, two w4 gd (.bool hb) (.slice ha hk hc) = W5 := ⟨_, rfl⟩
  have O5 : Hid (Ov w gd b1 a1 k1 c1 true a2 k2 c2 hb ha hk hc W5) := by rw [← hW5]; exact O4.out.setD _ _ _ _
  have Z15 : Hid (Zn W5 b1 a1 k1 c1 z1) := by rw [← hW5]; exact Z14.out.set2 O4.out.d _ _
  have Z25 : Hid (Zn W5 true a2 k2 c2 z2) := by rw [← hW5]; exact Z24.out.set2 O4.out.d _ _
  have G5 : Hid (Zn W5 hb ha hk hc (ovG z1 z2)) := by
    rw [← hW5]
    have e : ovG z1 z2 = -(Int.gcd z1 z2 : Int) := by
      have := SG.out
      unfold ovG
      rw [if_pos (by simpa using this.symm)]
    rw [e]
    exact HG4.out.set2 O4.out.d _ _
  have dc0w4 := O4.out.d.c0
  have dc1w4 := O4.out.d.c1
  have df0w4 := O4.out.d.fr 0
  have df1w4 := O4.out.d.fr 1
  have xc0W5 := O5.out.x.c0
  have xc1W5 := O5.out.x.c1
  have xf0W5 := O5.out.x.fr 0
  have xf1W5 := O5.out.x.fr 1
  have yc0W5 := O5.out.y.c0
  have yc1W5 := O5.out.y.c1
  have yf0W5 := O5.out.y.fr 0
  have yf1W5 := O5.out.y.fr 1
  have dc0W5 := O5.out.d.c0
  have dc1W5 := O5.out.d.c1
  have df0W5 := O5.out.d.fr 0
  have df1W5 := O5.out.d.fr 1
  clear O4 Z14 Z24 HG4
  unfold two at hW5
  go_wp2_with fail
  clear hW5
  clear dc0w4 dc1w4 df0w4 df1w4
  clear xc0W5 xc1W5 xf0W5 xf1W5 yc0W5 yc1W5 yf0W5 yf1W5 dc0W5 dc1W5 df0W5 df1W5
  refine (Divide_c b1 hb a1 ha k1 hk c1 hc _ _ W5 Z15.out G5.out HNE.out N1.out).mono ?_
  rintro e w6 ⟨qb, qa, qk, qc, rb, ra, rk, rc, rfl, hq, _, b6⟩
  have O6 := Lib.hid (O5.out.keep b6)
  have Z26 := Lib.hid (Z25.out.below b6)
  have G6 := Lib.hid (G5.out.below b6)
  have Q6 := Lib.hid hq
  clear hq b6 O5 Z15 Z25 G5
  obtain ⟨W7, hW7⟩ : ∃ W7, two w6 w.heap.size (.bool qb) (.slice qa qk qc) = W7 := ⟨_, rfl⟩
  have O7 : Hid (Ov w gd qb qa qk qc true a2 k2 c2 hb ha hk hc W7) := by rw [← hW7]; exact O6.out.setX _ _ _ _
  have Z27 : Hid (Zn W7 true a2 k2 c2 z2) := by rw [← hW7]; exact Z26.out.set2 O6.out.x _ _
  have G7 : Hid (Zn W7 hb ha hk hc (ovG z1 z2)) := by rw [← hW7]; exact G6.out.set2 O6.out.x _ _
  have Q7 : Hid (Zn W7 qb qa qk qc (z1.tdiv (ovG z1 z2))) := by rw [← hW7]; exact Q6.out.set2 O6.out.x _ _
  have xc0w6 := O6.out.x.c0
  have xc1w6 := O6.out.x.c1
  have xf0w6 := O6.out.x.fr 0
  have xf1w6 := O6.out.x.fr 1
  have xc0W7 := O7.out.x.c0
  have xc1W7 := O7.out.x.c1
  have xf0W7 := O7.out.x.fr 0
  have xf1W7 := O7.out.x.fr 1
  have yc0W7 := O7.out.y.c0
  have yc1W7 := O7.out.y.c1
  have yf0W7 := O7.out.y.fr 0
  have yf1W7 := O7.out.y.fr 1
  have dc0W7 := O7.out.d.c0
  have dc1W7 := O7.out.d.c1
  have df0W7 := O7.out.d.fr 0
  have df1W7 := O7.out.d.fr 1
  clear O6 Z26 G6 Q6
  unfold two at hW7
  go_wp2_with fail
  clear hW7
  clear xc0w6 xc1w6 xf0w6 xf1w6
  clear xc0W7 xc1W7 xf0W7 xf1W7 yc0W7 yc1W7 yf0W7 yf1W7 dc0W7 dc1W7 df0W7 df1W7
  refine (Divide_c true hb a2 ha k2 hk c2 hc _ _ W7 Z27.out G7.out HNE.out N2.out).mono ?_
  rintro e w8 ⟨pb, pa, pk, pc, sb, sa, sk, sc, rfl, hp, _, b8⟩
  have O8 := Lib.hid (O7.out.keep b8)
  have Q8 := Lib.hid (Q7.out.below b8)
  have P8 := Lib.hid hp
  clear hp b8 O7 Z27 G7 Q7
  obtain ⟨W9, hW9⟩ : ∃ W9, two w8 (w.heap.size + 1) (.bool pb) (.slice pa pk pc) = W9 := ⟨_, rfl⟩
  have O9 : Hid (Ov w gd qb qa qk qc pb pa pk pc hb ha hk hc W9) := by rw [← hW9]; exact O8.out.setY _ _ _ _
  have Q9 : Hid (Zn W9 qb qa qk qc (z1.tdiv (ovG z1 z2))) := by rw [← hW9]; exact Q8.out.set2 O8.out.y _ _
  have P9 : Hid (Zn W9 pb pa pk pc (z2.tdiv (ovG z1 z2))) := by rw [← hW9]; exact P8.out.set2 O8.out.y _ _
  have yc0w8 := O8.out.y.c0
  have yc1w8 := O8.out.y.c1
  have yf0w8 := O8.out.y.fr 0
  have yf1w8 := O8.out.y.fr 1
  have xc0W9 := O9.out.x.c0
  have xc1W9 := O9.out.x.c1
  have xf0W9 := O9.out.x.fr 0
  have xf1W9 := O9.out.x.fr 1
  have yc0W9 := O9.out.y.c0
  have yc1W9 := O9.out.y.c1
  have yf0W9 := O9.out.y.fr 0
  have yf1W9 := O9.out.y.fr 1
  obtain ⟨WX, hWX⟩ : ∃ WX, four W9 (w.heap.size + 1 + 1) (.bool qb) (.slice qa qk qc) (.bool pb) (.slice pa pk pc) = WX := ⟨_, rfl⟩
  have RX : B4 WX (w.heap.size + 1 + 1) (.bool qb) (.slice qa qk qc) (.bool pb) (.slice pa pk pc) := by rw [← hWX]; exact O9.out.r.set _ _ _ _
  have PP : Hid (FrPost (z1.tdiv (ovG z1 z2)) (z2.tdiv (ovG z1 z2)) w (.returned (.agg #[.bool qb, .slice qa qk qc, .bool pb, .slice pa pk pc])) WX) := by
    rw [← hWX]
    exact ⟨_, _, _, _, _, _, _, _, rfl, Q9.out.set4 O9.out.r (NL.b _) (NL.s _ _ _) (NL.b _) (NL.s _ _ _) _ _ _ _, P9.out.set4 O9.out.r (NL.b _) (NL.s _ _ _) (NL.b _) (NL.s _ _ _) _ _ _ _, below_four O9.out.bel (by omega) _ _ _ _⟩
  have r0 := O9.out.r.c0
  have r1 := O9.out.r.c1
  have r2 := O9.out.r.c2
  have r3 := O9.out.r.c3
  have rf0 := O9.out.r.fr 0
  have rf1 := O9.out.r.fr 1
  have rf2 := O9.out.r.fr 2
  have rf3 := O9.out.r.fr 3
  obtain ⟨t0, t1, t2, t3, _, _⟩ := id RX
  clear O8 O9 Q8 P8 Q9 P9 RX
  unfold two at hW9
  unfold four at hWX
  go_wp2_with fail
  exact bodyPost_ret (v := .agg #[.bool qb, .slice qa qk qc, .bool pb, .slice pa pk pc]) (by simp [results, Tryd.results26, go_sem, t0, t1, t2, t3]) rfl PP.out
theorem Over_c (b1 b2 : Bool) (a1 a2 : Option Addr) (k1 k2 c1 c2 : Nat) (z1 z2 : Int) (w : World) (h1 : Zn w b1 a1 k1 c1 z1) (h2 : Zn w b2 a2 k2 c2 z2) (hz : z2 ≠ 0) (n1 : z1.natAbs < bp 2000) (n2 : z2.natAbs < bp 2000) :
    Calls Tryd.prog 26 #[.agg #[.bool b1, .slice a1 k1 c1], .agg #[.bool b2, .slice a2 k2 c2]] w (FrPost (z1.tdiv (ovG z1 z2)) (z2.tdiv (ovG z1 z2)) w) := by
  cases b2
  · exact Over_pos b1 a1 a2 k1 k2 c1 c2 z1 z2 w h1 h2 hz n1 n2
  · exact Over_neg b1 a1 a2 k1 k2 c1 c2 z1 z2 w h1 h2 hz n1 n2
end Go.Proofs.YtaibpppobblnoaaDoor
