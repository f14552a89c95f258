/-
  Part, lowest and Ratio of the reference's fractions, at numbers of one digit.
-/
import Derived.Test.YtecbkfmdpgkdiaaGreatDoorRatRText
namespace Go.Proofs.YtecbkfmdpgkdiaaGreatDoor
open Go.RowKit

def FrPost (n d : Nat) (w : World) (e : Ending) (w' : World) : Prop := ∃ a k c b m c2, e = .returned (.agg #[.bool false, .slice a k c, .slice b m c2]) ∧ Sm w' a k n ∧ Sm w' b m d ∧ Below w.heap.size w w'
theorem Sm.set {w : World} {a : Option Addr} {k n : Nat} (h : Sm w a k n) {p : Addr} {u : Value} (hu : w.cell? p = some u) (hne : ∀ m, u ≠ .int .i64 m) (x : Value) : Sm (w.setCell p x) a k n := by
  rcases h with h | ⟨h1, h2, h3, b, off, e, hl, hc⟩
  · exact .inl h
  · refine .inr ⟨h1, h2, h3, b, off, e, by simpa using hl, ?_⟩
    rw [World.cell?_setCell_other _ _ _ _ (by intro e; subst e; rw [hc] at hu; injection hu with hu; exact hne _ hu.symm)]
    exact hc
/-- The three cells of a fraction are stored. -/
def set3 (W : World) (g : Nat) (x y z : Value) : World := ((W.setCell ⟨g, 0, none⟩ x).setCell ⟨g, 1, none⟩ y).setCell ⟨g, 2, none⟩ z
theorem set3_cells {W : World} {g : Nat} {x y z u0 u1 u2 : Value} (h0 : W.cell? ⟨g, 0, none⟩ = some u0) (h1 : W.cell? ⟨g, 1, none⟩ = some u1) (h2 : W.cell? ⟨g, 2, none⟩ = some u2) :
    (set3 W g x y z).cell? ⟨g, 0, none⟩ = some x ∧ (set3 W g x y z).cell? ⟨g, 1, none⟩ = some y ∧ (set3 W g x y z).cell? ⟨g, 2, none⟩ = some z := by
  have t := two_cells (x := x) (y := y) h0 h1
  have e2 : ((W.setCell ⟨g, 0, none⟩ x).setCell ⟨g, 1, none⟩ y).cell? ⟨g, 2, none⟩ = some u2 := by
    rw [World.cell?_setCell_other _ _ _ _ (by simp), World.cell?_setCell_other _ _ _ _ (by simp)]; exact h2
  refine ⟨?_, ?_, World.cell?_setCell_same _ _ _ e2⟩
  · unfold set3; rw [World.cell?_setCell_other _ _ _ _ (by simp)]; exact t.1
  · unfold set3; rw [World.cell?_setCell_other _ _ _ _ (by simp)]; exact t.2
theorem set3_sm {W : World} {g : Nat} {x y z u0 u1 u2 : Value} (h0 : W.cell? ⟨g, 0, none⟩ = some u0) (h1 : W.cell? ⟨g, 1, none⟩ = some u1) (h2 : W.cell? ⟨g, 2, none⟩ = some u2) (n0 : ∀ m, u0 ≠ .int .i64 m) (n1 : ∀ m, u1 ≠ .int .i64 m) (n2 : ∀ m, u2 ≠ .int .i64 m)
    {a : Option Addr} {k n : Nat} (h : Sm W a k n) : Sm (set3 W g x y z) a k n := by
  have e1 : (W.setCell ⟨g, 0, none⟩ x).cell? ⟨g, 1, none⟩ = some u1 := by rw [World.cell?_setCell_other _ _ _ _ (by simp)]; exact h1
  have e2 : ((W.setCell ⟨g, 0, none⟩ x).setCell ⟨g, 1, none⟩ y).cell? ⟨g, 2, none⟩ = some u2 := by
    rw [World.cell?_setCell_other _ _ _ _ (by simp), World.cell?_setCell_other _ _ _ _ (by simp)]; exact h2
  exact ((h.set h0 n0 x).set e1 n1 y).set e2 n2 z
theorem set3_below {B : Nat} {w W : World} (h : Below B w W) {g : Nat} (hg : B ≤ g) (x y z : Value) : Below B w (set3 W g x y z) :=
  ((h.setCell (p := ⟨g, 0, none⟩) hg x).setCell (p := ⟨g, 1, none⟩) hg y).setCell (p := ⟨g, 2, none⟩) hg z
/-- What is known when a fraction has been stored. -/
theorem fin3 {w W : World} {B g : Nat} {s : Bool} {v1 v2 : Value} (h0 : W.cell? ⟨g, 0, none⟩ = some (.bool s)) (h1 : W.cell? ⟨g, 1, none⟩ = some (.slice none 0 0)) (h2 : W.cell? ⟨g, 2, none⟩ = some (.slice none 0 0)) (hb : Below B w W) (hg : B ≤ g)
    {a b : Option Addr} {k m n d : Nat} (l1 : Sm W a k n) (l2 : Sm W b m d) :
    (set3 W g (.bool false) v1 v2).cell? ⟨g, 0, none⟩ = some (.bool false) ∧ (set3 W g (.bool false) v1 v2).cell? ⟨g, 1, none⟩ = some v1 ∧ (set3 W g (.bool false) v1 v2).cell? ⟨g, 2, none⟩ = some v2 ∧ Sm (set3 W g (.bool false) v1 v2) a k n ∧ Sm (set3 W g (.bool false) v1 v2) b m d ∧ Below B w (set3 W g (.bool false) v1 v2) := by
  have t := set3_cells (x := .bool false) (y := v1) (z := v2) h0 h1 h2
  exact ⟨t.1, t.2.1, t.2.2, set3_sm h0 h1 h2 (fun m e => by cases e) (fun m e => by cases e) (fun m e => by cases e) l1, set3_sm h0 h1 h2 (fun m e => by cases e) (fun m e => by cases e) (fun m e => by cases e) l2, set3_below hb hg _ _ _⟩
/-- The box of a fraction to be returned. -/
def Fx (w : World) (W : World) : Prop :=
  W.cell? ⟨w.heap.size, 0, none⟩ = some (.bool false) ∧ W.cell? ⟨w.heap.size, 1, none⟩ = some (.slice none 0 0) ∧ W.cell? ⟨w.heap.size, 2, none⟩ = some (.slice none 0 0) ∧ W.frozen? ⟨w.heap.size, 0, none⟩ = false ∧ W.frozen? ⟨w.heap.size, 1, none⟩ = false ∧ W.frozen? ⟨w.heap.size, 2, none⟩ = false ∧ Hid (Below w.heap.size w W ∧ w.heap.size < W.heap.size)
theorem Fx.keep {w W W' : World} (h : Fx w W) (hb : Below W.heap.size W W') : Fx w W' := by
  obtain ⟨r0, r1, r2, f0, f1, f2, x⟩ := h
  obtain ⟨bl, hg⟩ := x.out
  have f := fun (o : Nat) => hb.cell (p := ⟨w.heap.size, o, none⟩) hg
  have z := fun (o : Nat) => hb.frozen (p := ⟨w.heap.size, o, none⟩) hg
  exact ⟨(f _).trans r0, (f _).trans r1, (f _).trans r2, (z _).trans f0, (z _).trans f1, (z _).trans f2, bl.trans (hb.mono (by omega)), Nat.lt_of_lt_of_le hg hb.size⟩
theorem Fx.make (w : World) : Fx w (w.alloc (.cells #[.bool false, .slice none 0 0, .slice none 0 0] 45)) :=
  ⟨by rw [World.cell?_alloc_at _ _ _ _ rfl]; rfl, by rw [World.cell?_alloc_at _ _ _ _ rfl]; rfl, by rw [World.cell?_alloc_at _ _ _ _ rfl]; rfl, by simp, by simp, by simp, (Below.refl _ _).alloc (Nat.le_refl _) _, by simp⟩
set_option maxHeartbeats 1000000 in
theorem Part_c (n d : Nat) (w : World) (hn : n < 1000000000) (hd : d < 1000000000) : Calls Tryz.prog 20 #[.int .i64 n, .int .i64 d] w (FrPost n d w) := by
  have HN := Lib.hid hn
  have HD := Lib.hid hd
  clear hn hd
  go_enter Tryz.func20, Tryz.ntmps20
  go_wp2_with fail
  have X0 := Lib.hid (Fx.make w)
  generalize w.alloc (.cells #[.bool false, .slice none 0 0, .slice none 0 0] 45) = W0 at X0 ⊢
  refine (small_c n W0 HN.out).mono ?_
  rintro e w1 ⟨a1, k1, c1, rfl, l1, b1⟩
  have X1 := Lib.hid (X0.out.keep b1)
  have L1 := Lib.hid l1
  clear l1 b1 X0
  go_wp2_with fail
  refine (small_c d w1 HD.out).mono ?_
  rintro e w2 ⟨a2, k2, c2, rfl, l2, b2⟩
  have X2 := X1.out.keep b2
  have L12 := L1.out.below b2
  have FIN := Lib.hid (fin3 (v1 := .slice a1 k1 c1) (v2 := .slice a2 k2 c2) X2.1 X2.2.1 X2.2.2.1 X2.2.2.2.2.2.2.out.1 (Nat.le_refl _) L12 l2)
  clear L12 l2 b2 X1 L1
  dsimp only [Fx] at X2
  go_wp2
  obtain ⟨e0, e1, e2, m1, m2, hB⟩ := FIN.out
  unfold set3 at *
  exact bodyPost_ret (v := .agg #[.bool false, .slice a1 k1 c1, .slice a2 k2 c2]) (by simp [results, Tryz.results20, go_sem, e0, e1, e2]) rfl ⟨_, _, _, _, _, _, rfl, m1, m2, hB⟩
/-- The boxes of lowest. -/
def Lw (g : Nat) (v1 v2 : Value) (W : World) : Prop :=
  W.cell? ⟨g, 0, none⟩ = some (.bool false) ∧ W.cell? ⟨g, 1, none⟩ = some v1 ∧ W.cell? ⟨g, 2, none⟩ = some v2 ∧
  W.cell? ⟨g + 1, 0, none⟩ = some (.bool false) ∧ W.cell? ⟨g + 1, 1, none⟩ = some (.slice none 0 0) ∧ W.cell? ⟨g + 1, 2, none⟩ = some (.slice none 0 0) ∧
  W.frozen? ⟨g + 1, 0, none⟩ = false ∧ W.frozen? ⟨g + 1, 1, none⟩ = false ∧ W.frozen? ⟨g + 1, 2, none⟩ = false ∧ Hid (g + 2 ≤ W.heap.size)
theorem Lw.keep {g : Nat} {v1 v2 : Value} {W W' : World} (h : Lw g v1 v2 W) (hb : Below W.heap.size W W') : Lw g v1 v2 W' := by
  obtain ⟨a0, a1, a2, a3, a4, a5, f0, f1, f2, s⟩ := h
  have s' := s.out
  have c := fun (b o : Nat) (hg : b < W.heap.size) => hb.cell (p := ⟨b, o, none⟩) hg
  have f := fun (b o : Nat) (hg : b < W.heap.size) => hb.frozen (p := ⟨b, o, none⟩) hg
  have d0 : g < W.heap.size := by omega
  have d1 : g + 1 < W.heap.size := by omega
  exact ⟨(c _ _ d0).trans a0, (c _ _ d0).trans a1, (c _ _ d0).trans a2, (c _ _ d1).trans a3, (c _ _ d1).trans a4, (c _ _ d1).trans a5, (f _ _ d1).trans f0, (f _ _ d1).trans f1, (f _ _ d1).trans f2, Nat.le_trans s' hb.size⟩
set_option maxHeartbeats 2000000 in
theorem lowest_c (a1 a2 : Option Addr) (c1 c2 k1 k2 n d : Nat) (w : World) (h1 : Sm w a1 k1 n) (h2 : Sm w a2 k2 d) (hd : 0 < d) :
    Calls Tryz.prog 28 #[.agg #[.bool false, .slice a1 k1 c1, .slice a2 k2 c2]] w (FrPost (n / Nat.gcd n d) (d / Nat.gcd n d) w) := by
  have HG : Hid (0 < Nat.gcd n d) := Nat.gcd_pos_of_pos_right _ hd
  obtain ⟨W0, hW0⟩ : ∃ W0, (w.alloc (.cells #[.bool false, .slice a1 k1 c1, .slice a2 k2 c2] 45)).alloc (.cells #[.bool false, .slice none 0 0, .slice none 0 0] 45) = W0 := ⟨_, rfl⟩
  have O0 : Lw w.heap.size (.slice a1 k1 c1) (.slice a2 k2 c2) W0 := by
    rw [← hW0]
    refine ⟨?_, ?_, ?_, ?_, ?_, ?_, ?_, ?_, ?_, by simp [Hid]⟩
    all_goals simp [go_sem, World.cell?_alloc_past]
  have B0 : Hid (Below w.heap.size w W0) := by
    rw [← hW0]
    exact ((Below.refl _ _).alloc (Nat.le_refl _) _).alloc (by simp) _
  have L1 := Lib.hid (h1.below B0.out)
  have L2 := Lib.hid (h2.below B0.out)
  have OH := Lib.hid O0
  clear h1 h2 hd
  dsimp only [Lw] at O0
  go_enter Tryz.func28, Tryz.ntmps28
  go_wp2_with fail
  clear hW0 O0
  refine (divisor_c a2 a1 c2 c1 k2 k1 d n W0 L2.out L1.out).mono ?_
  rintro e w2 ⟨a, k, c, rfl, l1, b2⟩
  rw [Nat.gcd_comm d n] at l1
  have O2 := OH.out.keep b2
  have LG := Lib.hid l1
  have L12 := Lib.hid (L1.out.below b2)
  have L22 := Lib.hid (L2.out.below b2)
  have B2 := Lib.hid (B0.out.trans (b2.mono B0.out.size))
  clear l1 b2 B0 OH L1 L2
  generalize Nat.gcd n d = gg at *
  have OH := Lib.hid O2
  dsimp only [Lw] at O2
  go_wp2_with fail
  clear O2
  refine (rdivide_c a1 a c1 c k1 k n gg w2 L12.out LG.out HG.out).mono ?_
  rintro e w4 ⟨qa, qk, qc, ra, rk, rc, rfl, l4, _, b4⟩
  have O4 := OH.out.keep b4
  have L4 := Lib.hid l4
  have LG4 := Lib.hid (LG.out.below b4)
  have L24 := Lib.hid (L22.out.below b4)
  have B4 := Lib.hid (B2.out.trans (b4.mono B2.out.size))
  clear LG L12 L22 B2 OH l4 b4
  have OH := Lib.hid O4
  dsimp only [Lw] at O4
  go_wp2_with fail
  clear O4
  refine (rdivide_c a2 a c2 c k2 k d gg w4 L24.out LG4.out HG.out).mono ?_
  rintro e w6 ⟨pa, pk, pc, sa, sk, sc, rfl, l6, _, b6⟩
  have O6 := OH.out.keep b6
  have L6 := Lib.hid l6
  have L46 := Lib.hid (L4.out.below b6)
  have B6 := Lib.hid (B4.out.trans (b6.mono B4.out.size))
  clear LG4 L24 B4 OH l6 b6 L4
  have OH := Lib.hid O6
  dsimp only [Lw] at O6
  have FIN := Lib.hid (fin3 (v1 := .slice qa qk qc) (v2 := .slice pa pk pc) O6.2.2.2.1 O6.2.2.2.2.1 O6.2.2.2.2.2.1 B6.out (Nat.le_succ _) L46.out L6.out)
  clear L46 L6 B6 OH
  go_wp2
  clear O6
  obtain ⟨e0, e1, e2, m1, m2, hB⟩ := FIN.out
  unfold set3 at *
  exact bodyPost_ret (v := .agg #[.bool false, .slice qa qk qc, .slice pa pk pc]) (by simp [results, Tryz.results28, go_sem, e0, e1, e2]) rfl ⟨_, _, _, _, _, _, rfl, m1, m2, hB⟩
end Go.Proofs.YtecbkfmdpgkdiaaGreatDoor
