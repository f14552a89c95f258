/-
  Over and Of of package whole, at numbers from 0 on.
-/
import Derived.Test.YtecbkfmdpgkdiaaGreatDoorRatDiv
namespace Go.Proofs.YtecbkfmdpgkdiaaGreatDoor
open Go.RowKit

/-- A fraction of two numbers from 0 on. -/
def FracPost (n d : Nat) (w : World) (e : Ending) (w' : World) : Prop := ∃ a k c b m e2, e = .returned (.agg #[.bool false, .slice a k c, .bool false, .slice b m e2]) ∧ Lm w' a k n ∧ Lm w' b m d ∧ Below w.heap.size w w'
set_option maxHeartbeats 2000000 in
theorem Of_zero (w : World) : Calls Tryz.prog 39 #[.int .i64 0] w (NumPost 0 w) := by
  go_enter Tryz.func39, Tryz.ntmps39
  go_wp2
  exact bodyPost_ret (v := .agg #[.bool false, .slice none 0 0]) (by simp [results, Tryz.results39, go_sem]) rfl ⟨none, 0, 0, rfl, Lm.zero _ _, (Below.refl _ _).alloc (Nat.le_refl _) _⟩
set_option maxHeartbeats 2000000 in
theorem Of_pos (n : Nat) (w : World) (h0 : 0 < n) (hn : n ≤ 9223372036854775807) : Calls Tryz.prog 39 #[.int .i64 n] w (NumPost n w) := by
  have h1 : ((n : Int) == 0) = false := by rw [beq_eq_false_iff_ne]; omega
  have h1' : (n == 0) = false := by rw [beq_eq_false_iff_ne]; omega
  have h2 : decide ((n : Int) < 0) = false := by rw [decide_eq_false_iff_not]; omega
  have HN := Lib.hid hn
  have H0 := Lib.hid h0
  have hw : IntKind.u64.wrap (n : Int) = n := by rw [IntKind.wrap_u64]; omega
  clear hn h0
  go_enter Tryz.func39, Tryz.ntmps39
  go_wp2
  refine bodyPost_ret (v := .agg #[.bool false, .slice (some ⟨w.heap.size + 1, 0, none⟩) 1 1]) (by simp [results, Tryz.results39, go_sem, World.cell?_alloc_past]) rfl ⟨_, 1, 1, rfl, ?_, ?_⟩
  · exact .inr ⟨rfl, H0.out, HN.out, _, 0, rfl, by simp, by rw [World.cell?_alloc_at _ _ _ _ (by simp)]; rfl⟩
  · exact ((Below.refl _ _).alloc (Nat.le_refl _) _).alloc (by simp) _

/-- The boxes of Over. -/
def Ov (g : Nat) (v1 v2 : Value) (W : World) : Prop :=
  W.cell? ⟨g, 0, none⟩ = some (.bool false) ∧ W.cell? ⟨g, 1, none⟩ = some v1 ∧ W.cell? ⟨g + 1, 0, none⟩ = some (.bool false) ∧ W.cell? ⟨g + 1, 1, none⟩ = some v2 ∧
  W.cell? ⟨g + 1 + 1, 0, none⟩ = some (.bool false) ∧ W.cell? ⟨g + 1 + 1, 1, none⟩ = some (.slice none 0 0) ∧ W.cell? ⟨g + 1 + 1, 2, none⟩ = some (.bool false) ∧ W.cell? ⟨g + 1 + 1, 3, none⟩ = some (.slice none 0 0) ∧
  W.frozen? ⟨g, 0, none⟩ = false ∧ W.frozen? ⟨g, 1, none⟩ = false ∧ W.frozen? ⟨g + 1, 0, none⟩ = false ∧ W.frozen? ⟨g + 1, 1, none⟩ = false ∧
  W.frozen? ⟨g + 1 + 1, 0, none⟩ = false ∧ W.frozen? ⟨g + 1 + 1, 1, none⟩ = false ∧ W.frozen? ⟨g + 1 + 1, 2, none⟩ = false ∧ W.frozen? ⟨g + 1 + 1, 3, none⟩ = false ∧ Hid (g + 3 ≤ W.heap.size)
theorem Ov.keep {g : Nat} {v1 v2 : Value} {W W' : World} (h : Ov g v1 v2 W) (hb : Below W.heap.size W W') : Ov g v1 v2 W' := by
  obtain ⟨a0, a1, a2, a3, a4, a5, a6, a7, f0, f1, f2, f3, f4, f5, f6, f7, s⟩ := h
  have s' := s.out
  have c := fun (b o : Nat) (hg : b < W.heap.size) => hb.cell (p := ⟨b, o, none⟩) hg
  have f := fun (b o : Nat) (hg : b < W.heap.size) => hb.frozen (p := ⟨b, o, none⟩) hg
  have d0 : g < W.heap.size := by omega
  have d1 : g + 1 < W.heap.size := by omega
  have d2 : g + 1 + 1 < W.heap.size := by omega
  exact ⟨(c _ _ d0).trans a0, (c _ _ d0).trans a1, (c _ _ d1).trans a2, (c _ _ d1).trans a3, (c _ _ d2).trans a4, (c _ _ d2).trans a5, (c _ _ d2).trans a6, (c _ _ d2).trans a7,
    (f _ _ d0).trans f0, (f _ _ d0).trans f1, (f _ _ d1).trans f2, (f _ _ d1).trans f3, (f _ _ d2).trans f4, (f _ _ d2).trans f5, (f _ _ d2).trans f6, (f _ _ d2).trans f7, Nat.le_trans s' hb.size⟩
/-- Both cells of a number are stored. -/
theorem cell_two {W : World} {b b' o : Nat} {x y : Value} (h : b ≠ b') : ((W.setCell ⟨b, 0, none⟩ x).setCell ⟨b, 1, none⟩ y).cell? ⟨b', o, none⟩ = W.cell? ⟨b', o, none⟩ := by
  rw [World.cell?_setCell_other _ _ _ _ (by intro e; injection e with e1 _; exact h e1), World.cell?_setCell_other _ _ _ _ (by intro e; injection e with e1 _; exact h e1)]
theorem frozen_two {W : World} {b : Nat} {x y : Value} (p : Addr) : ((W.setCell ⟨b, 0, none⟩ x).setCell ⟨b, 1, none⟩ y).frozen? p = W.frozen? p := by
  rw [World.frozen?_setCell, World.frozen?_setCell]
theorem Ov.set0 {g : Nat} {v1 v2 : Value} {W : World} (h : Ov g v1 v2 W) (y : Value) : Ov g y v2 ((W.setCell ⟨g, 0, none⟩ (.bool false)).setCell ⟨g, 1, none⟩ y) := by
  obtain ⟨a0, a1, a2, a3, a4, a5, a6, a7, f0, f1, f2, f3, f4, f5, f6, f7, s⟩ := h
  have t := two_cells (x := .bool false) (y := y) a0 a1
  exact ⟨t.1, t.2, (cell_two (by omega)).trans a2, (cell_two (by omega)).trans a3, (cell_two (by omega)).trans a4, (cell_two (by omega)).trans a5, (cell_two (by omega)).trans a6, (cell_two (by omega)).trans a7,
    (frozen_two _).trans f0, (frozen_two _).trans f1, (frozen_two _).trans f2, (frozen_two _).trans f3, (frozen_two _).trans f4, (frozen_two _).trans f5, (frozen_two _).trans f6, (frozen_two _).trans f7, by have := s.out; unfold Hid; simpa using this⟩
theorem Ov.set1 {g : Nat} {v1 v2 : Value} {W : World} (h : Ov g v1 v2 W) (y : Value) : Ov g v1 y ((W.setCell ⟨g + 1, 0, none⟩ (.bool false)).setCell ⟨g + 1, 1, none⟩ y) := by
  obtain ⟨a0, a1, a2, a3, a4, a5, a6, a7, f0, f1, f2, f3, f4, f5, f6, f7, s⟩ := h
  have t := two_cells (x := .bool false) (y := y) a2 a3
  exact ⟨(cell_two (by omega)).trans a0, (cell_two (by omega)).trans a1, t.1, t.2, (cell_two (by omega)).trans a4, (cell_two (by omega)).trans a5, (cell_two (by omega)).trans a6, (cell_two (by omega)).trans a7,
    (frozen_two _).trans f0, (frozen_two _).trans f1, (frozen_two _).trans f2, (frozen_two _).trans f3, (frozen_two _).trans f4, (frozen_two _).trans f5, (frozen_two _).trans f6, (frozen_two _).trans f7, by have := s.out; unfold Hid; simpa using this⟩
theorem Lm.set2 {W : World} {a : Option Addr} {k n : Nat} (h : Lm W a k n) {b : Nat} {s s' : Bool} {x y : Option Addr} {p q r u : Nat} (h0 : W.cell? ⟨b, 0, none⟩ = some (.bool s)) (h1 : W.cell? ⟨b, 1, none⟩ = some (.slice x p q)) : Lm ((W.setCell ⟨b, 0, none⟩ (.bool s')).setCell ⟨b, 1, none⟩ (.slice y r u)) a k n :=
  (h.set h0 (fun m e => by cases e) _).set (by rw [World.cell?_setCell_other _ _ _ _ (by simp)]; exact h1) (fun m e => by cases e) _
set_option maxHeartbeats 2000000 in
theorem Over_c (a1 a2 : Option Addr) (c1 c2 k1 k2 n d : Nat) (w : World) (h1 : Lm w a1 k1 n) (h2 : Lm w a2 k2 d) (hd : 0 < d) :
    Calls Tryz.prog 38 #[.agg #[.bool false, .slice a1 k1 c1], .agg #[.bool false, .slice a2 k2 c2]] w (FracPost (n / Nat.gcd n d) (d / Nat.gcd n d) w) := by
  have H1 := Lib.hid h1
  have H2 := Lib.hid h2
  have HC := Lib.hid (fun (w : World) (h1 : Lm w a1 k1 n) (h2 : Lm w a2 k2 d) => Common_c a1 a2 c1 c2 k1 k2 n d w h1 h2 (.inr hd))
  have HG : Hid (0 < Nat.gcd n d) := Nat.gcd_pos_of_pos_right _ hd
  clear h1 h2 hd
  go_enter Tryz.func38, Tryz.ntmps38
  go_wp2_with fail
  obtain ⟨W0, hW0⟩ : ∃ W0, W0 = ((w.alloc (.cells #[.bool false, .slice a1 k1 c1] 63)).alloc (.cells #[.bool false, .slice a2 k2 c2] 63)).alloc (.cells #[.bool false, .slice none 0 0, .bool false, .slice none 0 0] 65) := ⟨_, rfl⟩
  rw [← hW0]
  have O0 : Hid (Ov w.heap.size (.slice a1 k1 c1) (.slice a2 k2 c2) W0) := by
    unfold Hid
    rw [hW0]
    refine ⟨?_, ?_, ?_, ?_, ?_, ?_, ?_, ?_, ?_, ?_, ?_, ?_, ?_, ?_, ?_, ?_, by simp [Hid]⟩
    all_goals simp [go_sem, World.cell?_alloc_past]
  have B0 : Hid (Below w.heap.size w W0) := by
    rw [hW0]
    exact (((Below.refl _ _).alloc (Nat.le_refl _) _).alloc (by simp) _).alloc (by simp; omega) _
  clear hW0
  refine (HC.out W0 (H1.out.below B0.out) (H2.out.below B0.out)).mono ?_
  rintro e w2 ⟨a, k, c, rfl, l1, b2⟩
  have O2 := O0.out.keep b2
  have LG := Lib.hid l1
  have L1 := Lib.hid ((H1.out.below B0.out).below b2)
  have L2 := Lib.hid ((H2.out.below B0.out).below b2)
  have B2 := Lib.hid (B0.out.trans (b2.mono B0.out.size))
  clear l1 b2 B0 O0 HC
  generalize Nat.gcd n d = gg at *
  have hs2 := O2.2.2.2.2.2.2.2.2.2.2.2.2.2.2.2.2.out
  obtain ⟨W3, hW3⟩ : ∃ W3, w2.alloc (.cells #[.bool false, .slice a k c] 63) = W3 := ⟨_, rfl⟩
  have Q0 : Below w2.heap.size w2 W3 := by rw [← hW3]; exact (Below.refl _ _).alloc (Nat.le_refl _) _
  have hs3 : w2.heap.size < W3.heap.size := by rw [← hW3]; simp
  have O3 := O2.keep Q0
  have D0 : W3.cell? ⟨w2.heap.size, 0, none⟩ = some (.bool false) := by rw [← hW3, World.cell?_alloc_at _ _ _ _ rfl]; rfl
  have D1 : W3.cell? ⟨w2.heap.size, 1, none⟩ = some (.slice a k c) := by rw [← hW3, World.cell?_alloc_at _ _ _ _ rfl]; rfl
  have LG' := Lib.hid (LG.out.below Q0)
  have L1' := Lib.hid (L1.out.below Q0)
  have L2' := Lib.hid (L2.out.below Q0)
  have B3 := Lib.hid (B2.out.trans (Q0.mono B2.out.size))
  have HS := Lib.hid hs2
  have HS3 := Lib.hid hs3
  clear LG L1 L2 B2 Q0 O2 hs2 hs3
  have OH := Lib.hid O3
  dsimp only [Ov] at O3
  go_wp2_with fail
  have HD0 := Lib.hid D0
  have HD1 := Lib.hid D1
  clear D0 D1 O3
  refine (Divide_c a1 a c1 c k1 k n gg W3 L1'.out LG'.out HG.out).mono ?_
  rintro e w4 ⟨qa, qk, qc, ra, rk, rc, rfl, l4, _, b4⟩
  have O4 := OH.out.keep b4
  have D0 : Hid (w4.cell? ⟨w2.heap.size, 0, none⟩ = some (.bool false)) := (b4.cell (p := ⟨w2.heap.size, 0, none⟩) HS3.out).trans HD0.out
  have D1 : Hid (w4.cell? ⟨w2.heap.size, 1, none⟩ = some (.slice a k c)) := (b4.cell (p := ⟨w2.heap.size, 1, none⟩) HS3.out).trans HD1.out
  have L4 := Lib.hid l4
  have LG4 := Lib.hid (LG'.out.below b4)
  have L24 := Lib.hid (L2'.out.below b4)
  have B4 := Lib.hid (B3.out.trans (b4.mono B3.out.size))
  have S4 : Hid (w2.heap.size < w4.heap.size) := Nat.lt_of_lt_of_le HS3.out b4.size
  clear LG' L1' L2' B3 OH l4 b4 HS3 HD0 HD1 hW3
  obtain ⟨W5, hW5⟩ : ∃ W5, (w4.setCell ⟨w.heap.size, 0, none⟩ (.bool false)).setCell ⟨w.heap.size, 1, none⟩ (.slice qa qk qc) = W5 := ⟨_, rfl⟩
  have OH5 : Hid (Ov w.heap.size (.slice qa qk qc) (.slice a2 k2 c2) W5) := by rw [← hW5]; exact O4.set0 _
  have L45 : Hid (Lm W5 qa qk (n / gg)) := by rw [← hW5]; exact L4.out.set2 O4.1 O4.2.1
  have LG5 : Hid (Lm W5 a k gg) := by rw [← hW5]; exact LG4.out.set2 O4.1 O4.2.1
  have L25 : Hid (Lm W5 a2 k2 d) := by rw [← hW5]; exact L24.out.set2 O4.1 O4.2.1
  have B5 : Hid (Below w.heap.size w W5) := by rw [← hW5]; exact (B4.out.setCell (p := ⟨w.heap.size, 0, none⟩) (Nat.le_refl _) _).setCell (p := ⟨w.heap.size, 1, none⟩) (Nat.le_refl _) _
  have D05 : W5.cell? ⟨w2.heap.size, 0, none⟩ = some (.bool false) := by rw [← hW5]; exact (cell_two (by have := HS.out; omega)).trans D0.out
  have D15 : W5.cell? ⟨w2.heap.size, 1, none⟩ = some (.slice a k c) := by rw [← hW5]; exact (cell_two (by have := HS.out; omega)).trans D1.out
  have S5 : Hid (w2.heap.size < W5.heap.size) := by rw [← hW5]; simpa [Hid] using S4.out
  clear D0 D1 L4 LG4 L24 B4 S4
  dsimp only [Ov] at O4
  have O5 := OH5.out
  dsimp only [Ov] at O5
  go_wp2_with fail
  clear D05 D15 O4 O5 hW5
  refine (Divide_c a2 a c2 c k2 k d gg W5 L25.out LG5.out HG.out).mono ?_
  rintro e w6 ⟨pa, pk, pc, sa, sk, sc, rfl, l6, _, b6⟩
  have O6 := OH5.out.keep b6
  have L6 := Lib.hid l6
  have L46 := Lib.hid (L45.out.below b6)
  have B6 := Lib.hid (B5.out.trans (b6.mono B5.out.size))
  clear L45 LG5 L25 B5 OH5 l6 b6 S5
  obtain ⟨W7, hW7⟩ : ∃ W7, (w6.setCell ⟨w.heap.size + 1, 0, none⟩ (.bool false)).setCell ⟨w.heap.size + 1, 1, none⟩ (.slice pa pk pc) = W7 := ⟨_, rfl⟩
  have OH7 : Hid (Ov w.heap.size (.slice qa qk qc) (.slice pa pk pc) W7) := by rw [← hW7]; exact O6.set1 _
  have L67 : Hid (Lm W7 pa pk (d / gg)) := by rw [← hW7]; exact L6.out.set2 O6.2.2.1 O6.2.2.2.1
  have L47 : Hid (Lm W7 qa qk (n / gg)) := by rw [← hW7]; exact L46.out.set2 O6.2.2.1 O6.2.2.2.1
  have B7 : Hid (Below w.heap.size w W7) := by rw [← hW7]; exact (B6.out.setCell (p := ⟨w.heap.size + 1, 0, none⟩) (Nat.le_succ _) _).setCell (p := ⟨w.heap.size + 1, 1, none⟩) (Nat.le_succ _) _
  clear L6 L46 B6
  dsimp only [Ov] at O6
  have O7 := OH7.out
  dsimp only [Ov] at O7
  obtain ⟨W8, hW8⟩ : ∃ W8, (W7.setCell ⟨w.heap.size + 1 + 1, 0, none⟩ (.bool false)).setCell ⟨w.heap.size + 1 + 1, 1, none⟩ (.slice qa qk qc) = W8 := ⟨_, rfl⟩
  obtain ⟨W9, hW9⟩ : ∃ W9, (W8.setCell ⟨w.heap.size + 1 + 1, 2, none⟩ (.bool false)).setCell ⟨w.heap.size + 1 + 1, 3, none⟩ (.slice pa pk pc) = W9 := ⟨_, rfl⟩
  have FIN : Hid (W9.cell? ⟨w.heap.size + 1 + 1, 0, none⟩ = some (.bool false) ∧ W9.cell? ⟨w.heap.size + 1 + 1, 1, none⟩ = some (.slice qa qk qc) ∧ W9.cell? ⟨w.heap.size + 1 + 1, 2, none⟩ = some (.bool false) ∧ W9.cell? ⟨w.heap.size + 1 + 1, 3, none⟩ = some (.slice pa pk pc) ∧ Lm W9 qa qk (n / gg) ∧ Lm W9 pa pk (d / gg) ∧ Below w.heap.size w W9) := by
    obtain ⟨_, _, _, _, a4, a5, a6, a7, _⟩ := O7
    have t := two_cells (x := .bool false) (y := .slice qa qk qc) a4 a5
    have m1 := L47.out.set2 (s' := false) (y := qa) (r := qk) (u := qc) a4 a5
    have m2 := L67.out.set2 (s' := false) (y := qa) (r := qk) (u := qc) a4 a5
    have bb := (B7.out.setCell (p := ⟨w.heap.size + 1 + 1, 0, none⟩) (show w.heap.size ≤ _ by simp; omega) (.bool false)).setCell (p := ⟨w.heap.size + 1 + 1, 1, none⟩) (show w.heap.size ≤ _ by simp; omega) (.slice qa qk qc)
    have e2 : ((W7.setCell ⟨w.heap.size + 1 + 1, 0, none⟩ (.bool false)).setCell ⟨w.heap.size + 1 + 1, 1, none⟩ (.slice qa qk qc)).cell? ⟨w.heap.size + 1 + 1, 2, none⟩ = some (.bool false) := by
      rw [World.cell?_setCell_other _ _ _ _ (by simp), World.cell?_setCell_other _ _ _ _ (by simp)]; exact a6
    have e3 : ((W7.setCell ⟨w.heap.size + 1 + 1, 0, none⟩ (.bool false)).setCell ⟨w.heap.size + 1 + 1, 1, none⟩ (.slice qa qk qc)).cell? ⟨w.heap.size + 1 + 1, 3, none⟩ = some (.slice none 0 0) := by
      rw [World.cell?_setCell_other _ _ _ _ (by simp), World.cell?_setCell_other _ _ _ _ (by simp)]; exact a7
    rw [hW8] at t m1 m2 bb e2 e3
    have e3' : (W8.setCell ⟨w.heap.size + 1 + 1, 2, none⟩ (.bool false)).cell? ⟨w.heap.size + 1 + 1, 3, none⟩ = some (.slice none 0 0) := by rw [World.cell?_setCell_other _ _ _ _ (by simp)]; exact e3
    have g0 : W9.cell? ⟨w.heap.size + 1 + 1, 0, none⟩ = some (.bool false) := by rw [← hW9, World.cell?_setCell_other _ _ _ _ (by simp), World.cell?_setCell_other _ _ _ _ (by simp)]; exact t.1
    have g1 : W9.cell? ⟨w.heap.size + 1 + 1, 1, none⟩ = some (.slice qa qk qc) := by rw [← hW9, World.cell?_setCell_other _ _ _ _ (by simp), World.cell?_setCell_other _ _ _ _ (by simp)]; exact t.2
    have g2 : W9.cell? ⟨w.heap.size + 1 + 1, 2, none⟩ = some (.bool false) := by rw [← hW9, World.cell?_setCell_other _ _ _ _ (by simp)]; exact World.cell?_setCell_same _ _ _ e2
    have g3 : W9.cell? ⟨w.heap.size + 1 + 1, 3, none⟩ = some (.slice pa pk pc) := by rw [← hW9]; exact World.cell?_setCell_same _ _ _ e3'
    refine ⟨g0, g1, g2, g3, ?_, ?_, ?_⟩
    · rw [← hW9]; exact (m1.set e2 (fun m e => by cases e) _).set e3' (fun m e => by cases e) _
    · rw [← hW9]; exact (m2.set e2 (fun m e => by cases e) _).set e3' (fun m e => by cases e) _
    · rw [← hW9]; exact (bb.setCell (p := ⟨w.heap.size + 1 + 1, 2, none⟩) (show w.heap.size ≤ _ by simp; omega) _).setCell (p := ⟨w.heap.size + 1 + 1, 3, none⟩) (show w.heap.size ≤ _ by simp; omega) _
  have hW : (((W7.setCell ⟨w.heap.size + 1 + 1, 0, none⟩ (.bool false)).setCell ⟨w.heap.size + 1 + 1, 1, none⟩ (.slice qa qk qc)).setCell ⟨w.heap.size + 1 + 1, 2, none⟩ (.bool false)).setCell ⟨w.heap.size + 1 + 1, 3, none⟩ (.slice pa pk pc) = W9 := by rw [hW8]; exact hW9
  clear hW8 hW9
  go_wp2
  clear O6 O7
  obtain ⟨g0, g1, g2, g3, m1, m2, bb⟩ := FIN.out
  exact bodyPost_ret (v := .agg #[.bool false, .slice qa qk qc, .bool false, .slice pa pk pc]) (by simp [results, Tryz.results38, go_sem, g0, g1, g2, g3]) rfl ⟨_, _, _, _, _, _, rfl, m1, m2, bb⟩
end Go.Proofs.YtecbkfmdpgkdiaaGreatDoor
