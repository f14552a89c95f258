/-
  The decimal text of a number of one digit to the base 10^9, in the reference.
  Part, lowest and Ratio of the reference's fractions, at numbers of one digit.
  Ratio of the reference's fractions, at numbers of one digit.
  Rotations: the check and who is in a wave, on both sides.
-/
import Derived.Test.YtfldlcnlijljcaaGreatDoorPn12
import Derived.Lib.AppendIntMem
import Derived.Lib.QuietBelow
import Derived.Lib.SmallJoins
import Derived.Deep.RegionHeld3
namespace Go.Proofs.YtfldlcnlijljcaaGreatDoor
open Go.RowKit

theorem gPow : Tryz.prog.globalNamed "internal/strconv.uint64pow10" = some 2 := by kernel_rfl
def Pow (w : World) : Prop := Lib.TabIs Tryz.prog w "internal/strconv.uint64pow10" .u64 Lib.pow10Tab
theorem Pow.below {w w' : World} (h : Pow w) (hb : Below w.heap.size w w') : Pow w' := Go.Joins.tab_stays gPow h hb (Nat.le_refl _)
theorem itoa_c (n : Nat) (w : World) (hE : Pow w) (hn : n ≤ 9223372036854775807) :
    Calls Tryz.prog 43 #[.int .i64 n] w fun e w' => e = .returned (.string (decB n)) ∧ Below w.heap.size w w' :=
  (Tryz.strconv_Itoa n (by omega) (by omega) w hE).mono fun _ _ ⟨he, k, os, hw⟩ => ⟨by rw [he, Lib.itoa_nonneg]; rfl, by rw [hw]; exact Go.Lib.below_grow _ _ (Nat.le_refl _) k os⟩
theorem strCells_dec (n : Nat) : Lib.strCells (decB n) = Lib.byteCells (Lib.decDigits n) := by simp [Lib.strCells, Lib.byteCells, decB]
theorem rtext_zero (a : Option Addr) (c : Nat) (w : World) : Calls Tryz.prog 29 #[.slice a 0 c] w (TextPost 0 w) := by
  go_enter Tryz.func29, Tryz.ntmps29
  go_wp2
  go_ret
  exact ⟨by rw [Lib.decDigits_one (by decide)]; rfl, Below.refl _ _⟩
set_option maxHeartbeats 1000000 in
theorem rtext_c (a : Option Addr) (k c n : Nat) (w : World) (h : Sm w a k n) (hE : Pow w) : Calls Tryz.prog 29 #[.slice a k c] w (TextPost n w) := by
  rcases h with ⟨rfl, rfl⟩ | ⟨rfl, p1, m1, b1, o1, rfl, hb, g1⟩
  · exact rtext_zero a c w
  · have HM := Lib.hid m1
    have HP := Lib.hid p1
    obtain ⟨W1, hW1⟩ : ∃ W1, w.alloc (.cells #[.pointer none, .slice none 0 0] 74) = W1 := ⟨_, rfl⟩
    have hF : Hid (Fresh W1 w.heap.size) := by unfold Hid Fresh; rw [← hW1]; (show (w.heap.push _)[w.heap.size]? = _); simp
    have hB : Hid (Below w.heap.size w W1) := by rw [← hW1]; exact (Below.refl _ _).alloc (Nat.le_refl _) _
    have hS : Hid (W1.heap.size = w.heap.size + 1) := by unfold Hid; rw [← hW1]; simp
    have g2 : W1.cell? ⟨b1, o1, none⟩ = some (.int .i64 n) := by rw [hB.out.cell (p := ⟨b1, o1, none⟩) hb]; exact g1
    have HE := Lib.hid (hE.below hB.out)
    clear p1 m1 g1 hb hE
    go_enter Tryz.func29, Tryz.ntmps29
    go_wp2_with fail
    refine (itoa_c n W1 HE.out (Nat.le_of_lt (Nat.lt_trans HM.out (by decide)))).mono ?_
    rintro e w2 ⟨rfl, b2⟩
    have hF2 : Hid (Fresh w2 w.heap.size) := by
      have s := hS.out
      unfold Hid Fresh
      rw [b2.block w.heap.size (by omega)]
      exact hF.out
    have B2 := Lib.hid (hB.out.trans (b2.mono hB.out.size))
    have S2 : Hid (w.heap.size < w2.heap.size) := by have s := hS.out; have := b2.size; unfold Hid; omega
    clear b2 hW1 g2
    go_wp2_with fail
    refine (write_c w.heap.size w.heap.size (decB n) w2 hF2.out (Nat.le_refl _) (Nat.le_trans (decB_size n (Nat.le_of_lt (Nat.lt_trans HM.out (by decide)))) (by decide))).mono ?_
    rintro e w3 ⟨rfl, h3, b3⟩
    rw [strCells_dec] at h3
    have H3 := Lib.hid h3
    have B3 := Lib.hid (B2.out.trans b3)
    have S3 : Hid (w.heap.size ≤ w3.heap.size) := by have := b3.size; have := S2.out; unfold Hid; omega
    clear h3 b3
    go_wp2_with fail
    go_loop [4] (fun i => i = .int .i64 (-1)) (fun _ => 0)
    case atStart => rfl
    case round =>
      obtain rfl := hrel
      go_wp2_with fail
      refine (Tryz.Builder_String w.heap.size w.heap.size (Lib.decDigits n) w3 H3.out (decDigits_ne n)).mono ?_
      rintro e w4 ⟨rfl, b4⟩
      have B4 := Lib.hid (B3.out.trans b4)
      clear b4
      go_wp2
      go_ret
      exact ⟨rfl, B4.out⟩
end Go.Proofs.YtfldlcnlijljcaaGreatDoor
namespace Go.Proofs.YtfldlcnlijljcaaGreatDoor
open Go.RowKit

def PqFrPost (n d : Nat) (w : World) (e : Ending) (w' : World) : Prop := ∃ a k c b m c2, e = .returned (.agg #[.bool false, .slice a k c, .slice b m c2]) ∧ Sm w' a k n ∧ Sm w' b m d ∧ Below w.heap.size w w'
theorem Sm.set {w : World} {a : Option Addr} {k n : Nat} (h : Sm w a k n) {p : Addr} {u : Value} (hu : w.cell? p = some u) (hne : ∀ m, u ≠ .int .i64 m) (x : Value) : Sm (w.setCell p x) a k n := by
  rcases h with h | ⟨h1, h2, h3, b, off, e, hl, hc⟩
  · exact .inl h
  · refine .inr ⟨h1, h2, h3, b, off, e, by simpa using hl, ?_⟩
    rw [World.cell?_setCell_other _ _ _ _ (by intro e; subst e; rw [hc] at hu; injection hu with hu; exact hne _ hu.symm)]
    exact hc
/-- The three cells of a fraction are stored. -/
def set3 (W : World) (g : Nat) (x y z : Value) : World := ((W.setCell ⟨g, 0, none⟩ x).setCell ⟨g, 1, none⟩ y).setCell ⟨g, 2, none⟩ z
theorem set3_cells {W : World} {g : Nat} {x y z u0 u1 u2 : Value} (h0 : W.cell? ⟨g, 0, none⟩ = some u0) (h1 : W.cell? ⟨g, 1, none⟩ = some u1) (h2 : W.cell? ⟨g, 2, none⟩ = some u2) :
    (set3 W g x y z).cell? ⟨g, 0, none⟩ = some x ∧ (set3 W g x y z).cell? ⟨g, 1, none⟩ = some y ∧ (set3 W g x y z).cell? ⟨g, 2, none⟩ = some z := by
  have t := two_cells (x := x) (y := y) h0 h1
  have e2 : ((W.setCell ⟨g, 0, none⟩ x).setCell ⟨g, 1, none⟩ y).cell? ⟨g, 2, none⟩ = some u2 := by
    rw [World.cell?_setCell_other _ _ _ _ (by simp), World.cell?_setCell_other _ _ _ _ (by simp)]; exact h2
  refine ⟨?_, ?_, World.cell?_setCell_same _ _ _ e2⟩
  · unfold set3; rw [World.cell?_setCell_other _ _ _ _ (by simp)]; exact t.1
  · unfold set3; rw [World.cell?_setCell_other _ _ _ _ (by simp)]; exact t.2
theorem set3_sm {W : World} {g : Nat} {x y z u0 u1 u2 : Value} (h0 : W.cell? ⟨g, 0, none⟩ = some u0) (h1 : W.cell? ⟨g, 1, none⟩ = some u1) (h2 : W.cell? ⟨g, 2, none⟩ = some u2) (n0 : ∀ m, u0 ≠ .int .i64 m) (n1 : ∀ m, u1 ≠ .int .i64 m) (n2 : ∀ m, u2 ≠ .int .i64 m)
    {a : Option Addr} {k n : Nat} (h : Sm W a k n) : Sm (set3 W g x y z) a k n := by
  have e1 : (W.setCell ⟨g, 0, none⟩ x).cell? ⟨g, 1, none⟩ = some u1 := by rw [World.cell?_setCell_other _ _ _ _ (by simp)]; exact h1
  have e2 : ((W.setCell ⟨g, 0, none⟩ x).setCell ⟨g, 1, none⟩ y).cell? ⟨g, 2, none⟩ = some u2 := by
    rw [World.cell?_setCell_other _ _ _ _ (by simp), World.cell?_setCell_other _ _ _ _ (by simp)]; exact h2
  exact ((h.set h0 n0 x).set e1 n1 y).set e2 n2 z
theorem set3_below {B : Nat} {w W : World} (h : Below B w W) {g : Nat} (hg : B ≤ g) (x y z : Value) : Below B w (set3 W g x y z) :=
  ((h.setCell (p := ⟨g, 0, none⟩) hg x).setCell (p := ⟨g, 1, none⟩) hg y).setCell (p := ⟨g, 2, none⟩) hg z
/-- What is known when a fraction has been stored. -/
theorem fin3 {w W : World} {B g : Nat} {s : Bool} {v1 v2 : Value} (h0 : W.cell? ⟨g, 0, none⟩ = some (.bool s)) (h1 : W.cell? ⟨g, 1, none⟩ = some (.slice none 0 0)) (h2 : W.cell? ⟨g, 2, none⟩ = some (.slice none 0 0)) (hb : Below B w W) (hg : B ≤ g)
    {a b : Option Addr} {k m n d : Nat} (l1 : Sm W a k n) (l2 : Sm W b m d) :
    (set3 W g (.bool false) v1 v2).cell? ⟨g, 0, none⟩ = some (.bool false) ∧ (set3 W g (.bool false) v1 v2).cell? ⟨g, 1, none⟩ = some v1 ∧ (set3 W g (.bool false) v1 v2).cell? ⟨g, 2, none⟩ = some v2 ∧ Sm (set3 W g (.bool false) v1 v2) a k n ∧ Sm (set3 W g (.bool false) v1 v2) b m d ∧ Below B w (set3 W g (.bool false) v1 v2) := by
  have t := set3_cells (x := .bool false) (y := v1) (z := v2) h0 h1 h2
  exact ⟨t.1, t.2.1, t.2.2, set3_sm h0 h1 h2 (fun m e => by cases e) (fun m e => by cases e) (fun m e => by cases e) l1, set3_sm h0 h1 h2 (fun m e => by cases e) (fun m e => by cases e) (fun m e => by cases e) l2, set3_below hb hg _ _ _⟩
/-- The box of a fraction to be returned. -/
def Fx (w : World) (W : World) : Prop :=
  W.cell? ⟨w.heap.size, 0, none⟩ = some (.bool false) ∧ W.cell? ⟨w.heap.size, 1, none⟩ = some (.slice none 0 0) ∧ W.cell? ⟨w.heap.size, 2, none⟩ = some (.slice none 0 0) ∧ W.frozen? ⟨w.heap.size, 0, none⟩ = false ∧ W.frozen? ⟨w.heap.size, 1, none⟩ = false ∧ W.frozen? ⟨w.heap.size, 2, none⟩ = false ∧ Hid (Below w.heap.size w W ∧ w.heap.size < W.heap.size)
theorem Fx.keep {w W W' : World} (h : Fx w W) (hb : Below W.heap.size W W') : Fx w W' := by
  obtain ⟨r0, r1, r2, f0, f1, f2, x⟩ := h
  obtain ⟨bl, hg⟩ := x.out
  have f := fun (o : Nat) => hb.cell (p := ⟨w.heap.size, o, none⟩) hg
  have z := fun (o : Nat) => hb.frozen (p := ⟨w.heap.size, o, none⟩) hg
  exact ⟨(f _).trans r0, (f _).trans r1, (f _).trans r2, (z _).trans f0, (z _).trans f1, (z _).trans f2, bl.trans (hb.mono (by omega)), Nat.lt_of_lt_of_le hg hb.size⟩
theorem Fx.make (w : World) : Fx w (w.alloc (.cells #[.bool false, .slice none 0 0, .slice none 0 0] 45)) :=
  ⟨by rw [World.cell?_alloc_at _ _ _ _ rfl]; rfl, by rw [World.cell?_alloc_at _ _ _ _ rfl]; rfl, by rw [World.cell?_alloc_at _ _ _ _ rfl]; rfl, by simp, by simp, by simp, (Below.refl _ _).alloc (Nat.le_refl _) _, by simp⟩
set_option maxHeartbeats 1000000 in
theorem Part_c (n d : Nat) (w : World) (hn : n < 1000000000) (hd : d < 1000000000) : Calls Tryz.prog 20 #[.int .i64 n, .int .i64 d] w (PqFrPost n d w) := by
  have HN := Lib.hid hn
  have HD := Lib.hid hd
  clear hn hd
  go_enter Tryz.func20, Tryz.ntmps20
  go_wp2_with fail
  have X0 := Lib.hid (Fx.make w)
  generalize w.alloc (.cells #[.bool false, .slice none 0 0, .slice none 0 0] 45) = W0 at X0 ⊢
  refine (small_c n W0 HN.out).mono ?_
  rintro e w1 ⟨a1, k1, c1, rfl, l1, b1⟩
  have X1 := Lib.hid (X0.out.keep b1)
  have L1 := Lib.hid l1
  clear l1 b1 X0
  go_wp2_with fail
  refine (small_c d w1 HD.out).mono ?_
  rintro e w2 ⟨a2, k2, c2, rfl, l2, b2⟩
  have X2 := X1.out.keep b2
  have L12 := L1.out.below b2
  have FIN := Lib.hid (fin3 (v1 := .slice a1 k1 c1) (v2 := .slice a2 k2 c2) X2.1 X2.2.1 X2.2.2.1 X2.2.2.2.2.2.2.out.1 (Nat.le_refl _) L12 l2)
  clear L12 l2 b2 X1 L1
  dsimp only [Fx] at X2
  go_wp2
  obtain ⟨e0, e1, e2, m1, m2, hB⟩ := FIN.out
  unfold set3 at *
  exact bodyPost_ret (v := .agg #[.bool false, .slice a1 k1 c1, .slice a2 k2 c2]) (by simp [results, Tryz.results20, go_sem, e0, e1, e2]) rfl ⟨_, _, _, _, _, _, rfl, m1, m2, hB⟩
/-- The boxes of lowest. -/
def Lw (g : Nat) (v1 v2 : Value) (W : World) : Prop :=
  W.cell? ⟨g, 0, none⟩ = some (.bool false) ∧ W.cell? ⟨g, 1, none⟩ = some v1 ∧ W.cell? ⟨g, 2, none⟩ = some v2 ∧
  W.cell? ⟨g + 1, 0, none⟩ = some (.bool false) ∧ W.cell? ⟨g + 1, 1, none⟩ = some (.slice none 0 0) ∧ W.cell? ⟨g + 1, 2, none⟩ = some (.slice none 0 0) ∧
  W.frozen? ⟨g + 1, 0, none⟩ = false ∧ W.frozen? ⟨g + 1, 1, none⟩ = false ∧ W.frozen? ⟨g + 1, 2, none⟩ = false ∧ Hid (g + 2 ≤ W.heap.size)
theorem Lw.keep {g : Nat} {v1 v2 : Value} {W W' : World} (h : Lw g v1 v2 W) (hb : Below W.heap.size W W') : Lw g v1 v2 W' := by
  obtain ⟨a0, a1, a2, a3, a4, a5, f0, f1, f2, s⟩ := h
  have s' := s.out
  have c := fun (b o : Nat) (hg : b < W.heap.size) => hb.cell (p := ⟨b, o, none⟩) hg
  have f := fun (b o : Nat) (hg : b < W.heap.size) => hb.frozen (p := ⟨b, o, none⟩) hg
  have d0 : g < W.heap.size := by omega
  have d1 : g + 1 < W.heap.size := by omega
  exact ⟨(c _ _ d0).trans a0, (c _ _ d0).trans a1, (c _ _ d0).trans a2, (c _ _ d1).trans a3, (c _ _ d1).trans a4, (c _ _ d1).trans a5, (f _ _ d1).trans f0, (f _ _ d1).trans f1, (f _ _ d1).trans f2, Nat.le_trans s' hb.size⟩
set_option maxHeartbeats 2000000 in
theorem lowest_c (a1 a2 : Option Addr) (c1 c2 k1 k2 n d : Nat) (w : World) (h1 : Sm w a1 k1 n) (h2 : Sm w a2 k2 d) (hd : 0 < d) :
    Calls Tryz.prog 28 #[.agg #[.bool false, .slice a1 k1 c1, .slice a2 k2 c2]] w (PqFrPost (n / Nat.gcd n d) (d / Nat.gcd n d) w) := by
  have HG : Hid (0 < Nat.gcd n d) := Nat.gcd_pos_of_pos_right _ hd
  obtain ⟨W0, hW0⟩ : ∃ W0, (w.alloc (.cells #[.bool false, .slice a1 k1 c1, .slice a2 k2 c2] 45)).alloc (.cells #[.bool false, .slice none 0 0, .slice none 0 0] 45) = W0 := ⟨_, rfl⟩
  have O0 : Lw w.heap.size (.slice a1 k1 c1) (.slice a2 k2 c2) W0 := by
    rw [← hW0]
    refine ⟨?_, ?_, ?_, ?_, ?_, ?_, ?_, ?_, ?_, by simp [Hid]⟩
    all_goals simp [go_sem, World.cell?_alloc_past]
  have B0 : Hid (Below w.heap.size w W0) := by
    rw [← hW0]
    exact ((Below.refl _ _).alloc (Nat.le_refl _) _).alloc (by simp) _
  have L1 := Lib.hid (h1.below B0.out)
  have L2 := Lib.hid (h2.below B0.out)
  have OH := Lib.hid O0
  clear h1 h2 hd
  dsimp only [Lw] at O0
  go_enter Tryz.func28, Tryz.ntmps28
  go_wp2_with fail
  clear hW0 O0
  refine (divisor_c a2 a1 c2 c1 k2 k1 d n W0 L2.out L1.out).mono ?_
  rintro e w2 ⟨a, k, c, rfl, l1, b2⟩
  rw [Nat.gcd_comm d n] at l1
  have O2 := OH.out.keep b2
  have LG := Lib.hid l1
  have L12 := Lib.hid (L1.out.below b2)
  have L22 := Lib.hid (L2.out.below b2)
  have B2 := Lib.hid (B0.out.trans (b2.mono B0.out.size))
  clear l1 b2 B0 OH L1 L2
  generalize Nat.gcd n d = gg at *
  have OH := Lib.hid O2
  dsimp only [Lw] at O2
  go_wp2_with fail
  clear O2
  refine (rdivide_c a1 a c1 c k1 k n gg w2 L12.out LG.out HG.out).mono ?_
  rintro e w4 ⟨qa, qk, qc, ra, rk, rc, rfl, l4, _, b4⟩
  have O4 := OH.out.keep b4
  have L4 := Lib.hid l4
  have LG4 := Lib.hid (LG.out.below b4)
  have L24 := Lib.hid (L22.out.below b4)
  have B4 := Lib.hid (B2.out.trans (b4.mono B2.out.size))
  clear LG L12 L22 B2 OH l4 b4
  have OH := Lib.hid O4
  dsimp only [Lw] at O4
  go_wp2_with fail
  clear O4
  refine (rdivide_c a2 a c2 c k2 k d gg w4 L24.out LG4.out HG.out).mono ?_
  rintro e w6 ⟨pa, pk, pc, sa, sk, sc, rfl, l6, _, b6⟩
  have O6 := OH.out.keep b6
  have L6 := Lib.hid l6
  have L46 := Lib.hid (L4.out.below b6)
  have B6 := Lib.hid (B4.out.trans (b6.mono B4.out.size))
  clear LG4 L24 B4 OH l6 b6 L4
  have OH := Lib.hid O6
  dsimp only [Lw] at O6
  have FIN := Lib.hid (fin3 (v1 := .slice qa qk qc) (v2 := .slice pa pk pc) O6.2.2.2.1 O6.2.2.2.2.1 O6.2.2.2.2.2.1 B6.out (Nat.le_succ _) L46.out L6.out)
  clear L46 L6 B6 OH
  go_wp2
  clear O6
  obtain ⟨e0, e1, e2, m1, m2, hB⟩ := FIN.out
  unfold set3 at *
  exact bodyPost_ret (v := .agg #[.bool false, .slice qa qk qc, .slice pa pk pc]) (by simp [results, Tryz.results28, go_sem, e0, e1, e2]) rfl ⟨_, _, _, _, _, _, rfl, m1, m2, hB⟩
end Go.Proofs.YtfldlcnlijljcaaGreatDoor
namespace Go.Proofs.YtfldlcnlijljcaaGreatDoor
open Go.RowKit

/-- The boxes of Ratio: the fraction in lowest terms, and the result's. -/
def RS (w : World) (x : Nat) (a b : Option Addr) (k c m c2 n d : Nat) (W : World) : Prop :=
  W.cell? ⟨x, 0, none⟩ = some (.bool false) ∧ W.cell? ⟨x, 1, none⟩ = some (.slice a k c) ∧ W.cell? ⟨x, 2, none⟩ = some (.slice b m c2) ∧
  W.cell? ⟨w.heap.size + 1, 0, none⟩ = some (.string ⟨#[]⟩) ∧ W.cell? ⟨w.heap.size + 1, 1, none⟩ = some (.string ⟨#[]⟩) ∧ W.frozen? ⟨w.heap.size + 1, 0, none⟩ = false ∧ W.frozen? ⟨w.heap.size + 1, 1, none⟩ = false ∧
  Hid (Sm W a k n ∧ Sm W b m d ∧ Below w.heap.size w W ∧ x < W.heap.size ∧ w.heap.size + 1 < W.heap.size)
theorem RS.keep {w : World} {x : Nat} {a b : Option Addr} {k c m c2 n d : Nat} {W W' : World} (h : RS w x a b k c m c2 n d W) (hb : Below W.heap.size W W') : RS w x a b k c m c2 n d W' := by
  obtain ⟨a0, a1, a2, r0, r1, f0, f1, q⟩ := h
  obtain ⟨l1, l2, bl, hx, hg⟩ := q.out
  have f := fun (b o : Nat) (hb2 : b < W.heap.size) => hb.cell (p := ⟨b, o, none⟩) hb2
  have z := fun (b o : Nat) (hb2 : b < W.heap.size) => hb.frozen (p := ⟨b, o, none⟩) hb2
  exact ⟨(f _ _ hx).trans a0, (f _ _ hx).trans a1, (f _ _ hx).trans a2, (f _ _ hg).trans r0, (f _ _ hg).trans r1, (z _ _ hg).trans f0, (z _ _ hg).trans f1, l1.below hb, l2.below hb, bl.trans (hb.mono (by omega)), Nat.lt_of_lt_of_le hx hb.size, Nat.lt_of_lt_of_le hg hb.size⟩
/-- The box of r, beside them. -/
def RQ (w : World) (x q : Nat) (u v : ByteArray) (W : World) : Prop :=
  W.cell? ⟨q, 0, none⟩ = some (.string u) ∧ W.cell? ⟨q, 1, none⟩ = some (.string v) ∧ W.frozen? ⟨q, 0, none⟩ = false ∧ W.frozen? ⟨q, 1, none⟩ = false ∧ Hid (x < q ∧ w.heap.size + 1 < q ∧ q < W.heap.size)
theorem RQ.keep {w : World} {x q : Nat} {u v : ByteArray} {W W' : World} (h : RQ w x q u v W) (hb : Below W.heap.size W W') : RQ w x q u v W' := by
  obtain ⟨a0, a1, f0, f1, s⟩ := h
  obtain ⟨h1, h2, h3⟩ := s.out
  have f := fun (o : Nat) => hb.cell (p := ⟨q, o, none⟩) h3
  have z := fun (o : Nat) => hb.frozen (p := ⟨q, o, none⟩) h3
  exact ⟨(f _).trans a0, (f _).trans a1, (z _).trans f0, (z _).trans f1, h1, h2, Nat.lt_of_lt_of_le h3 hb.size⟩
theorem RQ.make {w : World} {x : Nat} {a b : Option Addr} {k c m c2 n d : Nat} {W : World} (h : RS w x a b k c m c2 n d W) : RQ w x W.heap.size ⟨#[]⟩ ⟨#[]⟩ (W.alloc (.cells #[.string ⟨#[]⟩, .string ⟨#[]⟩] 31)) := by
  obtain ⟨a0, a1, a2, r0, r1, f0, f1, q⟩ := h
  obtain ⟨l1, l2, bl, hx, hg⟩ := q.out
  exact ⟨by rw [World.cell?_alloc_at _ _ _ _ rfl]; rfl, by rw [World.cell?_alloc_at _ _ _ _ rfl]; rfl, by simp, by simp, hx, hg, by simp⟩
theorem RS.made {w : World} {x : Nat} {a b : Option Addr} {k c m c2 n d : Nat} {W : World} (h : RS w x a b k c m c2 n d W) (o : Obj) : RS w x a b k c m c2 n d (W.alloc o) := h.keep ((Below.refl _ _).alloc (Nat.le_refl _) _)
theorem RS.stored {w : World} {x q : Nat} {a b : Option Addr} {k c m c2 n d : Nat} {u v u' v' : ByteArray} {W : World} (h : RS w x a b k c m c2 n d W) (hq : RQ w x q u v W) : RS w x a b k c m c2 n d ((W.setCell ⟨q, 0, none⟩ (.string u')).setCell ⟨q, 1, none⟩ (.string v')) := by
  obtain ⟨a0, a1, a2, r0, r1, f0, f1, s⟩ := h
  obtain ⟨l1, l2, bl, hx, hg⟩ := s.out
  obtain ⟨q0, q1, _, _, t⟩ := hq
  obtain ⟨t1, t2, t3⟩ := t.out
  have e1 : (W.setCell ⟨q, 0, none⟩ (.string u')).cell? ⟨q, 1, none⟩ = some (.string v) := by rw [World.cell?_setCell_other _ _ _ _ (by simp)]; exact q1
  exact ⟨(cell_two (by omega)).trans a0, (cell_two (by omega)).trans a1, (cell_two (by omega)).trans a2, (cell_two (by omega)).trans r0, (cell_two (by omega)).trans r1, (frozen_two _).trans f0, (frozen_two _).trans f1,
    (l1.set q0 (fun m e => by cases e) _).set e1 (fun m e => by cases e) _, (l2.set q0 (fun m e => by cases e) _).set e1 (fun m e => by cases e) _,
    (bl.setCell (p := ⟨q, 0, none⟩) (show w.heap.size ≤ q by omega) _).setCell (p := ⟨q, 1, none⟩) (show w.heap.size ≤ q by omega) _, by simpa using hx, by simpa using hg⟩
theorem RQ.stored {w : World} {x q : Nat} {u v u' v' : ByteArray} {W : World} (hq : RQ w x q u v W) : RQ w x q u' v' ((W.setCell ⟨q, 0, none⟩ (.string u')).setCell ⟨q, 1, none⟩ (.string v')) := by
  obtain ⟨q0, q1, g0, g1, t⟩ := hq
  obtain ⟨t1, t2, t3⟩ := t.out
  have e := two_cells (x := .string u') (y := .string v') q0 q1
  exact ⟨e.1, e.2, (frozen_two _).trans g0, (frozen_two _).trans g1, t1, t2, by simpa using t3⟩
theorem rs_num (w : World) (x : Nat) (a b : Option Addr) (k c m c2 n d : Nat) (hE : Pow w) (W : World) (h : RS w x a b k c m c2 n d W) :
    Calls Tryz.prog 29 #[.slice a k c] W fun e w' => e = .returned (.string (decB n)) ∧ Below W.heap.size W w' :=
  (rtext_c a k c n W h.2.2.2.2.2.2.2.out.1 (Go.Joins.tab_stays gPow hE h.2.2.2.2.2.2.2.out.2.2.1 (Nat.le_refl _)))
theorem rs_den (w : World) (x : Nat) (a b : Option Addr) (k c m c2 n d : Nat) (hE : Pow w) (W : World) (h : RS w x a b k c m c2 n d W) :
    Calls Tryz.prog 29 #[.slice b m c2] W fun e w' => e = .returned (.string (decB d)) ∧ Below W.heap.size W w' :=
  (rtext_c b m c2 d W h.2.2.2.2.2.2.2.out.2.1 (Go.Joins.tab_stays gPow hE h.2.2.2.2.2.2.2.out.2.2.1 (Nat.le_refl _)))
set_option maxHeartbeats 4000000 in
theorem RRatio_c (a1 a2 : Option Addr) (c1 c2 k1 k2 n d : Nat) (w : World) (h1 : Sm w a1 k1 n) (h2 : Sm w a2 k2 d) (hd : 0 < d) (hE : Pow w) :
    Calls Tryz.prog 21 #[.agg #[.bool false, .slice a1 k1 c1, .slice a2 k2 c2]] w (RatPost (n / Nat.gcd n d) (d / Nat.gcd n d) w) := by
  have HE := Lib.hid hE
  have s1 : (decB (n / Nat.gcd n d)).size ≤ 21 := decB_size _ (Nat.le_trans (Nat.div_le_self _ _) (Nat.le_of_lt (Nat.lt_trans h1.lt (by decide))))
  have s2 : (decB (d / Nat.gcd n d)).size ≤ 21 := decB_size _ (Nat.le_trans (Nat.div_le_self _ _) (Nat.le_of_lt (Nat.lt_trans h2.lt (by decide))))
  obtain ⟨W0, hW0⟩ : ∃ W0, (w.alloc (.cells #[.bool false, .slice a1 k1 c1, .slice a2 k2 c2] 45)).alloc (.cells #[.string ⟨#[]⟩, .string ⟨#[]⟩] 31) = W0 := ⟨_, rfl⟩
  have B0 : Hid (Below w.heap.size w W0) := by
    rw [← hW0]
    exact ((Below.refl _ _).alloc (Nat.le_refl _) _).alloc (by simp) _
  have X0 : Hid (W0.cell? ⟨w.heap.size + 1, 0, none⟩ = some (.string ⟨#[]⟩) ∧ W0.cell? ⟨w.heap.size + 1, 1, none⟩ = some (.string ⟨#[]⟩) ∧ W0.frozen? ⟨w.heap.size + 1, 0, none⟩ = false ∧ W0.frozen? ⟨w.heap.size + 1, 1, none⟩ = false ∧ w.heap.size + 1 < W0.heap.size) := by
    rw [← hW0]
    refine ⟨?_, ?_, ?_, ?_, by simp⟩
    all_goals simp [go_sem, World.cell?_alloc_past]
  have y0 : W0.cell? ⟨w.heap.size, 0, none⟩ = some (.bool false) := by rw [← hW0]; simp [go_sem, World.cell?_alloc_past]
  have y1 : W0.cell? ⟨w.heap.size, 1, none⟩ = some (.slice a1 k1 c1) := by rw [← hW0]; simp [go_sem, World.cell?_alloc_past]
  have y2 : W0.cell? ⟨w.heap.size, 2, none⟩ = some (.slice a2 k2 c2) := by rw [← hW0]; simp [go_sem, World.cell?_alloc_past]
  have HL := Lib.hid (lowest_c a1 a2 c1 c2 k1 k2 n d W0 (h1.below B0.out) (h2.below B0.out) hd)
  clear h1 h2 hd hE
  generalize n / Nat.gcd n d = n' at *
  generalize d / Nat.gcd n d = d' at *
  have S1 := Lib.hid s1
  have S2 := Lib.hid s2
  clear s1 s2
  go_enter Tryz.func21, Tryz.ntmps21
  go_wp2_with fail
  clear hW0 y0 y1 y2
  refine HL.out.mono ?_
  rintro e w2 ⟨a, k, c, b, m, e2, rfl, l1, l2, b2⟩
  obtain ⟨W3, hW3⟩ : ∃ W3, w2.alloc (.cells #[.bool false, .slice a k c, .slice b m e2] 45) = W3 := ⟨_, rfl⟩
  have R3 : RS w w2.heap.size a b k c m e2 n' d' W3 := by
    obtain ⟨x0, x1, x2, x3, x4⟩ := X0.out
    have bb : Below w2.heap.size w2 W3 := by rw [← hW3]; exact (Below.refl _ _).alloc (Nat.le_refl _) _
    have s2 := b2.size
    have sz : W3.heap.size = w2.heap.size + 1 := by rw [← hW3]; simp
    have hlt : w.heap.size + 1 < w2.heap.size := by omega
    refine ⟨by rw [← hW3, World.cell?_alloc_at _ _ _ _ rfl]; rfl, by rw [← hW3, World.cell?_alloc_at _ _ _ _ rfl]; rfl, by rw [← hW3, World.cell?_alloc_at _ _ _ _ rfl]; rfl, ?_, ?_, ?_, ?_, l1.below bb, l2.below bb, (B0.out.trans (b2.mono B0.out.size)).trans (bb.mono (by omega)), by omega, by omega⟩
    · rw [bb.cell (p := ⟨w.heap.size + 1, 0, none⟩) hlt, b2.cell (p := ⟨w.heap.size + 1, 0, none⟩) x4]; exact x0
    · rw [bb.cell (p := ⟨w.heap.size + 1, 1, none⟩) hlt, b2.cell (p := ⟨w.heap.size + 1, 1, none⟩) x4]; exact x1
    · rw [bb.frozen (p := ⟨w.heap.size + 1, 0, none⟩) hlt, b2.frozen (p := ⟨w.heap.size + 1, 0, none⟩) x4]; exact x2
    · rw [bb.frozen (p := ⟨w.heap.size + 1, 1, none⟩) hlt, b2.frozen (p := ⟨w.heap.size + 1, 1, none⟩) x4]; exact x3
  clear l1 l2 b2 B0 X0 HL
  have HR := Lib.hid R3
  dsimp only [RS] at R3
  go_wp2_with fail
  clear R3
  have R3 := HR.out
  clear HR
  generalize w2.heap.size = x at R3 ⊢
  have hS := R3.keep (Below.refl _ _).drew
  clear hW3 R3
  refine wp_region_noPanic ?_
  refine wp_region_held_drew (S := RS w x a b k c m e2 n' d') (by kernel_rfl) hS (fun hHeld => ?_)
  refine wpAnyH_take (i := 0) (v := ?v0z1) rfl (by kernel_rfl) (by kernel_rfl) (by kernel_rfl) (fun _ _ _ h => h) (Or.inl ⟨by rfl, ?hy0z1⟩) (by assumption) ?rest0z1
  case hy0z1 =>
    intro w hSw
    dsimp only [RS] at hSw
    go_simp
    try with_reducible rfl
  simp only [Act.put, List.getElem_toArray, List.getElem_cons_succ, List.getElem_cons_zero, List.setIfInBounds_toArray, List.set_cons_zero, List.set_cons_succ]
  refine wpAnyH_take (i := 1) (v := ?v1z2) rfl (by kernel_rfl) (by kernel_rfl) (by kernel_rfl) (fun _ _ _ h => h) (Or.inl ⟨by rfl, ?hy1z2⟩) (by assumption) ?rest1z2
  case hy1z2 =>
    intro w hSw
    dsimp only [RS] at hSw
    go_simp
    try with_reducible rfl
  simp only [Act.put, List.getElem_toArray, List.getElem_cons_succ, List.getElem_cons_zero, List.setIfInBounds_toArray, List.set_cons_zero, List.set_cons_succ]
  refine wpAnyH_take (i := 3) (v := ?v3z3) rfl (by kernel_rfl) (by kernel_rfl) (by kernel_rfl) (fun _ _ _ h => h) (Or.inl ⟨by rfl, ?hy3z3⟩) (by assumption) ?rest3z3
  case hy3z3 =>
    intro w hSw
    dsimp only [RS] at hSw
    go_simp
    try with_reducible rfl
  simp only [Act.put, List.getElem_toArray, List.getElem_cons_succ, List.getElem_cons_zero, List.setIfInBounds_toArray, List.set_cons_zero, List.set_cons_succ]
  refine wpAnyH_take (i := 4) (v := ?v4z4) rfl (by kernel_rfl) (by kernel_rfl) (by kernel_rfl) (fun _ _ _ h => h) (Or.inl ⟨by rfl, ?hy4z4⟩) (by assumption) ?rest4z4
  case hy4z4 =>
    intro w hSw
    dsimp only [RS] at hSw
    go_simp
    try with_reducible rfl
  simp only [Act.put, List.getElem_toArray, List.getElem_cons_succ, List.getElem_cons_zero, List.setIfInBounds_toArray, List.set_cons_zero, List.set_cons_succ]
  generalize W3.drew = WD at hHeld ⊢
  clear hS
  have hS := hHeld
  clear hHeld
  refine wpAnyH_ready (rs := [2, 7]) (by kernel_rfl) (by simp) ?_
  refine AllReadyH.cons rfl (fun K hK => ?_) (AllReadyH.cons rfl (fun K hK => ?_) AllReadyH.nil)
  · go_simp
    refine (rs_num w x a b k c m e2 n' d' HE.out _ hS).mono ?_
    rintro e wc ⟨rfl, bc⟩
    try go_simp
    have hT := hS.keep bc
    refine hK.out _ _ hT (fun _ => ?_)
    clear hK K hS bc
    have hS := hT
    clear hT
    try simp only [Act.put, List.setIfInBounds_toArray, List.set_cons_zero, List.set_cons_succ]
    refine wpAnyH_ready (rs := [5, 7]) (by kernel_rfl) (by simp) ?_
    refine AllReadyH.cons rfl (fun K hK => ?_) (AllReadyH.cons rfl (fun K hK => ?_) AllReadyH.nil)
    · go_simp
      refine (rs_den w x a b k c m e2 n' d' HE.out _ hS).mono ?_
      rintro e wc ⟨rfl, bc⟩
      try go_simp
      have hT := hS.keep bc
      refine hK.out _ _ hT (fun _ => ?_)
      clear hK K hS bc
      have hS := hT
      clear hT
      try simp only [Act.put, List.setIfInBounds_toArray, List.set_cons_zero, List.set_cons_succ]
      refine wpAnyH_take (i := 6) (v := ?v6z101) rfl (by kernel_rfl) (by kernel_rfl) (by kernel_rfl) (fun _ _ _ h => h) (Or.inl ⟨by rfl, ?hy6z101⟩) (by assumption) ?rest6z101
      case hy6z101 =>
        intro w hSw
        dsimp only [RS] at hSw
        go_simp
        try with_reducible rfl
      simp only [Act.put, List.getElem_toArray, List.getElem_cons_succ, List.getElem_cons_zero, List.setIfInBounds_toArray, List.set_cons_zero, List.set_cons_succ]
      refine wpAnyH_ready (rs := [7]) (by kernel_rfl) (by simp) ?_
      refine AllReadyH.cons rfl (fun K hK => ?_) AllReadyH.nil
      go_simp
      have hQ := RQ.make hS
      have hT := hS.made (.cells #[.string ⟨#[]⟩, .string ⟨#[]⟩] 31)
      refine hK.out _ _ hT (fun _ => ?_)
      clear hK K hS
      have hS := hT
      clear hT
      try simp only [Act.put, List.setIfInBounds_toArray, List.set_cons_zero, List.set_cons_succ]
      generalize (wc).alloc (.cells #[.string ⟨#[]⟩, .string ⟨#[]⟩] 31) = WA at hQ hS ⊢
      generalize World.heap (wc) = HH at hQ ⊢
      generalize HH.size = q at hQ ⊢
      refine wpAnyH_ready (rs := [8]) (by kernel_rfl) (by simp) ?_
      refine AllReadyH.cons rfl (fun K hK => ?_) AllReadyH.nil
      have e := hQ
      dsimp only [RQ] at e
      go_simp
      clear e
      have hT := hS.stored (u' := decB n') (v' := decB d') hQ
      have hP := hQ.stored (u' := decB n') (v' := decB d')
      refine hK.out _ _ hT (fun _ => ?_)
      clear hK K hS hQ
      try simp only [Act.put, List.setIfInBounds_toArray, List.set_cons_zero, List.set_cons_succ]
      refine wpAnyH_done (by kernel_rfl) ?_ _
      refine NoPanic.normal ?_
      generalize World.setCell _ _ _ = W9 at hT hP ⊢
      have e := hT
      dsimp only [RS] at e
      have e' := hP
      dsimp only [RQ] at e'
      have s1 := S1.out
      have s2 := S2.out
      have FIN := Lib.hid (two_cells (x := .string (decB n')) (y := .string (decB d')) hT.2.2.2.1 hT.2.2.2.2.1)
      have FB := Lib.hid ((hT.2.2.2.2.2.2.2.out.2.2.1.setCell (p := ⟨w.heap.size + 1, 0, none⟩) (Nat.le_succ _) (.string (decB n'))).setCell (p := ⟨w.heap.size + 1, 1, none⟩) (Nat.le_succ _) (.string (decB d')))
      clear hT hP
      go_wp2
      obtain ⟨e0, e1⟩ := FIN.out
      exact bodyPost_ret (v := .tuple #[.agg #[.string (decB n'), .string (decB d')], .int .i64 0]) (by simp [results, Tryz.results21, go_sem, e0, e1]) rfl ⟨rfl, FB.out⟩
    · go_simp
      have hQ := RQ.make hS
      have hT := hS.made (.cells #[.string ⟨#[]⟩, .string ⟨#[]⟩] 31)
      refine hK.out _ _ hT (fun _ => ?_)
      clear hK K hS
      have hS := hT
      clear hT
      try simp only [Act.put, List.setIfInBounds_toArray, List.set_cons_zero, List.set_cons_succ]
      generalize (wc).alloc (.cells #[.string ⟨#[]⟩, .string ⟨#[]⟩] 31) = WA at hQ hS ⊢
      generalize World.heap (wc) = HH at hQ ⊢
      generalize HH.size = q at hQ ⊢
      refine wpAnyH_ready (rs := [5]) (by kernel_rfl) (by simp) ?_
      refine AllReadyH.cons rfl (fun K hK => ?_) AllReadyH.nil
      go_simp
      refine (rs_den w x a b k c m e2 n' d' HE.out _ hS).mono ?_
      rintro e wc ⟨rfl, bc⟩
      try go_simp
      have hT := hS.keep bc
      have hP := hQ.keep bc
      refine hK.out _ _ hT (fun _ => ?_)
      clear hK K hS bc
      clear hQ
      have hQ := hP
      clear hP
      have hS := hT
      clear hT
      try simp only [Act.put, List.setIfInBounds_toArray, List.set_cons_zero, List.set_cons_succ]
      refine wpAnyH_take (i := 6) (v := ?v6z102) rfl (by kernel_rfl) (by kernel_rfl) (by kernel_rfl) (fun _ _ _ h => h) (Or.inl ⟨by rfl, ?hy6z102⟩) (by assumption) ?rest6z102
      case hy6z102 =>
        intro w hSw
        dsimp only [RS] at hSw
        go_simp
        try with_reducible rfl
      simp only [Act.put, List.getElem_toArray, List.getElem_cons_succ, List.getElem_cons_zero, List.setIfInBounds_toArray, List.set_cons_zero, List.set_cons_succ]
      refine wpAnyH_ready (rs := [8]) (by kernel_rfl) (by simp) ?_
      refine AllReadyH.cons rfl (fun K hK => ?_) AllReadyH.nil
      have e := hQ
      dsimp only [RQ] at e
      go_simp
      clear e
      have hT := hS.stored (u' := decB n') (v' := decB d') hQ
      have hP := hQ.stored (u' := decB n') (v' := decB d')
      refine hK.out _ _ hT (fun _ => ?_)
      clear hK K hS hQ
      try simp only [Act.put, List.setIfInBounds_toArray, List.set_cons_zero, List.set_cons_succ]
      refine wpAnyH_done (by kernel_rfl) ?_ _
      refine NoPanic.normal ?_
      generalize World.setCell _ _ _ = W9 at hT hP ⊢
      have e := hT
      dsimp only [RS] at e
      have e' := hP
      dsimp only [RQ] at e'
      have s1 := S1.out
      have s2 := S2.out
      have FIN := Lib.hid (two_cells (x := .string (decB n')) (y := .string (decB d')) hT.2.2.2.1 hT.2.2.2.2.1)
      have FB := Lib.hid ((hT.2.2.2.2.2.2.2.out.2.2.1.setCell (p := ⟨w.heap.size + 1, 0, none⟩) (Nat.le_succ _) (.string (decB n'))).setCell (p := ⟨w.heap.size + 1, 1, none⟩) (Nat.le_succ _) (.string (decB d')))
      clear hT hP
      go_wp2
      obtain ⟨e0, e1⟩ := FIN.out
      exact bodyPost_ret (v := .tuple #[.agg #[.string (decB n'), .string (decB d')], .int .i64 0]) (by simp [results, Tryz.results21, go_sem, e0, e1]) rfl ⟨rfl, FB.out⟩
  · go_simp
    have hQ := RQ.make hS
    have hT := hS.made (.cells #[.string ⟨#[]⟩, .string ⟨#[]⟩] 31)
    refine hK.out _ _ hT (fun _ => ?_)
    clear hK K hS
    have hS := hT
    clear hT
    try simp only [Act.put, List.setIfInBounds_toArray, List.set_cons_zero, List.set_cons_succ]
    generalize (WD).alloc (.cells #[.string ⟨#[]⟩, .string ⟨#[]⟩] 31) = WA at hQ hS ⊢
    generalize World.heap (WD) = HH at hQ ⊢
    generalize HH.size = q at hQ ⊢
    refine wpAnyH_ready (rs := [2]) (by kernel_rfl) (by simp) ?_
    refine AllReadyH.cons rfl (fun K hK => ?_) AllReadyH.nil
    go_simp
    refine (rs_num w x a b k c m e2 n' d' HE.out _ hS).mono ?_
    rintro e wc ⟨rfl, bc⟩
    try go_simp
    have hT := hS.keep bc
    have hP := hQ.keep bc
    refine hK.out _ _ hT (fun _ => ?_)
    clear hK K hS bc
    clear hQ
    have hQ := hP
    clear hP
    have hS := hT
    clear hT
    try simp only [Act.put, List.setIfInBounds_toArray, List.set_cons_zero, List.set_cons_succ]
    refine wpAnyH_ready (rs := [5]) (by kernel_rfl) (by simp) ?_
    refine AllReadyH.cons rfl (fun K hK => ?_) AllReadyH.nil
    go_simp
    refine (rs_den w x a b k c m e2 n' d' HE.out _ hS).mono ?_
    rintro e wc ⟨rfl, bc⟩
    try go_simp
    have hT := hS.keep bc
    have hP := hQ.keep bc
    refine hK.out _ _ hT (fun _ => ?_)
    clear hK K hS bc
    clear hQ
    have hQ := hP
    clear hP
    have hS := hT
    clear hT
    try simp only [Act.put, List.setIfInBounds_toArray, List.set_cons_zero, List.set_cons_succ]
    refine wpAnyH_take (i := 6) (v := ?v6z103) rfl (by kernel_rfl) (by kernel_rfl) (by kernel_rfl) (fun _ _ _ h => h) (Or.inl ⟨by rfl, ?hy6z103⟩) (by assumption) ?rest6z103
    case hy6z103 =>
      intro w hSw
      dsimp only [RS] at hSw
      go_simp
      try with_reducible rfl
    simp only [Act.put, List.getElem_toArray, List.getElem_cons_succ, List.getElem_cons_zero, List.setIfInBounds_toArray, List.set_cons_zero, List.set_cons_succ]
    refine wpAnyH_ready (rs := [8]) (by kernel_rfl) (by simp) ?_
    refine AllReadyH.cons rfl (fun K hK => ?_) AllReadyH.nil
    have e := hQ
    dsimp only [RQ] at e
    go_simp
    clear e
    have hT := hS.stored (u' := decB n') (v' := decB d') hQ
    have hP := hQ.stored (u' := decB n') (v' := decB d')
    refine hK.out _ _ hT (fun _ => ?_)
    clear hK K hS hQ
    try simp only [Act.put, List.setIfInBounds_toArray, List.set_cons_zero, List.set_cons_succ]
    refine wpAnyH_done (by kernel_rfl) ?_ _
    refine NoPanic.normal ?_
    generalize World.setCell _ _ _ = W9 at hT hP ⊢
    have e := hT
    dsimp only [RS] at e
    have e' := hP
    dsimp only [RQ] at e'
    have s1 := S1.out
    have s2 := S2.out
    have FIN := Lib.hid (two_cells (x := .string (decB n')) (y := .string (decB d')) hT.2.2.2.1 hT.2.2.2.2.1)
    have FB := Lib.hid ((hT.2.2.2.2.2.2.2.out.2.2.1.setCell (p := ⟨w.heap.size + 1, 0, none⟩) (Nat.le_succ _) (.string (decB n'))).setCell (p := ⟨w.heap.size + 1, 1, none⟩) (Nat.le_succ _) (.string (decB d')))
    clear hT hP
    go_wp2
    obtain ⟨e0, e1⟩ := FIN.out
    exact bodyPost_ret (v := .tuple #[.agg #[.string (decB n'), .string (decB d')], .int .i64 0]) (by simp [results, Tryz.results21, go_sem, e0, e1]) rfl ⟨rfl, FB.out⟩
end Go.Proofs.YtfldlcnlijljcaaGreatDoor
namespace Go.Proofs.YtfldlcnlijljcaaGreatDoor
open Go.RowKit

/-- What CheckRotation gives. -/
def chkRot (i o g : Int) : Int := if i < 1 ∨ 1000 < i ∨ o < 0 ∨ 1000 < o ∨ g < 0 ∨ 1000 < g then 1 else if g = 0 ∧ o ≠ 0 then 3 else 0
def inB (i o g grp wave : Int) : Bool := decide (wave - grp < i) || (decide (0 ≤ wave - grp - i - o) && decide (wave - grp - i - o < g))
abbrev rotV (i o g : Int) : Value := .agg #[.int .i64 i, .int .i64 o, .int .i64 g]
theorem ret_bool {a b : Bool} (h : a = b) : Ending.returned (.bool a) = .returned (.bool b) := by rw [h]
theorem Pqbel_one (w : World) (o : Obj) : Below w.heap.size w (w.alloc o) := (Below.refl _ _).alloc (Nat.le_refl _) o
set_option maxHeartbeats 2000000 in
theorem chk_c (i o g : Int) (w : World) : Calls Tryz.prog 7 #[rotV i o g] w fun e w' => e = .returned (.int .i64 (chkRot i o g)) ∧ Below w.heap.size w w' := by
  go_enter Tryz.func7, Tryz.ntmps7
  go_wp2
  all_goals go_ret
  all_goals refine ⟨ret_int ?_, Pqbel_one _ _⟩
  all_goals try simp only [bne_iff_ne, ne_eq, bne_eq_false_iff_eq, beq_iff_eq, beq_eq_false_iff_ne, Bool.not_eq_true] at *
  all_goals first
    | (unfold chkRot; rw [if_pos (by omega)])
    | (unfold chkRot; rw [if_neg (by omega), if_pos (by omega)])
    | (unfold chkRot; rw [if_neg (by omega), if_neg (by omega)])
theorem within_c (n l h : Int) (w : World) : Calls Tryz.prog 15 #[.int .i64 n, .int .i64 l, .int .i64 h] w fun e w' => e = .returned (.bool (decide (l ≤ n) && decide (n ≤ h))) ∧ w = w' := by
  go_enter Tryz.func15, Tryz.ntmps15
  go_wp2
  all_goals go_ret
  all_goals refine ⟨ret_bool ?_, rfl⟩
  all_goals (simp_all <;> omega)
set_option maxHeartbeats 2000000 in
theorem isIn_c (i o g grp wave : Int) (w : World) (hi : 1 ≤ i ∧ i ≤ 1000) (ho : 0 ≤ o ∧ o ≤ 1000) (hg : 0 ≤ g ∧ g ≤ 1000) (h1 : 1 ≤ grp ∧ grp ≤ 1000) (h2 : 1 ≤ wave ∧ wave ≤ 1000) :
    Calls Tryz.prog 17 #[rotV i o g, .int .i64 grp, .int .i64 wave] w fun e w' => e = .returned (.bool (inB i o g grp wave)) ∧ Below w.heap.size w w' := by
  go_enter Tryz.func17, Tryz.ntmps17
  go_wp2
  all_goals go_ret
  all_goals refine ⟨ret_bool ?_, Pqbel_one _ _⟩
  all_goals unfold inB
  all_goals simp_all
  all_goals omega
theorem add_w (a b : Int) (ha : -10000 ≤ a ∧ a ≤ 10000) (hb : -10000 ≤ b ∧ b ≤ 10000) : IntKind.i64.wrap (a + b) = a + b := by rw [IntKind.wrap_i64]; omega
set_option maxHeartbeats 2000000 in
theorem rIsIn_c (i o g grp wave : Int) (w : World) (hi : 1 ≤ i ∧ i ≤ 1000) (ho : 0 ≤ o ∧ o ≤ 1000) (hg : 0 ≤ g ∧ g ≤ 1000) (h1 : 1 ≤ grp ∧ grp ≤ wave) (h2 : wave ≤ 1000) :
    Calls Tryz.prog 19 #[rotV i o g, .int .i64 grp, .int .i64 wave] w fun e w' => e = .returned (.bool (inB i o g grp wave)) ∧ Below w.heap.size w w' := by
  have e : inB i o g grp wave = ((decide (grp ≤ wave) && decide (wave ≤ grp + i - 1)) || (decide (grp + i + o ≤ wave) && decide (wave ≤ grp + i + o + g - 1))) := by
    unfold inB
    rw [Bool.eq_iff_iff]
    simp
    omega
  rw [e]
  clear e
  go_enter Tryz.func19, Tryz.ntmps19
  go_wp2_with (go_at_call 15; refine (within_c _ _ _ _).mono ?_; rintro e w' ⟨rfl, rfl⟩)
  all_goals go_ret
  all_goals refine ⟨ret_bool ?_, Pqbel_one _ _⟩
  all_goals (simp_all <;> omega)
set_option maxHeartbeats 2000000 in
theorem rchk_c (i o g : Int) (w : World) : Calls Tryz.prog 8 #[rotV i o g] w fun e w' => e = .returned (.int .i64 (chkRot i o g)) ∧ Below w.heap.size w w' := by
  go_enter Tryz.func8, Tryz.ntmps8
  go_wp2_with (go_at_call 15; refine (within_c _ _ _ _).mono ?_; rintro e w' ⟨rfl, rfl⟩)
  all_goals go_ret
  all_goals refine ⟨ret_int ?_, Pqbel_one _ _⟩
  all_goals try simp only [bne_iff_ne, ne_eq, bne_eq_false_iff_eq, beq_iff_eq, beq_eq_false_iff_ne, Bool.not_eq_true, Bool.not_eq_false', Bool.not_eq_true', Bool.or_eq_true, Bool.or_eq_false_iff, Bool.and_eq_true, Bool.and_eq_false_imp, decide_eq_true_eq, decide_eq_false_iff_not] at *
  all_goals first
    | (unfold chkRot; rw [if_pos (by omega)])
    | (unfold chkRot; rw [if_neg (by omega), if_pos (by omega)])
    | (unfold chkRot; rw [if_neg (by omega), if_neg (by omega)])
end Go.Proofs.YtfldlcnlijljcaaGreatDoor
