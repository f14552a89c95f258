/-
  Fractions of numbers of one limb: common, divide, Common, Divide, Over, Of.
-/
import Derived.Test.YtecbkfmdpgkdiaaGreatDoorRatBase
import Derived.Deep.RegionHeld3
import Derived.Deep.RegionWith
namespace Go.Proofs.YtecbkfmdpgkdiaaGreatDoor
open Go.RowKit

theorem sgn_lt {x y : Nat} : decide (sgn x y < 0) = decide (x < y) := by
  unfold sgn
  by_cases h : x < y
  · simp [h]
  · rw [if_neg h]
    split <;> simp [h]
/-- What lies behind a row of limbs: known by its parts. -/
theorem Lm.pos {w : World} {a : Option Addr} {k n : Nat} (h : Lm w a k n) (hn : 0 < n) : k = 1 ∧ n ≤ 9223372036854775807 ∧ ∃ b off, a = some ⟨b, off, none⟩ ∧ b < w.heap.size ∧ w.cell? ⟨b, off, none⟩ = some (.int .u64 n) := by
  rcases h with ⟨_, rfl⟩ | ⟨h1, _, h3, h4⟩
  · omega
  · exact ⟨h1, h3, h4⟩
theorem Lm.nul {w : World} {a : Option Addr} {k : Nat} (h : Lm w a k 0) : k = 0 := by
  rcases h with ⟨h, _⟩ | ⟨_, h, _⟩
  · exact h
  · omega
/-- A slice that was built of one number. -/
theorem Lm.built (w : World) (n : Nat) (T : TypeId) (h0 : 0 < n) (hn : n ≤ 9223372036854775807) : Lm (w.alloc (.cells #[.int .u64 n] T)) (some ⟨w.heap.size, 0, none⟩) 1 n :=
  .inr ⟨rfl, h0, hn, _, _, rfl, by simp, by rw [World.cell?_alloc_new]; rfl⟩

set_option maxHeartbeats 2000000 in
theorem divide_c (a1 a2 : Option Addr) (c1 c2 k1 k2 n d : Nat) (w : World) (h1 : Lm w a1 k1 n) (h2 : Lm w a2 k2 d) (hd : 0 < d) :
    Calls Tryz.prog 69 #[.slice a1 k1 c1, .slice a2 k2 c2] w fun e w' => ∃ a k c b m e2, e = .returned (.tuple #[.slice a k c, .slice b m e2]) ∧ Lm w' a k (n / d) ∧ Lm w' b m (n % d) ∧ Below w.heap.size w w' := by
  have HC := Lib.hid (compare_c a1 a2 c1 c2 k1 k2 n d w h1 h2)
  obtain ⟨rfl, md, b2, o2, rfl, hb2, g2⟩ := h2.pos hd
  have H1 := Lib.hid h1
  by_cases hlt : n < d
  · have e1 : Hid (n / d = 0) := Nat.div_eq_of_lt hlt
    have e2 : Hid (n % d = n) := Nat.mod_eq_of_lt hlt
    have es : sgn n d = -1 := by unfold sgn; rw [if_pos hlt]
    rw [es] at HC
    clear h1 h2 hlt es
    go_enter Tryz.func69, Tryz.ntmps69
    go_wp2_with fail
    refine HC.out.mono ?_
    rintro e w1 ⟨rfl, q, rfl⟩
    go_wp2
    go_ret2
    exact ⟨none, 0, 0, a1, k1, c1, rfl, by rw [e1.out]; exact Lm.zero _ _, by rw [e2.out]; exact H1.out.below (below_drew _ _), below_drew _ _⟩
  · have es : decide (sgn n d < 0) = false := by rw [sgn_lt]; simp; omega
    have HR : Hid (n % d ≤ 9223372036854775807) := by have := Nat.mod_lt n hd; unfold Hid; omega
    have HS := Lib.hid (fun W (hW : Lm W a1 k1 n) => divideShort_c a1 k1 c1 n d W hW hd)
    generalize sgn n d = s at *
    clear h1 h2 hlt hd
    go_enter Tryz.func69, Tryz.ntmps69
    go_wp2_with fail
    refine HC.out.mono ?_
    rintro e w1 ⟨rfl, q, rfl⟩
    have L1 := Lib.hid (H1.out.below (below_drew w q))
    have B1 := Lib.hid (below_drew w q)
    have g2' : (w.drewN q).cell? ⟨b2, o2, none⟩ = some (.int .u64 d) := g2
    generalize w.drewN q = w2 at *
    clear g2
    go_wp2_with fail
    refine (HS.out _ L1.out).mono ?_
    rintro e w3 ⟨a3, k3, c3, rfl, l3, b3⟩
    have L3 := Lib.hid l3
    have B3 := Lib.hid (B1.out.trans (b3.mono B1.out.size))
    clear l3 b3
    go_wp2_with fail
    have hL : Hid (Lm (w3.alloc (.cells #[.int .u64 (n % d : Nat)] 87)) a3 k3 (n / d)) := L3.out.below ((Below.refl _ _).alloc (Nat.le_refl _) _)
    have hB : Hid (Below w.heap.size w (w3.alloc (.cells #[.int .u64 (n % d : Nat)] 87))) := B3.out.alloc B3.out.size _
    have hT := Lib.hid (trim_c w3.heap.size 0 1 (n % d) (w3.alloc (.cells #[.int .u64 (n % d : Nat)] 87)) (Nat.le_refl _) (by omega) HR.out (by simp) (by rw [World.cell?_alloc_new]; rfl))
    refine hT.out.mono ?_
    rintro e w4 ⟨a4, k4, c4, rfl, l4, b4⟩
    have L4 := Lib.hid l4
    have L3' := Lib.hid (hL.out.below b4)
    have B4 := Lib.hid (hB.out.trans (b4.mono hB.out.size))
    clear l4 b4
    go_wp2
    go_ret2
    exact ⟨a3, k3, c3, a4, k4, c4, rfl, L3'.out, L4.out, B4.out⟩
set_option maxHeartbeats 2000000 in
theorem common_c (a1 a2 : Option Addr) (c1 c2 k1 k2 n m : Nat) (w : World) (h1 : Lm w a1 k1 n) (h2 : Lm w a2 k2 m) (hp : 0 < n ∨ 0 < m) :
    Calls Tryz.prog 67 #[.slice a1 k1 c1, .slice a2 k2 c2] w (LmPost (Nat.gcd n m) w) := by
  have HC := Lib.hid (compare_c a1 a2 c1 c2 k1 k2 n m w h1 h2)
  have HP : Hid (0 < Nat.gcd n m) := by
    unfold Hid
    rcases hp with h | h
    · exact Nat.gcd_pos_of_pos_left _ h
    · exact Nat.gcd_pos_of_pos_right _ h
  have bn : n ≤ 9223372036854775807 := by
    rcases h1 with ⟨_, rfl⟩ | ⟨_, _, h, _⟩
    · omega
    · exact h
  have bm : m ≤ 9223372036854775807 := by
    rcases h2 with ⟨_, rfl⟩ | ⟨_, _, h, _⟩
    · omega
    · exact h
  have HPM : Hid (Nat.gcd n m ≤ 9223372036854775807) := by
    unfold Hid
    rcases hp with h | h
    · exact Nat.le_trans (Nat.gcd_le_left _ h) bn
    · exact Nat.le_trans (Nat.gcd_le_right _ h) bm
  have H1 := Lib.hid h1
  have H2 := Lib.hid h2
  by_cases hlt : n < m
  · have es : sgn n m = -1 := by unfold sgn; rw [if_pos hlt]
    rw [es] at HC
    by_cases h0 : n = 0
    · subst h0
      obtain rfl := h1.nul
      have HG : Hid (Nat.gcd 0 m = m) := Nat.gcd_zero_left m
      clear h1 h2 hlt es hp bn bm HP HPM
      go_enter Tryz.func67, Tryz.ntmps67
      go_wp2_with fail
      refine HC.out.mono ?_
      rintro e w1 ⟨rfl, q, rfl⟩
      go_wp2_with fail
      have HL := Lib.hid (H2.out.below (below_drew w q))
      have HB := Lib.hid (below_drew w q)
      generalize w.drewN q = w2 at *
      go_loop [0, 1] (fun s t => s = .slice a2 k2 c2 ∧ t = .slice a1 0 c1) (fun _ _ => 0)
      case atStart => exact ⟨rfl, rfl⟩
      case round =>
        obtain ⟨rfl, rfl⟩ := hrel
        go_wp2
        go_ret
        exact ⟨_, _, _, rfl, by first | (rw [HG.out]; exact HL.out) | exact HL.out, HB.out⟩
    · have hn0 : 0 < n := by omega
      obtain ⟨rfl, _, b1, o1, rfl, hb1, g1⟩ := h1.pos hn0
      have GY := Lib.hid g1
      have GL := Lib.hid hb1
      have HY := Lib.hid hn0
      have HM := Lib.hid bn
      have HG : Hid (Nat.gcd n (m % n) = Nat.gcd n m) := by unfold Hid; rw [Nat.gcd_comm, ← Nat.gcd_rec]
      clear h1 h2 hlt es hp bn bm h0 hn0 hb1 g1
      go_enter Tryz.func67, Tryz.ntmps67
      go_wp2_with fail
      refine HC.out.mono ?_
      rintro e w1 ⟨rfl, q, rfl⟩
      go_wp2_with fail
      have HL := Lib.hid (H2.out.below (below_drew w q))
      have HB := Lib.hid (below_drew w q)
      have gy : Hid ((w.drewN q).cell? ⟨b1, o1, none⟩ = some (.int .u64 n)) := GY.out
      have gl : Hid (b1 < (w.drewN q).heap.size) := GL.out
      generalize w.drewN q = w2 at *
      clear GY GL
      go_loop [0, 1] (fun s t => s = .slice a2 k2 c2 ∧ t = .slice (some ⟨b1, o1, none⟩) 1 c1) (fun _ _ => 0)
      case atStart => exact ⟨rfl, rfl⟩
      case round =>
        obtain ⟨rfl, rfl⟩ := hrel
        have gc := gy.out
        go_wp2_with fail
        refine (divideShort_c a2 k2 c2 m n w2 HL.out HY.out).mono ?_
        rintro e w3 ⟨a3, k3, c3, rfl, l3, b3⟩
        have B3 := Lib.hid (HB.out.trans (b3.mono HB.out.size))
        have gc3 : w3.cell? ⟨b1, o1, none⟩ = some (.int .u64 n) := by rw [b3.cell (p := ⟨b1, o1, none⟩) gl.out]; exact gy.out
        clear gc l3 b3
        have hcl := Lib.hid (fun w => commonLimb_c n (m % n) w HM.out (by have := Nat.mod_lt m HY.out; have := HM.out; omega))
        go_wp2_with fail
        refine (hcl.out _).mono ?_
        rintro e w4 ⟨rfl, q4, rfl⟩
        have B4 := Lib.hid (below_drewN B3.out q4)
        rw [HG.out]
        go_wp2
        go_ret
        exact ⟨_, 1, _, rfl, Lm.built _ _ _ HP.out HPM.out, by first | exact B4.out.alloc B4.out.size _ | exact (below_drewN B3.out q4).alloc (below_drewN B3.out q4).size _⟩
  · have es : decide (sgn n m < 0) = false := by rw [sgn_lt]; simp; omega
    by_cases h0 : m = 0
    · subst h0
      obtain rfl := h2.nul
      have HG : Hid (Nat.gcd n 0 = n) := Nat.gcd_zero_right n
      clear h1 h2 hlt hp bn bm HP HPM
      generalize sgn n 0 = sg at *
      go_enter Tryz.func67, Tryz.ntmps67
      go_wp2_with fail
      refine HC.out.mono ?_
      rintro e w1 ⟨rfl, q, rfl⟩
      go_wp2_with fail
      have HL := Lib.hid (H1.out.below (below_drew w q))
      have HB := Lib.hid (below_drew w q)
      generalize w.drewN q = w2 at *
      go_loop [0, 1] (fun s t => s = .slice a1 k1 c1 ∧ t = .slice a2 0 c2) (fun _ _ => 0)
      case atStart => exact ⟨rfl, rfl⟩
      case round =>
        obtain ⟨rfl, rfl⟩ := hrel
        go_wp2
        go_ret
        exact ⟨_, _, _, rfl, by first | (rw [HG.out]; exact HL.out) | exact HL.out, HB.out⟩
    · have hm0 : 0 < m := by omega
      obtain ⟨rfl, _, b1, o1, rfl, hb1, g1⟩ := h2.pos hm0
      have GY := Lib.hid g1
      have GL := Lib.hid hb1
      have HY := Lib.hid hm0
      have HM := Lib.hid bm
      have HG : Hid (Nat.gcd m (n % m) = Nat.gcd n m) := by unfold Hid; rw [Nat.gcd_comm, ← Nat.gcd_rec, Nat.gcd_comm]
      clear h1 h2 hlt hp bn bm h0 hm0 hb1 g1
      generalize sgn n m = sg at *
      go_enter Tryz.func67, Tryz.ntmps67
      go_wp2_with fail
      refine HC.out.mono ?_
      rintro e w1 ⟨rfl, q, rfl⟩
      go_wp2_with fail
      have HL := Lib.hid (H1.out.below (below_drew w q))
      have HB := Lib.hid (below_drew w q)
      have gy : Hid ((w.drewN q).cell? ⟨b1, o1, none⟩ = some (.int .u64 m)) := GY.out
      have gl : Hid (b1 < (w.drewN q).heap.size) := GL.out
      generalize w.drewN q = w2 at *
      clear GY GL
      go_loop [0, 1] (fun s t => s = .slice a1 k1 c1 ∧ t = .slice (some ⟨b1, o1, none⟩) 1 c2) (fun _ _ => 0)
      case atStart => exact ⟨rfl, rfl⟩
      case round =>
        obtain ⟨rfl, rfl⟩ := hrel
        have gc := gy.out
        go_wp2_with fail
        refine (divideShort_c a1 k1 c1 n m w2 HL.out HY.out).mono ?_
        rintro e w3 ⟨a3, k3, c3, rfl, l3, b3⟩
        have B3 := Lib.hid (HB.out.trans (b3.mono HB.out.size))
        have gc3 : w3.cell? ⟨b1, o1, none⟩ = some (.int .u64 m) := by rw [b3.cell (p := ⟨b1, o1, none⟩) gl.out]; exact gy.out
        clear gc l3 b3
        have hcl := Lib.hid (fun w => commonLimb_c m (n % m) w HM.out (by have := Nat.mod_lt n HY.out; have := HM.out; omega))
        go_wp2_with fail
        refine (hcl.out _).mono ?_
        rintro e w4 ⟨rfl, q4, rfl⟩
        have B4 := Lib.hid (below_drewN B3.out q4)
        rw [HG.out]
        go_wp2
        go_ret
        exact ⟨_, 1, _, rfl, Lm.built _ _ _ HP.out HPM.out, by first | exact B4.out.alloc B4.out.size _ | exact (below_drewN B3.out q4).alloc (below_drewN B3.out q4).size _⟩

/-- A number from 0 on comes back. -/
def NumPost (n : Nat) (w : World) (e : Ending) (w' : World) : Prop := ∃ a k c, e = .returned (.agg #[.bool false, .slice a k c]) ∧ Lm w' a k n ∧ Below w.heap.size w w'
/-- A store of two cells into a block of the call's own. -/
theorem two_cells {w : World} {b : Nat} {x y u v : Value} (h0 : w.cell? ⟨b, 0, none⟩ = some u) (h1 : w.cell? ⟨b, 1, none⟩ = some v) :
    ((w.setCell ⟨b, 0, none⟩ x).setCell ⟨b, 1, none⟩ y).cell? ⟨b, 0, none⟩ = some x ∧ ((w.setCell ⟨b, 0, none⟩ x).setCell ⟨b, 1, none⟩ y).cell? ⟨b, 1, none⟩ = some y := by
  refine ⟨by rw [World.cell?_setCell_other _ _ _ _ (by simp), World.cell?_setCell_same _ _ _ h0], ?_⟩
  have e : (w.setCell ⟨b, 0, none⟩ x).cell? ⟨b, 1, none⟩ = some v := by rw [World.cell?_setCell_other _ _ _ _ (by simp)]; exact h1
  exact World.cell?_setCell_same _ _ _ e
theorem withSign_c (a : Option Addr) (k c : Nat) (w : World) :
    Calls Tryz.prog 68 #[.bool false, .slice a k c] w fun e w' => e = .returned (.agg #[.bool false, .slice a k c]) ∧ Below w.heap.size w w' := by
  go_enter Tryz.func68, Tryz.ntmps68
  go_wp2
  exact bodyPost_ret (v := .agg #[.bool false, .slice a k c]) (by simp [results, Tryz.results68, go_sem]) rfl ⟨rfl, (Below.refl _ _).alloc (Nat.le_refl _) _⟩
theorem Common_c (a1 a2 : Option Addr) (c1 c2 k1 k2 n m : Nat) (w : World) (h1 : Lm w a1 k1 n) (h2 : Lm w a2 k2 m) (hp : 0 < n ∨ 0 < m) :
    Calls Tryz.prog 49 #[.agg #[.bool false, .slice a1 k1 c1], .agg #[.bool false, .slice a2 k2 c2]] w (NumPost (Nat.gcd n m) w) := by
  have H1 := Lib.hid h1
  have H2 := Lib.hid h2
  have HP := Lib.hid hp
  clear h1 h2 hp
  go_enter Tryz.func49, Tryz.ntmps49
  go_wp2_with fail
  have hB : Hid (Below w.heap.size w (((w.alloc (.cells #[.bool false, .slice a1 k1 c1] 63)).alloc (.cells #[.bool false, .slice a2 k2 c2] 63)).alloc (.cells #[.bool false, .slice none 0 0] 63))) := (((Below.refl _ _).alloc (Nat.le_refl _) _).alloc (by simp) _).alloc (by simp; omega) _
  have r0 : Hid ((((w.alloc (.cells #[.bool false, .slice a1 k1 c1] 63)).alloc (.cells #[.bool false, .slice a2 k2 c2] 63)).alloc (.cells #[.bool false, .slice none 0 0] 63)).cell? ⟨w.heap.size + 1 + 1, 0, none⟩ = some (.bool false)) := by unfold Hid; simp [go_sem, World.cell?_alloc_past]
  have r1 : Hid ((((w.alloc (.cells #[.bool false, .slice a1 k1 c1] 63)).alloc (.cells #[.bool false, .slice a2 k2 c2] 63)).alloc (.cells #[.bool false, .slice none 0 0] 63)).cell? ⟨w.heap.size + 1 + 1, 1, none⟩ = some (.slice none 0 0)) := by unfold Hid; simp [go_sem, World.cell?_alloc_past]
  have fr : Hid (∀ o, (((w.alloc (.cells #[.bool false, .slice a1 k1 c1] 63)).alloc (.cells #[.bool false, .slice a2 k2 c2] 63)).alloc (.cells #[.bool false, .slice none 0 0] 63)).frozen? ⟨w.heap.size + 1 + 1, o, none⟩ = false) := fun o => by simp [go_sem]
  have sz : Hid ((((w.alloc (.cells #[.bool false, .slice a1 k1 c1] 63)).alloc (.cells #[.bool false, .slice a2 k2 c2] 63)).alloc (.cells #[.bool false, .slice none 0 0] 63)).heap.size = w.heap.size + 3) := by unfold Hid; simp
  generalize ((w.alloc (.cells #[.bool false, .slice a1 k1 c1] 63)).alloc (.cells #[.bool false, .slice a2 k2 c2] 63)).alloc (.cells #[.bool false, .slice none 0 0] 63) = w1 at *
  refine (common_c a1 a2 c1 c2 k1 k2 n m w1 (H1.out.below hB.out) (H2.out.below hB.out) HP.out).mono ?_
  rintro e w2 ⟨a3, k3, c3, rfl, l3, b3⟩
  have hs := sz.out
  have e0 : w2.cell? ⟨w.heap.size + 1 + 1, 0, none⟩ = some (.bool false) := by rw [b3.cell (p := ⟨w.heap.size + 1 + 1, 0, none⟩) (show w.heap.size + 1 + 1 < _ by omega)]; exact r0.out
  have e1 : w2.cell? ⟨w.heap.size + 1 + 1, 1, none⟩ = some (.slice none 0 0) := by rw [b3.cell (p := ⟨w.heap.size + 1 + 1, 1, none⟩) (show w.heap.size + 1 + 1 < _ by omega)]; exact r1.out
  have f0 : w2.frozen? ⟨w.heap.size + 1 + 1, 0, none⟩ = false := by rw [b3.frozen (p := ⟨w.heap.size + 1 + 1, 0, none⟩) (show w.heap.size + 1 + 1 < _ by omega)]; exact fr.out 0
  have f1 : w2.frozen? ⟨w.heap.size + 1 + 1, 1, none⟩ = false := by rw [b3.frozen (p := ⟨w.heap.size + 1 + 1, 1, none⟩) (show w.heap.size + 1 + 1 < _ by omega)]; exact fr.out 1
  have bel : Hid (Below w.heap.size w ((w2.setCell ⟨w.heap.size + 1 + 1, 0, none⟩ (.bool false)).setCell ⟨w.heap.size + 1 + 1, 1, none⟩ (.slice a3 k3 c3))) :=
    ((hB.out.trans (b3.mono (by omega))).setCell (p := ⟨w.heap.size + 1 + 1, 0, none⟩) (by show w.heap.size ≤ w.heap.size + 1 + 1; omega) _).setCell (p := ⟨w.heap.size + 1 + 1, 1, none⟩) (by show w.heap.size ≤ w.heap.size + 1 + 1; omega) _
  have hL : Hid (Lm ((w2.setCell ⟨w.heap.size + 1 + 1, 0, none⟩ (.bool false)).setCell ⟨w.heap.size + 1 + 1, 1, none⟩ (.slice a3 k3 c3)) a3 k3 (Nat.gcd n m)) := by
    rcases l3 with h | ⟨h1, h2, h3, b, off, e, hl, hc⟩
    · exact .inl h
    · refine .inr ⟨h1, h2, h3, b, off, e, by simpa using hl, ?_⟩
      have hne : b ≠ w.heap.size + 1 + 1 ∨ off ≠ 0 := by
        by_cases hb : b = w.heap.size + 1 + 1
        · right; intro ho; subst hb ho; rw [e0] at hc; cases hc
        · exact .inl hb
      have hne1 : b ≠ w.heap.size + 1 + 1 ∨ off ≠ 1 := by
        by_cases hb : b = w.heap.size + 1 + 1
        · right; intro ho; subst hb ho; rw [e1] at hc; cases hc
        · exact .inl hb
      rw [World.cell?_setCell_other _ _ _ _ (by intro e; injection e with q1 q2; rcases hne1 with h | h <;> omega), World.cell?_setCell_other _ _ _ _ (by intro e; injection e with q1 q2; rcases hne with h | h <;> omega)]
      exact hc
  obtain ⟨c0, c1'⟩ := two_cells (x := .bool false) (y := .slice a3 k3 c3) e0 e1
  have C0 := Lib.hid c0
  have C1 := Lib.hid c1'
  clear c0 c1' hB r0 r1 fr sz hs b3 l3
  go_wp2
  have c0 := C0.out
  have c1' := C1.out
  generalize (w2.setCell ⟨w.heap.size + 1 + 1, 0, none⟩ (.bool false)).setCell ⟨w.heap.size + 1 + 1, 1, none⟩ (.slice a3 k3 c3) = W9 at *
  exact bodyPost_ret (v := .agg #[.bool false, .slice a3 k3 c3]) (by simp [results, Tryz.results49, go_sem, c0, c1']) rfl ⟨a3, k3, c3, rfl, hL.out, bel.out⟩
end Go.Proofs.YtecbkfmdpgkdiaaGreatDoor
