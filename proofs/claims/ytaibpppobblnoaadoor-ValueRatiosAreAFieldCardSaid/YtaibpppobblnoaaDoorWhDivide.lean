/-
  Numbers of any size: division.
-/
import Derived.Test.YtaibpppobblnoaaDoorWhLong
namespace Go.Proofs.YtaibpppobblnoaaDoor
open Go.RowKit

theorem sgn_neg (x y : Nat) : decide (sgn x y < 0) = decide (x < y) := by
  rcases Nat.lt_trichotomy x y with l | l | l
  · rw [sgn_lt l]; simp [l]
  · subst l; rw [sgn_eq]; simp
  · rw [sgn_gt l]
    have h : ¬ x < y := by omega
    simp [h]
/-- A slice that was built of one limb. -/
theorem built_one (w : World) (n : Nat) (hn : n < 18446744073709551616) : Rl (w.alloc (.cells #[.int .u64 n] 59)) (some ⟨w.heap.size, 0, none⟩) 1 (fun _ => n) :=
  ⟨by omega, fun _ _ => hn, fun _ => ⟨w.heap.size, 0, rfl, by simp, fun j hj => by
    obtain rfl : j = 0 := by omega
    rw [World.cell?_alloc_new]; rfl⟩⟩
set_option maxRecDepth 100000 in
set_option maxHeartbeats 2000000 in
theorem divide_c (a1 a2 : Option Addr) (k1 k2 c1 c2 n1 n2 : Nat) (w : World) (h1 : Nm w a1 k1 c1 n1) (h2 : Nm w a2 k2 c2 n2) (h0 : 0 < n2) (hn1 : n1 < bp 4000) :
    Calls Tryd.prog 52 #[.slice a1 k1 c1, .slice a2 k2 c2] w (DivPost n1 n2 w) := by
  have hk1 := h1.len hn1
  have HC := Lib.hid (compare_c a1 a2 k1 k2 c1 c2 n1 n2 w h1 h2)
  have HS := Lib.hid (sgn_neg n1 n2)
  by_cases hlt : n1 < n2
  · have hd : decide (sgn n1 n2 < 0) = true := by rw [HS.out]; simp [hlt]
    have R := Lib.hid (fun q => (show DivPost n1 n2 w (.returned (.tuple #[.slice none 0 0, .slice a1 k1 c1])) (w.drewN q) from
      ⟨_, _, _, _, _, _, rfl, by rw [Nat.div_eq_of_lt hlt]; exact Nm.zero _ _ _ (by omega) Pl.none_, by rw [Nat.mod_eq_of_lt hlt]; exact h1.below (bel_drewN _ _), bel_drewN _ _⟩))
    clear h1 h2 hlt HS
    generalize sgn n1 n2 = sg at *
    go_enter Tryd.func52, Tryd.ntmps52
    go_wp2_with fail
    refine HC.out.mono ?_
    rintro e w1 ⟨rfl, q, rfl⟩
    go_wp2
    go_ret2
    exact R.out q
  · have hd : decide (sgn n1 n2 < 0) = false := by rw [HS.out]; simp [hlt]
    have hk2 := h2.one h0
    have hk12 : k2 ≤ k1 := by
      rcases Nat.lt_or_ge k1 k2 with l | l
      · have e1 := h1.lt
        have e2 := h2.pos (by omega)
        have e3 := bp_mono (show k1 ≤ k2 - 1 by omega)
        omega
      · exact l
    have H1 := Lib.hid h1
    have H2 := Lib.hid h2
    clear HS
    by_cases hk : k2 = 1
    · subst hk
      obtain ⟨f2, r2, _, _, t2, s2, p2⟩ := h2
      obtain ⟨b2, o2, rfl, hb2, hc2⟩ := r2.at_ (show 0 < 1 by omega)
      rw [S_one] at s2
      have hlim := r2.2.1 0 (by omega)
      rw [s2] at hc2 hlim
      have GB := Lib.hid hb2
      have GC := Lib.hid hc2
      clear r2 t2 s2 p2 h1 hlt hk2 hk12 hb2 hc2
      generalize sgn n1 n2 = sg at *
      have H0 := Lib.hid h0
      clear h0
      go_enter Tryd.func52, Tryd.ntmps52
      go_wp2_with fail
      refine HC.out.mono ?_
      rintro e w1 ⟨rfl, q, rfl⟩
      have hc2' : (w.drewN q).cell? ⟨b2, o2 + 0, none⟩ = some (.int .u64 n2) := GC.out
      rw [Nat.add_zero] at hc2'
      have L1 := Lib.hid (H1.out.below (bel_drewN w q))
      have B1 := Lib.hid (bel_drewN w q)
      generalize w.drewN q = w1 at *
      clear H1 H2 HC GB GC
      go_wp2_with fail
      refine (divideShort_c a1 k1 c1 n1 n2 w1 L1.out H0.out hlim).mono ?_
      rintro e w3 ⟨a3, k3, c3, r, rfl, hr, l3, b3⟩
      have hrb : r < 18446744073709551616 := by rw [hr]; have := Nat.mod_lt n1 H0.out; omega
      have HR := Lib.hid hr
      have L3 := Lib.hid l3
      have B3 := Lib.hid (B1.out.trans (b3.mono B1.out.size))
      clear l3 b3 hr
      go_wp2_with fail
      have hL : Hid (Nm (w3.alloc (.cells #[.int .u64 r] 59)) a3 k3 c3 (n1 / n2)) := L3.out.below (bel_one _ _)
      have hB : Hid (Below w.heap.size w (w3.alloc (.cells #[.int .u64 r] 59))) := B3.out.alloc B3.out.size _
      have hT := Lib.hid (trim_c (some ⟨w3.heap.size, 0, none⟩) 1 1 (fun _ => r) (w3.alloc (.cells #[.int .u64 r] 59)) (built_one w3 r hrb) (by omega) (by omega) (Pl.some_ _ _))
      refine hT.out.mono ?_
      rintro e w4 ⟨a4, k4, c4, rfl, l4, b4⟩
      rw [S_one, HR.out] at l4
      have R : Hid (DivPost n1 n2 w (.returned (.tuple #[.slice a3 k3 c3, .slice a4 k4 c4])) w4) := ⟨_, _, _, _, _, _, rfl, hL.out.below b4, l4, hB.out.trans (b4.mono hB.out.size)⟩
      clear l4 b4
      go_wp2
      go_ret2
      exact R.out
    · obtain ⟨m, rfl⟩ : ∃ m, k2 = m + 1 := ⟨k2 - 1, by omega⟩
      have hne : ((m : Int) + 1 == 1) = false := by rw [beq_eq_false_iff_ne]; omega
      have hne' : (m == 0) = false := by rw [beq_eq_false_iff_ne]; omega
      have HD := Lib.hid (fun q => divideLong_c a1 a2 k1 m c1 c2 n1 n2 (w.drewN q) (h1.below (bel_drewN w q)) (h2.below (bel_drewN w q)) hk12 (by omega))
      clear h1 h2 hlt hk
      generalize sgn n1 n2 = sg at *
      go_enter Tryd.func52, Tryd.ntmps52
      go_wp2_with fail
      refine HC.out.mono ?_
      rintro e w1 ⟨rfl, q, rfl⟩
      go_wp2_with fail
      (with_reducible refine (HD.out q).mono ?_)
      rintro e w4 ⟨qa, qk, qc, ra, rk, rc, rfl, l1, l2, b4⟩
      have R : Hid (DivPost n1 n2 w (.returned (.tuple #[.slice qa qk qc, .slice ra rk rc])) w4) := ⟨_, _, _, _, _, _, rfl, l1, l2, (bel_drewN w q).trans b4⟩
      clear l1 l2 b4
      go_wp2
      go_ret2
      exact R.out
end Go.Proofs.YtaibpppobblnoaaDoor
