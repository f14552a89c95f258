/-
  Numbers of any size: differences.
-/
import Derived.Test.YtaibpppobblnoaaDoorWhDiff
namespace Go.Proofs.YtaibpppobblnoaaDoor
open Go.RowKit

/-- A row with zeros behind it. -/
def ext (f : Nat → Nat) (k : Nat) : Nat → Nat := fun j => if j < k then f j else 0
theorem ext_in {f : Nat → Nat} {k j : Nat} (h : j < k) : ext f k j = f j := by unfold ext; rw [if_pos h]
theorem ext_out {f : Nat → Nat} {k j : Nat} (h : k ≤ j) : ext f k j = 0 := by unfold ext; rw [if_neg (by omega)]
theorem S_ext (f : Nat → Nat) {k m : Nat} (h : k ≤ m) : S (ext f k) m = S f k := by
  obtain ⟨d, rfl⟩ := Nat.exists_eq_add_of_le h
  have e : S (ext f k) k = S f k := S_congr (fun j hj => ext_in hj)
  rw [S_at, S_zeros (f := from_ (ext f k) k) (fun j _ => by unfold from_; exact ext_out (by omega)), e]
  omega
set_option maxRecDepth 100000 in
set_option maxHeartbeats 4000000 in
theorem difference_c (a1 a2 : Option Addr) (k1 k2 c1 c2 n1 n2 : Nat) (w : World) (h1 : Nm w a1 k1 c1 n1) (h2 : Nm w a2 k2 c2 n2) (hle : n2 ≤ n1) :
    Calls Tryd.prog 44 #[.slice a1 k1 c1, .slice a2 k2 c2] w (NmPost (n1 - n2) w) := by
  have hk12 : k2 ≤ k1 := by
    refine h2.len ?_
    have := h1.lt
    omega
  obtain ⟨f1, r1, hkc1, hcc1, t1, s1, p1⟩ := h1
  obtain ⟨f2, r2, hkc2, hcc2, t2, s2, p2⟩ := h2
  have hk1 := r1.1
  have HC := Lib.hid (clone_c a1 k1 c1 f1 w r1 p1)
  have S1 := Lib.hid s1
  have S2 : Hid (S (ext f2 k2) k1 = n2) := by unfold Hid; rw [S_ext f2 hk12, s2]
  have L1 := Lib.hid r1.2.1
  have H2 := Lib.hid r2
  clear r1 r2 s1 s2 t1 t2 p1 p2
  go_enter Tryd.func44, Tryd.ntmps44
  go_wp2_with fail
  refine HC.out.mono ?_
  rintro e w2 ⟨a, c, rfl, hkc, hcc, hpa, hB, hg⟩
  have PA := Lib.hid hpa
  have BL := Lib.hid hB
  have GG := Lib.hid hg
  clear hpa hB hg HC
  go_wp2_with fail
  rcases Nat.eq_zero_or_pos k1 with h0 | h0
  · subst h0
    have e0 : Hid (n1 - n2 = 0) := by unfold Hid; rw [← S1.out, S_zero]; omega
    go_loopw [6, 13] (fun v i wr => v = .int .u64 0 ∧ i = .int .i64 0 ∧ Hid (wr = w2)) (fun _ _ _ => 0)
    case atStart => exact ⟨rfl, rfl, rfl⟩
    case round =>
      obtain ⟨rfl, rfl, hw⟩ := hrel
      have hw := hw.out
      subst hw
      go_wp2_with fail
      refine (trim_c a 0 c f1 wr (Rl.nil _ _ _) (by omega) hcc PA.out).mono ?_
      rintro e w5 ⟨a', k', c', rfl, hN, b5⟩
      rw [S_zero, ← e0.out] at hN
      have R := Lib.hid (show NmPost (n1 - n2) w (.returned (.slice a' k' c')) w5 from ⟨a', k', c', rfl, hN, BL.out.trans (b5.mono BL.out.size)⟩)
      clear hN b5
      go_wp2
      go_ret
      exact R.out
  · obtain ⟨g, rfl, hg, hbf⟩ := GG.out h0
    have HG := Lib.hid hg
    have B0 := Lib.hid hbf
    clear hg hbf GG PA
    go_loopw [6, 13] (fun v i wr => ∃ (j y : Nat) (F : Nat → Nat), j ≤ k1 ∧ i = .int .i64 j ∧ v = .int .u64 y ∧ y ≤ 1 ∧ Hid (Bf wr g k1 F ∧ Below w.heap.size w wr ∧ (∀ i, j ≤ i → i < k1 → F i = f1 i) ∧ S F j + S (ext f2 k2) j = S f1 j + y * bp j)) (fun _ i _ => k1 - (intOf i).toNat)
    case atStart => exact ⟨0, 0, f1, Nat.zero_le _, rfl, rfl, by omega, B0.out, BL.out, fun _ _ _ => rfl, by simp only [S_zero]; omega⟩
    case round =>
      obtain ⟨j, y, F, hj, rfl, rfl, hy, hR⟩ := hrel
      by_cases hlt : j < k1
      · have hlt' : (j : Int) < (k1 : Int) := by omega
        have hBj := hR.out.1.2.2 j hlt
        have hz := L1.out j hlt
        have ez : F j = f1 j := hR.out.2.2.1 j (Nat.le_refl _) hlt
        have hc2 := hBj.1
        have hf2 := hBj.2
        rw [ez] at hc2
        by_cases hj2 : j < k2
        · obtain ⟨b, off, rfl, hbl, hc1⟩ := (H2.out.below hR.out.2.1).at_ hj2
          have hx := H2.out.2.1 j hj2
          have hj2' : (j : Int) < (k2 : Int) := by omega
          have ex : ext f2 k2 j = f2 j := ext_in hj2
          rw [← ex] at hc1 hx
          clear ex
          obtain ⟨s, d, hsub, hb1, hb2, hb3⟩ := subs (f1 j) (ext f2 k2 j) y rfl rfl rfl hz hx hy
          have hstep : S (put F j s) (j + 1) + S (ext f2 k2) (j + 1) = S f1 (j + 1) + d * bp (j + 1) := by
            rw [S_put, bp_succ, S_succ, S_succ]
            exact step_sub hR.out.2.2.2 hb1
          have NX : Hid (Bf (wr.setCell ⟨g, j, none⟩ (.int .u64 s)) g k1 (put F j s) ∧ Below w.heap.size w (wr.setCell ⟨g, j, none⟩ (.int .u64 s)) ∧ (∀ i, j + 1 ≤ i → i < k1 → put F j s i = f1 i) ∧ S (put F j s) (j + 1) + S (ext f2 k2) (j + 1) = S f1 (j + 1) + d * bp (j + 1)) := by
            refine ⟨hR.out.1.put (by omega) hb2, hR.out.2.1.setCell (p := ⟨g, j, none⟩) HG.out _, fun i hi hi2 => ?_, hstep⟩
            rw [put_ne (by omega)]; exact hR.out.2.2.1 i (by omega) hi2
          clear hBj hb1 hstep ez
          generalize ext f2 k2 j = x at *
          generalize f1 j = z at *
          go_wp2_with (rw [hsub])
          go_roundw
          case rel => exact ⟨j + 1, d, put F j s, by omega, by go_num, rfl, hb3, NX.out⟩
          case measure => simp [intOf]; omega
        · have hx : ext f2 k2 j < 18446744073709551616 := by rw [ext_out (by omega)]; decide
          have hj2' : ¬ (j : Int) < (k2 : Int) := by omega
          have ex : ext f2 k2 j = 0 := ext_out (by omega)
          obtain ⟨s, d, hsub, hb1, hb2, hb3⟩ := subs (f1 j) (ext f2 k2 j) y rfl (by rw [ex]; rfl : (0 : Int) = ((ext f2 k2 j : Nat) : Int)) rfl hz hx hy
          have hstep : S (put F j s) (j + 1) + S (ext f2 k2) (j + 1) = S f1 (j + 1) + d * bp (j + 1) := by
            rw [S_put, bp_succ, S_succ, S_succ]
            exact step_sub hR.out.2.2.2 hb1
          have NX : Hid (Bf (wr.setCell ⟨g, j, none⟩ (.int .u64 s)) g k1 (put F j s) ∧ Below w.heap.size w (wr.setCell ⟨g, j, none⟩ (.int .u64 s)) ∧ (∀ i, j + 1 ≤ i → i < k1 → put F j s i = f1 i) ∧ S (put F j s) (j + 1) + S (ext f2 k2) (j + 1) = S f1 (j + 1) + d * bp (j + 1)) := by
            refine ⟨hR.out.1.put (by omega) hb2, hR.out.2.1.setCell (p := ⟨g, j, none⟩) HG.out _, fun i hi hi2 => ?_, hstep⟩
            rw [put_ne (by omega)]; exact hR.out.2.2.1 i (by omega) hi2
          clear hBj hb1 hstep ez
          clear ex hx
          generalize f1 j = z at *
          go_wp2_with (rw [hsub])
          go_roundw
          case rel => exact ⟨j + 1, d, put F j s, by omega, by go_num, rfl, hb3, NX.out⟩
          case measure => simp [intOf]; omega
      · obtain rfl : j = k1 := by omega
        clear hlt
        have E : Hid (S F j = n1 - n2) := by
          have h := hR.out.2.2.2
          have hl := S_lt hR.out.1.2.1
          rw [S1.out, S2.out] at h
          unfold Hid
          rcases Nat.eq_zero_or_pos y with e | e
          · subst e; omega
          · obtain rfl : y = 1 := by omega
            rw [Nat.one_mul] at h
            omega
        have BB := Lib.hid hR.out.1
        have BL2 := Lib.hid hR.out.2.1
        clear hR
        go_wp2_with fail
        refine (trim_c (some ⟨g, 0, none⟩) j c F wr (BB.out.rl0 (Nat.le_refl _) hk1) hkc hcc (Pl.some_ _ _)).mono ?_
        rintro e w5 ⟨a', k', c', rfl, hN, b5⟩
        rw [E.out] at hN
        have R := Lib.hid (show NmPost (n1 - n2) w (.returned (.slice a' k' c')) w5 from ⟨a', k', c', rfl, hN, BL2.out.trans (b5.mono BL2.out.size)⟩)
        clear hN b5
        go_wp2
        go_ret
        exact R.out
end Go.Proofs.YtaibpppobblnoaaDoor
