/-
  Numbers of any size: their order.
-/
import Derived.Test.YtaibpppobblnoaaDoorWhAdd
namespace Go.Proofs.YtaibpppobblnoaaDoor
open Go.RowKit

/-- The order of two numbers. -/
def sgn (x y : Nat) : Int := if x < y then -1 else if y < x then 1 else 0
theorem sgn_lt {x y : Nat} (h : x < y) : sgn x y = -1 := by unfold sgn; rw [if_pos h]
theorem sgn_gt {x y : Nat} (h : y < x) : sgn x y = 1 := by unfold sgn; rw [if_neg (by omega), if_pos h]
theorem sgn_eq (x : Nat) : sgn x x = 0 := by unfold sgn; rw [if_neg (by omega), if_neg (by omega)]
theorem drewN_drewN (w : World) (a b : Nat) : (w.drewN a).drewN b = w.drewN (a + b) := by simp [World.drewN, Nat.add_assoc]
theorem isNaN_c (x : Int) (w : World) : Calls Tryd.prog 73 #[.int .u64 x] w fun e w' => e = .returned (.bool false) ∧ w = w' := by
  go_enter Tryd.func73, Tryd.ntmps73
  go_wp2
  go_ret
  exact ⟨rfl, rfl⟩
theorem cmpU_c (x y : Nat) (w : World) : Calls Tryd.prog 61 #[.int .u64 x, .int .u64 y] w fun e w' => e = .returned (.int .i64 (sgn x y)) ∧ w = w' := by
  rcases Nat.lt_trichotomy x y with h | h | h
  · have e := sgn_lt h
    have d : decide (x < y) = true := by simp; omega
    rw [e]
    clear e
    go_enter Tryd.func61, Tryd.ntmps61
    go_wp2_with (go_at_call 73; refine (isNaN_c _ _).mono ?_; rintro e w' ⟨rfl, rfl⟩)
    go_ret
    exact ⟨rfl, rfl⟩
  · subst h
    rw [sgn_eq]
    go_enter Tryd.func61, Tryd.ntmps61
    go_wp2_with (go_at_call 73; refine (isNaN_c _ _).mono ?_; rintro e w' ⟨rfl, rfl⟩)
    go_ret
    exact ⟨rfl, rfl⟩
  · have e := sgn_gt h
    have d : decide (x < y) = false := by simp; omega
    have d2 : decide (y < x) = true := by simp; omega
    rw [e]
    clear e
    go_enter Tryd.func61, Tryd.ntmps61
    go_wp2_with (go_at_call 73; refine (isNaN_c _ _).mono ?_; rintro e w' ⟨rfl, rfl⟩)
    go_ret
    exact ⟨rfl, rfl⟩
set_option maxRecDepth 100000 in
set_option maxHeartbeats 2000000 in
theorem compare_c (a1 a2 : Option Addr) (k1 k2 c1 c2 n1 n2 : Nat) (w : World) (h1 : Nm w a1 k1 c1 n1) (h2 : Nm w a2 k2 c2 n2) :
    Calls Tryd.prog 42 #[.slice a1 k1 c1, .slice a2 k2 c2] w fun e w' => e = .returned (.int .i64 (sgn n1 n2)) ∧ ∃ q, w' = w.drewN q := by
  obtain ⟨f, r1, _, _, t1, s1, _⟩ := h1
  obtain ⟨g, r2, _, _, t2, s2, _⟩ := h2
  have hk1 := r1.1
  have hk2 := r2.1
  by_cases hk : k1 = k2
  · subst hk
    have H1 := Lib.hid r1
    have H2 := Lib.hid r2
    have S1 := Lib.hid s1
    have S2 := Lib.hid s2
    clear r1 r2 t1 t2 s1 s2
    go_enter Tryd.func42, Tryd.ntmps42
    go_wp2
    go_loopw [5] (fun i wr => ∃ m : Nat, m ≤ k1 ∧ i = .int .i64 ((m : Int) - 1) ∧ Hid ((∀ j, m ≤ j → j < k1 → f j = g j) ∧ ∃ q, wr = w.drewN q)) (fun i _ => (intOf i + 1).toNat)
    case atStart => exact ⟨k1, Nat.le_refl _, rfl, fun j h1 h2 => by omega, 0, rfl⟩
    case round =>
      obtain ⟨m, hm, rfl, hR⟩ := hrel
      rcases Nat.eq_zero_or_pos m with e | e
      · subst e
        have E : Hid (n1 = n2) := by unfold Hid; rw [← S1.out, ← S2.out]; exact S_congr (fun j hj => hR.out.1 j (Nat.zero_le _) hj)
        go_wp2
        go_ret
        exact ⟨ret_int (by rw [E.out, sgn_eq]), hR.out.2⟩
      · obtain ⟨p, rfl⟩ : ∃ p, m = p + 1 := ⟨m - 1, by omega⟩
        obtain ⟨q, hq⟩ := hR.out.2
        have HB : Hid (Below w.heap.size w wr) := by unfold Hid; rw [hq]; exact bel_drewN _ _
        obtain ⟨b1, o1, rfl, _, g1⟩ := (H1.out.below HB.out).at_ (show p < k1 by omega)
        obtain ⟨b2, o2, rfl, _, g2⟩ := (H2.out.below HB.out).at_ (show p < k1 by omega)
        have hp : (p : Int) < (k1 : Int) := by omega
        have ei : ((p + 1 : Nat) : Int) - 1 = (p : Int) := by omega
        rw [ei]
        have HQ := Lib.hid hq
        clear hq
        by_cases hE : f p = g p
        · have NE : Hid (∀ j, p ≤ j → j < k1 → f j = g j) := fun j h1 h2 => by
            by_cases e : j = p
            · rw [e, hE]
            · exact hR.out.1 j (by omega) h2
          rw [← hE] at g2
          generalize f p = x at *
          go_wp2_with fail
          go_quiet (fail)
          have NX : Hid ((∀ j, p ≤ j → j < k1 → f j = g j) ∧ ∃ q, wr.drewN nq = w.drewN q) := ⟨NE.out, q + nq, by rw [HQ.out, drewN_drewN]⟩
          clear g1 g2
          go_wp2
          go_roundw
          case rel => exact ⟨p, by omega, by go_num, NX.out⟩
          case measure => simp [intOf]
        · have E : Hid (sgn n1 n2 = sgn (f p) (g p)) := by
            unfold Hid
            rw [← S1.out, ← S2.out]
            rcases Nat.lt_trichotomy (f p) (g p) with l | l | l
            · rw [sgn_lt l, sgn_lt (cmp_lt H1.out.2.1 (by omega) l (fun j h1 h2 => hR.out.1 j (by omega) h2))]
            · exact absurd l hE
            · rw [sgn_gt l, sgn_gt (cmp_lt H2.out.2.1 (by omega) l (fun j h1 h2 => (hR.out.1 j (by omega) h2).symm))]
          have hb : ((f p : Int) == (g p : Int)) = false := by rw [beq_eq_false_iff_ne]; omega
          have hb' : (f p == g p) = false := by rw [beq_eq_false_iff_ne]; exact hE
          have hc := Lib.hid (fun w => cmpU_c (f p) (g p) w)
          generalize f p = x at *
          generalize g p = y at *
          clear hE
          go_wp2_with fail
          go_quiet (fail)
          go_wp2_with fail
          generalize hw1 : wr.drewN _ = w1
          have g1' : w1.cell? ⟨b1, o1 + p, none⟩ = some (.int .u64 x) := by rw [← hw1]; exact g1
          have g2' : w1.cell? ⟨b2, o2 + p, none⟩ = some (.int .u64 y) := by rw [← hw1]; exact g2
          have HW := Lib.hid hw1
          clear hw1 g1 g2
          go_quiet ((go_at_call 61; exact Calls.quiet_of_same ((hc.out _).mono fun e w' h => ⟨h.1, h.2.symm⟩)))
          go_wp2
          go_ret
          exact ⟨ret_int E.out.symm, by rw [← HW.out, HQ.out]; exact ⟨_, by rw [drewN_drewN, drewN_drewN]⟩⟩
  · have hne : ((k1 : Int) == (k2 : Int)) = false := by rw [beq_eq_false_iff_ne]; omega
    have hne' : (k1 == k2) = false := by rw [beq_eq_false_iff_ne]; exact hk
    have E : Hid (sgn n1 n2 = Lib.compareInt (k1 : Int) k2) := by
      unfold Hid
      rw [← s1, ← s2]
      rcases Nat.lt_or_ge k1 k2 with l | l
      · rw [sgn_lt (len_lt r1.2.1 t2 l)]
        unfold Lib.compareInt
        simp; omega
      · rw [sgn_gt (len_lt r2.2.1 t1 (by omega))]
        unfold Lib.compareInt
        simp; omega
    clear r1 r2 t1 t2 s1 s2 hk
    go_enter Tryd.func42, Tryd.ntmps42
    go_wp2_with (go_at_call 60; refine (Tryd.cmp_Compare_int _ _ _).mono ?_; rintro e w' ⟨rfl, rfl⟩)
    go_ret
    exact ⟨ret_int E.out.symm, 0, rfl⟩
end Go.Proofs.YtaibpppobblnoaaDoor
