/-
  The reference's exact fractions: the steps of its long division (give, take, guess).
  The reference's exact fractions: a digit of the quotient, guessed from the highest digits.
  The reference's exact fractions: the arithmetic of its long division.
  The reference's exact fractions: the long division.
-/
import Derived.Test.YtchdfekajjeflaaGreatDoorM15
namespace Go.Proofs.YtchdfekajjeflaaGreatDoor
open Go.RowKit

theorem Rj.grown {W W' : World} {a : Option Addr} {k : Nat} {f : Nat → Nat} {g : Nat} (h : Rj W a k f) (hg : W.grownBy W' (some g)) (hne : Apart a k g) : Rj W' a k f := by
  refine ⟨h.1, h.2.1, fun h0 => ?_⟩
  obtain ⟨b, off, e, hl, hc⟩ := h.2.2 h0
  refine ⟨b, off, e, Nat.lt_of_lt_of_le hl hg.size, fun j hj => ?_⟩
  rw [World.cell?_of_block (a := ⟨b, off + j, none⟩) (hg.block b hl (fun e2 => hne h0 b off e (by injection e2)))]
  exact hc j hj
theorem grown_put {a w : World} {g i : Nat} {v : Value} (h : a.grownBy w (some g)) : a.grownBy (w.setCell ⟨g, i, none⟩ v) (some g) := by
  refine h.trans ⟨rfl, rfl, rfl, by simp, fun k hk hne => ?_⟩
  exact Below.heap_setCell _ _ _ _ (fun e => hne (by rw [e]))
/-- What a function that changes a window of digits leaves: all else is as it was. -/
structure Wt (w : World) (g K o m : Nat) (F F' : Nat → Nat) (w' : World) : Prop where
  bf : Bt w' g K F'
  out : ∀ j, j < o ∨ o + m ≤ j → F' j = F j
  grw : w.grownBy w' (some g)
theorem Wt.nil {w : World} {g K o : Nat} {F : Nat → Nat} (h : Bt w g K F) : Wt w g K o 0 F F w := ⟨h, fun _ _ => rfl, World.grownBy.refl _ _⟩
theorem Wt.put {w wr : World} {g K o p x : Nat} {F F' : Nat → Nat} (h : Wt w g K o p F F' wr) (hK : o + p < K) (hx : x < 1000000000) : Wt w g K o (p + 1) F (put F' (o + p) x) (wr.setCell ⟨g, p + o, none⟩ (.int .i64 x)) := by
  rw [Nat.add_comm p o]
  exact ⟨h.bf.put hK hx, fun i hi => by rw [put_ne (by omega)]; exact h.out i (by omega), grown_put h.grw⟩
def GvP (w : World) (g K o n : Nat) (F f2 : Nat → Nat) (e : Ending) (w' : World) : Prop :=
  ∃ (F' : Nat → Nat) (y : Nat), y ≤ 1 ∧ e = .returned (.tuple #[]) ∧ Wt w g K o (n + 1) F F' w' ∧ Tn (from_ F' o) (n + 1) + y * tp (n + 1) = Tn (from_ F o) (n + 1) + Tn f2 n
set_option maxRecDepth 100000 in
set_option maxHeartbeats 4000000 in
theorem give_c (g K cK o n cy : Nat) (ay : Option Addr) (F f2 : Nat → Nat) (w : World) (hB : Bt w g K F) (hy : Rj w ay n f2) (hA : Apart ay n g) (hK : o + n + 1 ≤ K) (hK9 : K ≤ 100000) :
    Calls Tryz.prog 79 #[.slice (some ⟨g, 0, none⟩) K cK, .slice ay n cy, .int .i64 (o : Nat)] w (GvP w g K o n F f2) := by
  have HB := Lib.hid hB
  have HY := Lib.hid hy
  have HA := Lib.hid hA
  clear hB hy hA
  go_enter Tryz.func79, Tryz.ntmps79
  go_wp2
  go_loopw [6, 7] (fun c i wr => ∃ (p y : Nat) (F' : Nat → Nat), p ≤ n + 1 ∧ y ≤ 1 ∧ c = .int .i64 y ∧ i = .int .i64 p ∧ Hid (Wt w g K o p F F' wr ∧ Tn (from_ F' o) p + y * tp p = Tn (from_ F o) p + Tn (xt f2 n) p)) (fun _ i _ => n + 1 - (intOf i).toNat)
  case atStart => exact ⟨0, 0, F, Nat.zero_le _, by omega, rfl, rfl, Wt.nil HB.out, by simp [Tn_zero]⟩
  case round =>
    obtain ⟨p, y, F', hp, hy, rfl, rfl, hR⟩ := hrel
    by_cases hlt : p < n + 1
    · have t1 : (p : Int) ≤ (n : Int) := by omega
      have hBp := hR.out.1.bf.2.2 (o + p) (by omega)
      have dz := hR.out.1.bf.2.1 (o + p) (by omega)
      rw [hR.out.1.out (o + p) (.inr (Nat.le_refl _))] at hBp dz
      obtain ⟨z, hz⟩ : ∃ z, F (o + p) = z := ⟨_, rfl⟩
      rw [hz, Nat.add_comm o p] at hBp
      rw [hz] at dz
      have hb := hBp.1
      have hf := hBp.2
      have HZ := Lib.hid hz
      have tK : (p : Int) + (o : Int) < (K : Int) := by omega
      clear hz hBp
      by_cases l2 : p < n
      · have t2 : (p : Int) < (n : Int) := by omega
        obtain ⟨b2, o2, rfl, _, g2⟩ := (HY.out.grown hR.out.1.grw HA.out).at_ l2
        have d2 := HY.out.2.1 p l2
        have EX : Hid (xt f2 n p = f2 p) := ext_lt l2
        generalize f2 p = x2 at g2 d2 EX
        obtain ⟨s, hs⟩ : ∃ s, z + y + x2 = s := ⟨_, rfl⟩
        obtain ⟨s0, hs0⟩ : ∃ s0, z + y = s0 := ⟨_, rfl⟩
        have e0 : (z : Int) + (y : Int) = (s0 : Int) := by omega
        have e00 : (s0 : Int) + (x2 : Int) = (s : Int) := by omega
        have hs09 : s0 < 2000000000 := by omega
        obtain ⟨q, hq⟩ : ∃ q, s / 1000000000 = q := ⟨_, rfl⟩
        obtain ⟨r, hr⟩ : ∃ r, s % 1000000000 = r := ⟨_, rfl⟩
        have e1 : (s : Int).tdiv 1000000000 = (q : Int) := by rw [Int.tdiv_eq_ediv_of_nonneg (by omega)]; omega
        have e2 : (s : Int).tmod 1000000000 = (r : Int) := by rw [Int.tmod_eq_emod_of_nonneg (by omega)]; omega
        have hq9 : q ≤ 1 := by omega
        have hr9 : r < 1000000000 := by omega
        have hs9 : s < 3000000000 := by omega
        have HS : Hid (F (o + p) + xt f2 n p + y = r + q * 1000000000) := by unfold Hid; rw [EX.out, HZ.out]; omega
        have NX : Hid (Wt w g K o (p + 1) F (put F' (o + p) r) (wr.setCell ⟨g, p + o, none⟩ (.int .i64 r)) ∧ Tn (from_ (put F' (o + p) r) o) (p + 1) + q * tp (p + 1) = Tn (from_ F o) (p + 1) + Tn (xt f2 n) (p + 1)) := by
          refine ⟨hR.out.1.put (by omega) hr9, ?_⟩
          rw [from_putT, Tn_put, tp_succ, Tn_succ, Tn_succ]
          exact dstep_add hR.out.2 HS.out
        clear hs hs0 hq hr hR EX HZ
        go_wp2
        go_roundw
        case rel => exact ⟨p + 1, q, put F' (o + p) r, by omega, hq9, by go_num, by go_num, NX.out⟩
        case measure => first | (simp [intOf]; done) | (simp [intOf]; omega)
      · obtain rfl : p = n := by omega
        have t2 : ¬ (p : Int) < (p : Int) := by omega
        have EX : Hid (xt f2 p p = 0) := ext_ge (Nat.le_refl _)
        obtain ⟨s, hs⟩ : ∃ s, z + y = s := ⟨_, rfl⟩
        have e0 : (z : Int) + (y : Int) = (s : Int) := by omega
        obtain ⟨q, hq⟩ : ∃ q, s / 1000000000 = q := ⟨_, rfl⟩
        obtain ⟨r, hr⟩ : ∃ r, s % 1000000000 = r := ⟨_, rfl⟩
        have e1 : (s : Int).tdiv 1000000000 = (q : Int) := by rw [Int.tdiv_eq_ediv_of_nonneg (by omega)]; omega
        have e2 : (s : Int).tmod 1000000000 = (r : Int) := by rw [Int.tmod_eq_emod_of_nonneg (by omega)]; omega
        have hq9 : q ≤ 1 := by omega
        have hr9 : r < 1000000000 := by omega
        have hs9 : s < 3000000000 := by omega
        have HS : Hid (F (o + p) + xt f2 p p + y = r + q * 1000000000) := by unfold Hid; rw [EX.out, HZ.out]; omega
        have NX : Hid (Wt w g K o (p + 1) F (put F' (o + p) r) (wr.setCell ⟨g, p + o, none⟩ (.int .i64 r)) ∧ Tn (from_ (put F' (o + p) r) o) (p + 1) + q * tp (p + 1) = Tn (from_ F o) (p + 1) + Tn (xt f2 p) (p + 1)) := by
          refine ⟨hR.out.1.put (by omega) hr9, ?_⟩
          rw [from_putT, Tn_put, tp_succ, Tn_succ, Tn_succ]
          exact dstep_add hR.out.2 HS.out
        clear hs hq hr hR EX HZ
        go_wp2
        go_roundw
        case rel => exact ⟨p + 1, q, put F' (o + p) r, by omega, hq9, by go_num, by go_num, NX.out⟩
        case measure => first | (simp [intOf]; done) | (simp [intOf]; omega)
    · obtain rfl : p = n + 1 := by omega
      have t1 : ¬ ((n + 1 : Nat) : Int) ≤ (n : Int) := by omega
      have R : Hid (GvP w g K o n F f2 (.returned (.tuple #[])) wr) := by
        have h := hR.out.2
        rw [ext_sum (Nat.le_succ n)] at h
        exact ⟨F', y, hy, rfl, hR.out.1, h⟩
      clear hR hlt
      go_wp2
      go_end0
      exact R.out
def TkP (w : World) (g K o n qv : Nat) (F f2 : Nat → Nat) (e : Ending) (w' : World) : Prop :=
  ∃ (F' : Nat → Nat) (y : Nat), e = .returned (.bool (decide (0 < y))) ∧ Wt w g K o (n + 1) F F' w' ∧ Tn (from_ F' o) (n + 1) + qv * Tn f2 n = Tn (from_ F o) (n + 1) + y * tp (n + 1)
set_option maxRecDepth 100000 in
set_option maxHeartbeats 4000000 in
theorem take_c (g K cK o n cy qv : Nat) (ay : Option Addr) (F f2 : Nat → Nat) (w : World) (hB : Bt w g K F) (hy : Rj w ay n f2) (hA : Apart ay n g) (hK : o + n + 1 ≤ K) (hK9 : K ≤ 100000) (hq : qv < 1000000000) :
    Calls Tryz.prog 78 #[.slice (some ⟨g, 0, none⟩) K cK, .slice ay n cy, .int .i64 (o : Nat), .int .i64 (qv : Nat)] w (TkP w g K o n qv F f2) := by
  have HB := Lib.hid hB
  have HY := Lib.hid hy
  have HA := Lib.hid hA
  clear hB hy hA
  go_enter Tryz.func78, Tryz.ntmps78
  go_wp2
  go_loopw [9, 10] (fun c i wr => ∃ (p y : Nat) (F' : Nat → Nat), p ≤ n + 1 ∧ y ≤ 1000000000 ∧ c = .int .i64 y ∧ i = .int .i64 p ∧ Hid (Wt w g K o p F F' wr ∧ Tn (from_ F' o) p + qv * Tn (xt f2 n) p = Tn (from_ F o) p + y * tp p)) (fun _ i _ => n + 1 - (intOf i).toNat)
  case atStart => exact ⟨0, 0, F, Nat.zero_le _, by omega, rfl, rfl, Wt.nil HB.out, by simp [Tn_zero]⟩
  case round =>
    obtain ⟨p, y, F', hp, hy, rfl, rfl, hR⟩ := hrel
    by_cases hlt : p < n + 1
    · have t1 : (p : Int) ≤ (n : Int) := by omega
      have hBp := hR.out.1.bf.2.2 (o + p) (by omega)
      have dz := hR.out.1.bf.2.1 (o + p) (by omega)
      rw [hR.out.1.out (o + p) (.inr (Nat.le_refl _))] at hBp dz
      obtain ⟨z, hz⟩ : ∃ z, F (o + p) = z := ⟨_, rfl⟩
      rw [hz, Nat.add_comm o p] at hBp
      rw [hz] at dz
      have hb := hBp.1
      have hf := hBp.2
      have HZ := Lib.hid hz
      have tK : (p : Int) + (o : Int) < (K : Int) := by omega
      obtain ⟨D1, hD1⟩ : ∃ D : Int, (z : Int) - (y : Int) = D := ⟨_, rfl⟩
      clear hz hBp
      by_cases l2 : p < n
      · have t2 : (p : Int) < (n : Int) := by omega
        obtain ⟨b2, o2, rfl, _, g2⟩ := (HY.out.grown hR.out.1.grw HA.out).at_ l2
        have d2 := HY.out.2.1 p l2
        have EX : Hid (xt f2 n p = f2 p) := ext_lt l2
        generalize f2 p = x2 at g2 d2 EX
        obtain ⟨m, hm⟩ : ∃ m, qv * x2 = m := ⟨_, rfl⟩
        have em : (qv : Int) * (x2 : Int) = (m : Int) := by rw [← hm]; exact (Int.natCast_mul _ _).symm
        have hm9 : m ≤ 999999998000000001 := by rw [← hm]; exact Nat.mul_le_mul (show qv ≤ 999999999 by omega) (show x2 ≤ 999999999 by omega)
        obtain ⟨D, hD⟩ : ∃ D : Int, D1 - (m : Int) = D := ⟨_, rfl⟩
        have EM : Hid (xt f2 n p * qv = m) := by unfold Hid; rw [EX.out, Nat.mul_comm]; exact hm
        clear hm
        have hDD : (z : Int) - (y : Int) - (m : Int) = D := by omega
        have hDb : -2000000000000000000 ≤ D ∧ D < 1000000000 := by omega
        have hD1b : -1000000000 ≤ D1 ∧ D1 < 1000000000 := by omega
        by_cases hneg : D < 0
        · obtain ⟨N, hN⟩ : ∃ N : Nat, -D = (N : Int) := ⟨(-D).toNat, by omega⟩
          obtain ⟨M, hM⟩ : ∃ M : Nat, N + 999999999 = M := ⟨_, rfl⟩
          obtain ⟨b, hbq⟩ : ∃ b, M / 1000000000 = b := ⟨_, rfl⟩
          obtain ⟨c9, hc9⟩ : ∃ c9, b * 1000000000 = c9 := ⟨_, rfl⟩
          obtain ⟨r, hr⟩ : ∃ r : Nat, D + (c9 : Int) = (r : Int) := ⟨(D + (c9 : Int)).toNat, by omega⟩
          obtain ⟨N9, hN9⟩ : ∃ N9 : Nat, N + 1000000000 = N9 := ⟨_, rfl⟩
          have eN : (N : Int) + 1000000000 = (N9 : Int) := by omega
          have eM : (N9 : Int) - 1 = (M : Int) := by omega
          have e1 : (M : Int).tdiv 1000000000 = (b : Int) := by rw [Int.tdiv_eq_ediv_of_nonneg (by omega)]; omega
          have ec : (b : Int) * 1000000000 = (c9 : Int) := by omega
          have hr9 : r < 1000000000 := by omega
          have hb9 : b ≤ 1000000000 := by omega
          have hM9 : M ≤ 3000000000000000000 := by omega
          have hN99 : N9 ≤ 3000000000000000000 := by omega
          have hc99 : c9 ≤ 4000000000000000000 := by omega
          have hNN : N ≤ 3000000000000000000 := by omega
          have HS : Hid (r + (xt f2 n p * qv + y) = F (o + p) + b * 1000000000) := by unfold Hid; rw [EM.out, HZ.out]; omega
          have NX : Hid (Wt w g K o (p + 1) F (put F' (o + p) r) (wr.setCell ⟨g, p + o, none⟩ (.int .i64 r)) ∧ Tn (from_ (put F' (o + p) r) o) (p + 1) + qv * Tn (xt f2 n) (p + 1) = Tn (from_ F o) (p + 1) + b * tp (p + 1)) := by
            refine ⟨hR.out.1.put (by omega) hr9, ?_⟩
            rw [from_putT, Tn_put, tp_succ, Tn_succ, Tn_succ]
            exact dstep_submul hR.out.2 HS.out
          clear hM hbq hc9 hN9 hR EM HZ hDD
          go_wp2
          go_roundw
          case rel => exact ⟨p + 1, b, put F' (o + p) r, by omega, hb9, by go_num, by go_num, NX.out⟩
          case measure => first | (simp [intOf]; done) | (simp [intOf]; omega)
        · obtain ⟨r, hr⟩ : ∃ r : Nat, D = (r : Int) := ⟨(D).toNat, by omega⟩
          have hr9 : r < 1000000000 := by omega
          have HS : Hid (r + (xt f2 n p * qv + y) = F (o + p) + 0 * 1000000000) := by unfold Hid; rw [EM.out, HZ.out]; omega
          have NX : Hid (Wt w g K o (p + 1) F (put F' (o + p) r) (wr.setCell ⟨g, p + o, none⟩ (.int .i64 r)) ∧ Tn (from_ (put F' (o + p) r) o) (p + 1) + qv * Tn (xt f2 n) (p + 1) = Tn (from_ F o) (p + 1) + 0 * tp (p + 1)) := by
            refine ⟨hR.out.1.put (by omega) hr9, ?_⟩
            rw [from_putT, Tn_put, tp_succ, Tn_succ, Tn_succ]
            exact dstep_submul hR.out.2 HS.out
          have hr0 : ¬ (r : Int) < 0 := by omega
          clear hR EM HZ hDD
          go_wp2
          go_roundw
          case rel => exact ⟨p + 1, 0, put F' (o + p) r, by omega, by omega, by go_num, by go_num, NX.out⟩
          case measure => first | (simp [intOf]; done) | (simp [intOf]; omega)
      · obtain rfl : p = n := by omega
        have t2 : ¬ (p : Int) < (p : Int) := by omega
        have EM : Hid (xt f2 p p * qv = 0) := by unfold Hid; rw [ext_ge (Nat.le_refl _), Nat.zero_mul]
        have hDb : -1000000000 ≤ D1 ∧ D1 < 1000000000 := by omega
        by_cases hneg : D1 < 0
        · obtain ⟨N, hN⟩ : ∃ N : Nat, -D1 = (N : Int) := ⟨(-D1).toNat, by omega⟩
          obtain ⟨M, hM⟩ : ∃ M : Nat, N + 999999999 = M := ⟨_, rfl⟩
          obtain ⟨b, hbq⟩ : ∃ b, M / 1000000000 = b := ⟨_, rfl⟩
          obtain ⟨c9, hc9⟩ : ∃ c9, b * 1000000000 = c9 := ⟨_, rfl⟩
          obtain ⟨r, hr⟩ : ∃ r : Nat, D1 + (c9 : Int) = (r : Int) := ⟨(D1 + (c9 : Int)).toNat, by omega⟩
          obtain ⟨N9, hN9⟩ : ∃ N9 : Nat, N + 1000000000 = N9 := ⟨_, rfl⟩
          have eN : (N : Int) + 1000000000 = (N9 : Int) := by omega
          have eM : (N9 : Int) - 1 = (M : Int) := by omega
          have e1 : (M : Int).tdiv 1000000000 = (b : Int) := by rw [Int.tdiv_eq_ediv_of_nonneg (by omega)]; omega
          have ec : (b : Int) * 1000000000 = (c9 : Int) := by omega
          have hr9 : r < 1000000000 := by omega
          have hb9 : b ≤ 1000000000 := by omega
          have hM9 : M ≤ 3000000000000000000 := by omega
          have hN99 : N9 ≤ 3000000000000000000 := by omega
          have hc99 : c9 ≤ 4000000000000000000 := by omega
          have hNN : N ≤ 3000000000000000000 := by omega
          have HS : Hid (r + (xt f2 p p * qv + y) = F (o + p) + b * 1000000000) := by unfold Hid; rw [EM.out, HZ.out]; omega
          have NX : Hid (Wt w g K o (p + 1) F (put F' (o + p) r) (wr.setCell ⟨g, p + o, none⟩ (.int .i64 r)) ∧ Tn (from_ (put F' (o + p) r) o) (p + 1) + qv * Tn (xt f2 p) (p + 1) = Tn (from_ F o) (p + 1) + b * tp (p + 1)) := by
            refine ⟨hR.out.1.put (by omega) hr9, ?_⟩
            rw [from_putT, Tn_put, tp_succ, Tn_succ, Tn_succ]
            exact dstep_submul hR.out.2 HS.out
          clear hM hbq hc9 hN9 hR EM HZ 
          go_wp2
          go_roundw
          case rel => exact ⟨p + 1, b, put F' (o + p) r, by omega, hb9, by go_num, by go_num, NX.out⟩
          case measure => first | (simp [intOf]; done) | (simp [intOf]; omega)
        · obtain ⟨r, hr⟩ : ∃ r : Nat, D1 = (r : Int) := ⟨(D1).toNat, by omega⟩
          have hr9 : r < 1000000000 := by omega
          have HS : Hid (r + (xt f2 p p * qv + y) = F (o + p) + 0 * 1000000000) := by unfold Hid; rw [EM.out, HZ.out]; omega
          have NX : Hid (Wt w g K o (p + 1) F (put F' (o + p) r) (wr.setCell ⟨g, p + o, none⟩ (.int .i64 r)) ∧ Tn (from_ (put F' (o + p) r) o) (p + 1) + qv * Tn (xt f2 p) (p + 1) = Tn (from_ F o) (p + 1) + 0 * tp (p + 1)) := by
            refine ⟨hR.out.1.put (by omega) hr9, ?_⟩
            rw [from_putT, Tn_put, tp_succ, Tn_succ, Tn_succ]
            exact dstep_submul hR.out.2 HS.out
          have hr0 : ¬ (r : Int) < 0 := by omega
          clear hR EM HZ 
          go_wp2
          go_roundw
          case rel => exact ⟨p + 1, 0, put F' (o + p) r, by omega, by omega, by go_num, by go_num, NX.out⟩
          case measure => first | (simp [intOf]; done) | (simp [intOf]; omega)
    · obtain rfl : p = n + 1 := by omega
      have t1 : ¬ ((n + 1 : Nat) : Int) ≤ (n : Int) := by omega
      have e9 : decide ((0 : Int) < (y : Int)) = decide (0 < y) := by simp
      have R : Hid (TkP w g K o n qv F f2 (.returned (.bool (decide (0 < y)))) wr) := by
        have h := hR.out.2
        rw [ext_sum (Nat.le_succ n)] at h
        exact ⟨F', y, rfl, hR.out.1, h⟩
      clear hR hlt
      go_wp2
      go_ret
      have := R.out
      simpa using this
end Go.Proofs.YtchdfekajjeflaaGreatDoor
namespace Go.Proofs.YtchdfekajjeflaaGreatDoor
open Go.RowKit

/-- The digit that the three highest digits give. -/
structure Gu (top x2 y1 y2 q : Nat) : Prop where
  lt : q < 1000000000
  le : q * (y1 * 1000000000 + y2) ≤ top * 1000000000 + x2
  most : ∀ Q, Q < 1000000000 → Q * (y1 * 1000000000 + y2) ≤ top * 1000000000 + x2 → Q ≤ q
/-- What the guessing keeps. -/
structure Gi (top x2 y1 y2 q r : Nat) : Prop where
  eq : q * y1 + r = top
  most : ∀ Q, Q < 1000000000 → Q * (y1 * 1000000000 + y2) ≤ top * 1000000000 + x2 → Q ≤ q
theorem gi_start {top x2 y1 y2 : Nat} (h1 : 0 < y1) (hx : x2 < 1000000000) : Gi top x2 y1 y2 (top / y1) (top % y1) := by
  refine ⟨Nat.div_add_mod' _ _, fun Q _ h => (Nat.le_div_iff_mul_le h1).2 ?_⟩
  have h2 : Q * y1 * 1000000000 ≤ top * 1000000000 + x2 := by
    have : Q * (y1 * 1000000000 + y2) = Q * y1 * 1000000000 + Q * y2 := by rw [Nat.mul_add, Nat.mul_assoc]
    omega
  omega
theorem gi_step {top x2 y1 y2 q r : Nat} (h : Gi top x2 y1 y2 (q + 1) r) (hc : 1000000000 ≤ q + 1 ∨ r * 1000000000 + x2 < (q + 1) * y2) : Gi top x2 y1 y2 q (r + y1) := by
  refine ⟨by have := h.eq; rw [Nat.add_mul] at this; omega, fun Q hQ hle => ?_⟩
  have h1 := h.most Q hQ hle
  rcases Nat.lt_or_ge Q (q + 1) with l | l
  · omega
  · obtain rfl : Q = q + 1 := by omega
    rcases hc with c | c
    · omega
    · have e := h.eq
      have : (q + 1) * (y1 * 1000000000 + y2) = (q + 1) * y1 * 1000000000 + (q + 1) * y2 := by rw [Nat.mul_add, Nat.mul_assoc]
      omega
theorem gi_end1 {top x2 y1 y2 q r : Nat} (h : Gi top x2 y1 y2 q r) (hq : q < 1000000000) (hc : q * y2 ≤ r * 1000000000 + x2) : Gu top x2 y1 y2 q := by
  refine ⟨hq, ?_, h.most⟩
  have e := h.eq
  have : q * (y1 * 1000000000 + y2) = q * y1 * 1000000000 + q * y2 := by rw [Nat.mul_add, Nat.mul_assoc]
  omega
theorem gi_end2 {top x2 y1 y2 q r : Nat} (h : Gi top x2 y1 y2 q r) (hr : 1000000000 ≤ r) (ht : top < (y1 + 1) * 1000000000) (hy2 : y2 < 1000000000) : Gu top x2 y1 y2 q := by
  have e := h.eq
  have hq : q < 1000000000 := by
    rcases Nat.lt_or_ge q 1000000000 with l | l
    · exact l
    · have := Nat.mul_le_mul_right y1 l
      omega
  refine gi_end1 h hq ?_
  have := Nat.mul_le_mul (show q ≤ 999999999 by omega) (show y2 ≤ 999999999 by omega)
  omega
theorem top_q {top y1 q b : Nat} (h1 : 0 < y1) (hq : top / y1 = q) (ht : top < (y1 + 1) * b) : q ≤ 2 * b := by
  rw [← hq]
  refine Nat.div_le_of_le_mul ?_
  rw [Nat.add_mul] at ht
  have h2 := Nat.mul_le_mul_right b (show 1 ≤ y1 from h1)
  have h3 : y1 * (2 * b) = y1 * b + y1 * b := by rw [Nat.mul_left_comm]; omega
  omega
theorem wrap_lo {q : Nat} (h : q ≤ 2000000000) : wrap64 (q : Int) = (q : Int) ∧ IntKind.i64.wrap (q : Int) = (q : Int) := ⟨by unfold wrap64; omega, by rw [IntKind.wrap_i64] <;> omega⟩
def GuP (top x2 y1 y2 : Nat) (w : World) (e : Ending) (w' : World) : Prop := ∃ q, e = .returned (.int .i64 (q : Nat)) ∧ Gu top x2 y1 y2 q ∧ ∃ k, w' = w.drewN k
set_option maxRecDepth 100000 in
set_option maxHeartbeats 4000000 in
theorem guess_l (K cK o m cy i0 i1 i2 m1 n : Nat) (ax ay : Option Addr) (F f2 : Nat → Nat) (w : World) (hi0 : o + m + 2 = i0) (hi1 : o + m + 1 = i1) (hi2 : o + m = i2) (hm1 : m + 1 = m1) (hn : m + 2 = n) (hx : Rj w ax K F) (hy : Rj w ay n f2) (hK : i0 < K) (hy1 : 0 < f2 m1)
    (ht : F i0 * 1000000000 + F i1 < (f2 m1 + 1) * 1000000000) :
    Calls Tryz.prog 77 #[.slice ax K cK, .slice ay n cy, .int .i64 (o : Nat)] w (GuP (F i0 * 1000000000 + F i1) (F i2) (f2 m1) (f2 m) w) := by
  obtain ⟨b1, o1, rfl, _, g0⟩ := hx.at_ (show i0 < K by omega)
  obtain ⟨b1', o1', e1, _, g1⟩ := hx.at_ (show i1 < K by omega)
  injection e1 with e1
  injection e1 with e1 e1'
  subst e1 e1'
  obtain ⟨b1', o1', e1, _, g2⟩ := hx.at_ (show i2 < K by omega)
  injection e1 with e1
  injection e1 with e1 e1'
  subst e1 e1'
  obtain ⟨b2, o2, rfl, _, k1⟩ := hy.at_ (show m1 < n by omega)
  obtain ⟨b2', o2', e1, _, k2⟩ := hy.at_ (show m < n by omega)
  injection e1 with e1
  injection e1 with e1 e1'
  subst e1 e1'
  have d0 := hx.2.1 i0 (by omega)
  have d1 := hx.2.1 i1 (by omega)
  have d2 := hx.2.1 i2 (by omega)
  have c1 := hy.2.1 m1 (by omega)
  have c2 := hy.2.1 m (by omega)
  have hK9 := hx.1
  have hn9 := hy.1
  clear hx hy
  generalize F i0 = x0 at *
  generalize F i1 = x1 at *
  generalize F i2 = x2 at *
  generalize f2 m1 = y1 at *
  generalize f2 m = y2 at *
  have a0 : (o : Int) + (n : Int) = (i0 : Int) := by omega
  have a1 : (i0 : Int) - 1 = (i1 : Int) := by omega
  have a2 : (i0 : Int) - 2 = (i2 : Int) := by omega
  have a3 : (n : Int) - 1 = (m1 : Int) := by omega
  have a4 : (n : Int) - 2 = (m : Int) := by omega
  have l0 : (i0 : Int) < (K : Int) := by omega
  have l1 : (i1 : Int) < (K : Int) := by omega
  have l2 : (i2 : Int) < (K : Int) := by omega
  have l3 : (m1 : Int) < (n : Int) := by omega
  have l4 : (m : Int) < (n : Int) := by omega
  have wi1 : IntKind.i64.wrap (i1 : Int) = (i1 : Int) := by rw [IntKind.wrap_i64] <;> omega
  have wi2 : IntKind.i64.wrap (i2 : Int) = (i2 : Int) := by rw [IntKind.wrap_i64] <;> omega
  have wm1 : IntKind.i64.wrap (m1 : Int) = (m1 : Int) := by rw [IntKind.wrap_i64] <;> omega
  have wm : IntKind.i64.wrap (m : Int) = (m : Int) := by rw [IntKind.wrap_i64] <;> omega
  clear hi0 hi1 hi2 hm1 hn hK
  obtain ⟨t0, ht0⟩ : ∃ t, x0 * 1000000000 = t := ⟨_, rfl⟩
  obtain ⟨top, htop⟩ : ∃ t, t0 + x1 = t := ⟨_, rfl⟩
  rw [ht0, htop] at ht ⊢
  have f0 : (x0 : Int) * 1000000000 = (t0 : Int) := by omega
  have f1 : (t0 : Int) + (x1 : Int) = (top : Int) := by omega
  have htop9 : top < 1000000000000000000 := by omega
  have ht09 : t0 < 1000000000000000000 := by omega
  have HT := Lib.hid ht
  obtain ⟨q, hq⟩ : ∃ q, top / y1 = q := ⟨_, rfl⟩
  obtain ⟨r, hr⟩ : ∃ r, top % y1 = r := ⟨_, rfl⟩
  have G0 : Hid (Gi top x2 y1 y2 q r ∧ r < 1000000000 ∧ q ≤ 2000000000) := by
    have h := gi_start (top := top) (y2 := y2) hy1 d2
    rw [hq, hr] at h
    refine ⟨h, by rw [← hr]; have := Nat.mod_lt top hy1; omega, ?_⟩
    exact top_q hy1 hq HT.out
  have e1 : (top : Int).tdiv (y1 : Int) = (q : Int) := by rw [Int.tdiv_eq_ediv_of_nonneg (by omega), ← hq]; exact (Int.natCast_ediv top y1).symm
  have e2 : (top : Int).tmod (y1 : Int) = (r : Int) := by rw [Int.tmod_eq_emod_of_nonneg (by omega), ← hr]; exact (Int.natCast_emod top y1).symm
  have hy0 : (y1 : Int) ≠ 0 := by omega
  have hqw := (wrap_lo G0.out.2.2).1
  have hqw2 := (wrap_lo G0.out.2.2).2
  clear hq hr ht0 htop ht
  go_enter Tryz.func77, Tryz.ntmps77
  go_wp2_with fail
  go_quiet (fail)
  go_wp2_with fail
  clear e1 e2
  go_loopw [9, 10] (fun qv rv wr => ∃ q r : Nat, qv = .int .i64 q ∧ rv = .int .i64 r ∧ (∃ k, wr = w.drewN k) ∧ Hid (Gi top x2 y1 y2 q r ∧ r < 1000000000 ∧ q ≤ 2000000000)) (fun qv _ _ => (intOf qv).toNat)
  case atStart => exact ⟨q, r, rfl, rfl, ⟨_, rfl⟩, G0.out⟩
  case round =>
    clear G0
    obtain ⟨q, r, rfl, rfl, ⟨kd, rfl⟩, hG⟩ := hrel
    have hr9 := hG.out.2.1
    have hq9 := hG.out.2.2
    obtain ⟨p, hp⟩ : ∃ p, q * y2 = p := ⟨_, rfl⟩
    have ep : (q : Int) * (y2 : Int) = (p : Int) := by rw [← hp]; exact (Int.natCast_mul _ _).symm
    have hp9 : p ≤ 2000000000 * 999999999 := by rw [← hp]; exact Nat.mul_le_mul hq9 (show y2 ≤ 999999999 by omega)
    obtain ⟨s0, hs0⟩ : ∃ s, r * 1000000000 = s := ⟨_, rfl⟩
    obtain ⟨s, hs⟩ : ∃ s, s0 + x2 = s := ⟨_, rfl⟩
    have es0 : (r : Int) * 1000000000 = (s0 : Int) := by omega
    have es : (s0 : Int) + (x2 : Int) = (s : Int) := by omega
    have hs09 : s0 < 1000000000000000000 := by omega
    have hs9 : s < 1000000000000000000 := by omega
    have hp99 : p < 2000000000000000000 := by omega
    by_cases hc : 1000000000 ≤ q ∨ s < p
    · obtain ⟨q', rfl⟩ : ∃ q', q = q' + 1 := ⟨q - 1, by
        rcases Nat.eq_zero_or_pos q with e | e
        · subst e; rw [Nat.zero_mul] at hp; omega
        · omega⟩
      have eq' : ((q' + 1 : Nat) : Int) - 1 = (q' : Int) := by omega
      obtain ⟨r', hr'⟩ : ∃ r', r + y1 = r' := ⟨_, rfl⟩
      have er : (r : Int) + (y1 : Int) = (r' : Int) := by omega
      have hr99 : r' < 2000000000 := by omega
      have NG : Hid (Gi top x2 y1 y2 q' r') := by
        have := gi_step hG.out.1 (by rcases hc with c | c; exact .inl c; exact .inr (by omega))
        rw [hr'] at this
        exact this
      have EN : Hid (1000000000 ≤ r' → Gu top x2 y1 y2 q') := fun h => gi_end2 NG.out h HT.out c2
      clear hp hs0 hs hr' hG
      obtain ⟨qq, hqq⟩ : ∃ qq : Int, ((q' + 1 : Nat) : Int) = qq := ⟨_, rfl⟩
      rw [hqq] at eq' ep
      rw [hqq]
      have hqqb : 1 ≤ qq ∧ qq ≤ 2000000000 := by omega
      have HQQ := Lib.hid hqq
      clear hqq
      by_cases c0 : 1000000000 ≤ q' + 1
      · have c0' : (1000000000 : Int) ≤ qq := by have := HQQ.out; omega
        have c0b : decide ((1000000000 : Int) ≤ qq) = true := by rw [decide_eq_true_iff]; exact c0'
        clear hc
        by_cases c1 : 1000000000 ≤ r'
        · have c1b : decide ((1000000000 : Int) ≤ (r' : Int)) = true := by rw [decide_eq_true_iff]; omega
          have E := Lib.hid (EN.out c1)
          clear c0' c1 EN
          go_wp2_with fail
          go_quiet (fail)
          go_wp2
          go_ret
          exact ⟨q', rfl, E.out, _, rfl⟩
        · have c1b : decide ((1000000000 : Int) ≤ (r' : Int)) = false := by rw [decide_eq_false_iff_not]; omega
          have c1l : r' < 1000000000 := by omega
          clear c0' c1 EN
          go_wp2_with fail
          go_quiet (fail)
          go_wp2
          go_roundw
          case rel => exact ⟨q', r', by go_num, by go_num, ⟨_, rfl⟩, NG.out, by omega, by omega⟩
          case measure => have := HQQ.out; simp [intOf]; omega
      · have c0' : ¬ (1000000000 : Int) ≤ qq := by have := HQQ.out; omega
        have c2' : (s : Int) < (p : Int) := by omega
        have c0b : decide ((1000000000 : Int) ≤ qq) = false := by rw [decide_eq_false_iff_not]; exact c0'
        have c2b : decide ((s : Int) < (p : Int)) = true := by rw [decide_eq_true_iff]; exact c2'
        clear hc
        by_cases c1 : 1000000000 ≤ r'
        · have c1b : decide ((1000000000 : Int) ≤ (r' : Int)) = true := by rw [decide_eq_true_iff]; omega
          have E := Lib.hid (EN.out c1)
          clear c0' c1 EN
          go_wp2_with fail
          go_quiet (fail)
          go_wp2
          go_ret
          exact ⟨q', rfl, E.out, _, rfl⟩
        · have c1b : decide ((1000000000 : Int) ≤ (r' : Int)) = false := by rw [decide_eq_false_iff_not]; omega
          have c1l : r' < 1000000000 := by omega
          clear c0' c1 EN
          go_wp2_with fail
          go_quiet (fail)
          go_wp2
          go_roundw
          case rel => exact ⟨q', r', by go_num, by go_num, ⟨_, rfl⟩, NG.out, by omega, by omega⟩
          case measure => have := HQQ.out; simp [intOf]; omega
    · have c0' : ¬ (1000000000 : Int) ≤ (q : Int) := by omega
      have c2' : ¬ (s : Int) < (p : Int) := by omega
      have c0b : decide ((1000000000 : Int) ≤ (q : Int)) = false := by rw [decide_eq_false_iff_not]; exact c0'
      have c2b : decide ((s : Int) < (p : Int)) = false := by rw [decide_eq_false_iff_not]; exact c2'
      have E : Hid (Gu top x2 y1 y2 q) := gi_end1 hG.out.1 (by omega) (by omega)
      have c2f : ((s : Int) < (p : Int)) = False := eq_false c2'
      clear hp hs0 hs hG hc c0' c2'
      go_wp2_with fail
      go_quiet (fail)
      go_wp2
      go_ret
      exact ⟨q, rfl, E.out, _, drewN_drewN _ _ _⟩
theorem guess_c (K cK o m cy : Nat) (ax ay : Option Addr) (F f2 : Nat → Nat) (w : World) (hx : Rj w ax K F) (hy : Rj w ay (m + 2) f2) (hK : o + m + 2 < K) (hy1 : 0 < f2 (m + 1))
    (ht : F (o + m + 2) * 1000000000 + F (o + m + 1) < (f2 (m + 1) + 1) * 1000000000) :
    Calls Tryz.prog 77 #[.slice ax K cK, .slice ay (m + 2) cy, .int .i64 (o : Nat)] w (GuP (F (o + m + 2) * 1000000000 + F (o + m + 1)) (F (o + m)) (f2 (m + 1)) (f2 m) w) :=
  guess_l K cK o m cy _ _ _ _ _ ax ay F f2 w rfl rfl rfl rfl rfl hx hy hK hy1 ht
end Go.Proofs.YtchdfekajjeflaaGreatDoor
namespace Go.Proofs.YtchdfekajjeflaaGreatDoor

theorem Tn_at (f : Nat → Nat) (k m : Nat) : Tn f (k + m) = Tn f k + tp k * Tn (from_ f k) m := Tn_split f k m
theorem Tn_window {f g : Nat → Nat} {i m K : Nat} (h : i + m ≤ K) (he : ∀ j, j < K → (j < i ∨ i + m ≤ j) → g j = f j) : Tn g K + tp i * Tn (from_ f i) m = Tn f K + tp i * Tn (from_ g i) m := by
  obtain ⟨d, rfl⟩ := Nat.exists_eq_add_of_le h
  rw [Tn_at f (i + m) d, Tn_at g (i + m) d, Tn_at f i m, Tn_at g i m]
  have e1 : Tn g i = Tn f i := Tn_congr (fun j hj => he j (by omega) (.inl hj))
  have e2 : Tn (from_ g (i + m)) d = Tn (from_ f (i + m)) d := Tn_congr (fun j hj => he _ (by omega) (.inr (by omega)))
  rw [e1, e2]
  omega
theorem Tn_high {f : Nat → Nat} {n m : Nat} (h : Tn f (n + m) < tp n) : Tn (from_ f n) m = 0 ∧ Tn f (n + m) = Tn f n := by
  rw [Tn_at] at h
  have hz : Tn (from_ f n) m = 0 := by
    rcases Nat.eq_zero_or_pos (Tn (from_ f n) m) with e | e
    · exact e
    · have : tp n * 1 ≤ tp n * Tn (from_ f n) m := Nat.mul_le_mul_left _ e
      omega
  refine ⟨hz, ?_⟩
  rw [Tn_at, hz]
  omega
theorem tlong_step {A SR SR' d q P OS W W' : Nat} (h : SR + d * (P * 1000000000 * OS) = A) (hw : SR' + P * W = SR + P * W') (hq : W' + q * d = W) :
    SR' + d * (P * (q + 1000000000 * OS)) = A := by
  have : P * W = P * W' + P * (q * d) := by rw [← hq, Nat.mul_add]
  grind
theorem twin_lt {r x d : Nat} (hr : r < 1000000000) (hx : x < d) : r + 1000000000 * x < 1000000000 * d := by
  have : 1000000000 * (x + 1) ≤ 1000000000 * d := Nat.mul_le_mul_left _ hx
  omega
theorem tlong_zero {F : Nat → Nat} {p k K d : Nat} (hK : p + (k + 1) ≤ K) (hd : d < tp k) (h2 : Tn (from_ F (p + 1)) (K - (p + 1)) < d) :
    Tn (from_ F (p + (k + 1))) (K - (p + (k + 1))) = 0 ∧ Tn (from_ F (p + 1)) k < d := by
  obtain ⟨r, hr⟩ : ∃ r, K - (p + 1) = k + r := ⟨K - (p + 1) - k, by omega⟩
  rw [hr] at h2
  have h := Tn_high (f := from_ F (p + 1)) (n := k) (m := r) (by omega)
  rw [from_from] at h
  refine ⟨?_, by rw [← h.2]; exact h2⟩
  rw [show p + (k + 1) = p + 1 + k by omega, show K - (p + 1 + k) = r by omega]
  exact h.1
theorem tlong_win {F : Nat → Nat} {p k K d : Nat} (hK : p + (k + 1) ≤ K) (hd : d < tp k) (hF : F p < 1000000000) (h2 : Tn (from_ F (p + 1)) (K - (p + 1)) < d) :
    Tn (from_ F p) (k + 1) < 1000000000 * d := by
  rw [Tn_consX]
  exact twin_lt hF (tlong_zero hK hd h2).2
theorem tlong_next {F F2 G : Nat → Nat} {p k K L d A q : Nat} (hK : p + (k + 1) ≤ K) (hL : p < L) (hd : d < tp k)
    (h1 : Tn F K + d * (tp (p + 1) * Tn (from_ G (p + 1)) (L - (p + 1))) = A) (h2 : Tn (from_ F (p + 1)) (K - (p + 1)) < d)
    (hout : ∀ j, j < p ∨ p + (k + 1) ≤ j → F2 j = F j) (hq : Tn (from_ F2 p) (k + 1) + q * d = Tn (from_ F p) (k + 1)) (hlt : Tn (from_ F2 p) (k + 1) < d) :
    Tn F2 K + d * (tp p * Tn (from_ (put G p q) p) (L - p)) = A ∧ Tn (from_ F2 p) (K - p) < d := by
  constructor
  · have hw := Tn_window (f := F) (g := F2) hK (fun j _ hj => hout j hj)
    rw [tp_succ] at h1
    have e1 : Tn (from_ (put G p q) p) (L - p) = q + 1000000000 * Tn (from_ G (p + 1)) (L - (p + 1)) := by
      rw [show L - p = (L - (p + 1)) + 1 by omega, Tn_consX, put_same]
      congr 2
      exact Tn_congr (fun j _ => put_ne (by omega))
    rw [e1]
    exact tlong_step h1 hw hq
  · obtain ⟨r, hr⟩ : ∃ r, K - p = (k + 1) + r := ⟨K - p - (k + 1), by omega⟩
    have hz := (tlong_zero hK hd h2).1
    rw [show K - (p + (k + 1)) = r by omega] at hz
    rw [hr, Tn_at, from_from]
    have e : Tn (from_ F2 (p + (k + 1))) r = Tn (from_ F (p + (k + 1))) r := Tn_congr (fun j _ => hout _ (.inr (by omega)))
    rw [e, hz, Nat.mul_zero]
    exact hlt
/-- The three highest digits, and the rest. -/
theorem top3 {f : Nat → Nat} {p m : Nat} (hF : Ld (from_ f p) m) : ∃ r, r < tp m ∧ Tn (from_ f p) (m + 2 + 1) = ((f (p + m + 2) * 1000000000 + f (p + m + 1)) * 1000000000 + f (p + m)) * tp m + r := by
  refine ⟨Tn (from_ f p) m, Tn_lt hF, ?_⟩
  rw [show m + 2 + 1 = m + 1 + 1 + 1 by omega, Tn_succ, Tn_succ, Tn_succ, tp_succ (m + 1), tp_succ m]
  have e0 : from_ f p m = f (p + m) := rfl
  have e1 : from_ f p (m + 1) = f (p + m + 1) := rfl
  have e2 : from_ f p (m + 1 + 1) = f (p + m + 2) := rfl
  rw [e0, e1, e2]
  grind
/-- The two highest digits of the divisor. -/
theorem top2 {f : Nat → Nat} {m : Nat} (hF : Ld f m) : ∃ r, r < tp m ∧ Tn f (m + 2) = (f (m + 1) * 1000000000 + f m) * tp m + r := by
  refine ⟨Tn f m, Tn_lt hF, ?_⟩
  rw [show m + 2 = m + 1 + 1 by omega, Tn_succ, Tn_succ, tp_succ]
  grind
theorem lt_of_scaled {a b P r : Nat} (h : a * P < b * P + r) (hr : r ≤ P) : a < b + 1 := by
  have : a * P < (b + 1) * P := by rw [Nat.add_mul, Nat.one_mul]; omega
  exact Nat.lt_of_mul_lt_mul_right this
/-- What the guess says of the whole window. -/
theorem gu_digit {top x2 y1 y2 q W d P rw rd : Nat} (hg : Gu top x2 y1 y2 q) (hP : 0 < P) (hW : W = (top * 1000000000 + x2) * P + rw) (hrw : rw < P) (hd : d = (y1 * 1000000000 + y2) * P + rd) (hrd : rd < P)
    (h1 : 0 < y1) (hlt : W < 1000000000 * d) : q * d < W + d ∧ W < (q + 1) * d := by
  have hq := hg.lt
  have hle := hg.le
  obtain ⟨Y, hY⟩ : ∃ Y, y1 * 1000000000 + y2 = Y := ⟨_, rfl⟩
  obtain ⟨X, hX⟩ : ∃ X, top * 1000000000 + x2 = X := ⟨_, rfl⟩
  have most := hg.most
  rw [hY] at hle hd most
  rw [hX] at hle hW most
  have hYb : 1000000000 ≤ Y := by omega
  have hdP : 1000000000 * P ≤ d := by rw [hd]; have := Nat.mul_le_mul_right P hYb; omega
  constructor
  · have e1 : q * Y * P ≤ X * P := Nat.mul_le_mul_right P hle
    have e2 : q * rd ≤ 999999999 * P := Nat.mul_le_mul (by omega) (by omega)
    have e3 : q * d = q * Y * P + q * rd := by rw [hd, Nat.mul_add, Nat.mul_assoc]
    omega
  · have hd0 : 0 < d := by omega
    have h2 : W / d < 1000000000 := Nat.div_lt_of_lt_mul (by rw [Nat.mul_comm]; exact hlt)
    have h3 : W / d * Y ≤ X := by
      have e1 : W / d * d ≤ W := Nat.div_mul_le_self W d
      have e2 : W / d * Y * P ≤ W / d * d := by rw [Nat.mul_assoc]; exact Nat.mul_le_mul_left _ (by omega)
      have := lt_of_scaled (a := W / d * Y) (b := X) (P := P) (r := rw + 1) (by omega) (by omega)
      omega
    have h4 := most _ h2 h3
    have h5 := Nat.lt_div_mul_add (a := W) hd0
    have h6 : (W / d + 1) * d ≤ (q + 1) * d := Nat.mul_le_mul_right _ (by omega)
    rw [Nat.add_mul, Nat.one_mul] at h6
    omega
/-- The digit was not too great. -/
theorem take_no {W W' q d b B : Nat} (h : W' + q * d = W + b * B) (hB : W' < B) (hb : ¬ 0 < b) : W' + q * d = W := by
  obtain rfl : b = 0 := by omega
  omega
theorem take_yes {W W' W2 q d b y B : Nat} (h : W' + q * d = W + b * B) (h2 : W2 + y * B = W' + d) (hB : W2 < B) (hd : d < B) (hW : W' < B) (hb : 0 < b) (hlt : q * d < W + d) : 0 < q ∧ W2 + (q - 1) * d = W := by
  have hbB : B ≤ b * B := Nat.le_mul_of_pos_left _ hb
  have hq : 0 < q := by
    rcases Nat.eq_zero_or_pos q with e | e
    · subst e; omega
    · exact e
  refine ⟨hq, ?_⟩
  obtain ⟨p, rfl⟩ : ∃ p, q = p + 1 := ⟨q - 1, by omega⟩
  rw [Nat.add_sub_cancel]
  rw [Nat.add_mul, Nat.one_mul] at h hlt
  -- W2 + y B + p d = W + b B, W2 < B, p d ≤ W .. so y = b
  have e : W2 + y * B + p * d = W + b * B := by omega
  have hyb : y = b := by
    rcases Nat.lt_trichotomy y b with l | l | l
    · have := Nat.mul_le_mul_right B (show y + 1 ≤ b from l)
      rw [Nat.add_mul, Nat.one_mul] at this
      omega
    · exact l
    · have := Nat.mul_le_mul_right B (show b + 1 ≤ y from l)
      rw [Nat.add_mul, Nat.one_mul] at this
      omega
  subst hyb
  omega
theorem unscale {n1 n2 f Q R : Nat} (hf : 0 < f) (h : R + n2 * f * Q = n1 * f) (hR : R < n2 * f) : Q = n1 / n2 ∧ R / f = n1 % n2 := by
  have hn : 0 < n2 := by
    rcases Nat.eq_zero_or_pos n2 with e | e
    · subst e; omega
    · exact e
  have hdv : f ∣ R := by
    have h1 : f ∣ n2 * f * Q := Nat.dvd_trans (Nat.dvd_mul_left f n2) (Nat.dvd_mul_right _ _)
    have h2 : f ∣ R + n2 * f * Q := by rw [h]; exact Nat.dvd_mul_left _ _
    exact (Nat.dvd_add_left h1).1 h2
  obtain ⟨r, rfl⟩ := hdv
  have e : r + n2 * Q = n1 := by
    have : f * (r + n2 * Q) = f * n1 := by rw [Nat.mul_add, ← Nat.mul_assoc f n2, Nat.mul_comm f n2, h, Nat.mul_comm]
    exact Nat.eq_of_mul_eq_mul_left hf this
  have hr : r < n2 := by
    rw [Nat.mul_comm n2] at hR
    exact Nat.lt_of_mul_lt_mul_left hR
  rw [Nat.mul_div_cancel_left r hf, ← e]
  exact ⟨by rw [Nat.add_mul_div_left _ _ hn, Nat.div_eq_of_lt hr, Nat.zero_add], by rw [Nat.add_mul_mod_self_left, Nat.mod_eq_of_lt hr]⟩
end Go.Proofs.YtchdfekajjeflaaGreatDoor
namespace Go.Proofs.YtchdfekajjeflaaGreatDoor
open Go.RowKit

def DvP (q r : Nat) (w : World) (e : Ending) (w' : World) : Prop := ∃ qa qk qc ra rk rc, e = .returned (.tuple #[.slice qa qk qc, .slice ra rk rc]) ∧ Nt w' qa qk qc q ∧ Nt w' ra rk rc r ∧ Below w.heap.size w w'
theorem Bt.other {W W' : World} {h K g : Nat} {f : Nat → Nat} (hb : Bt W h K f) (hg : W.grownBy W' (some g)) (hne : h ≠ g) : Bt W' h K f := by
  have e : W'.heap[h]? = W.heap[h]? := hg.block h hb.1 (by intro e; injection e with e; exact hne e)
  exact ⟨Nat.lt_of_lt_of_le hb.1 hg.size, hb.2.1, fun j hj => ⟨(World.cell?_of_block (a := ⟨h, j, none⟩) e).trans (hb.2.2 j hj).1, (World.frozen?_of_block (a := ⟨h, j, none⟩) e).trans (hb.2.2 j hj).2⟩⟩
theorem Bt.belowX {W W' : World} {g K : Nat} {f : Nat → Nat} (h : Bt W g K f) (hb : Below W.heap.size W W') : Bt W' g K f :=
  ⟨Nat.lt_of_lt_of_le h.1 hb.size, h.2.1, fun j hj => ⟨(hb.cell (p := ⟨g, j, none⟩) h.1).trans (h.2.2 j hj).1, (hb.frozen (p := ⟨g, j, none⟩) h.1).trans (h.2.2 j hj).2⟩⟩
/-- A row of the call's own, as a block of digits. -/
theorem Dg.block {B : Nat} {w0 w : World} {f : Nat → Nat} {j : Nat} {v : Value} (h : Dg B w0 f j v w) (hl : Ld f j) (hj : 0 < j) : ∃ g cap, v = .slice (Option.some ⟨g, 0, none⟩) j cap ∧ B ≤ g ∧ j ≤ cap ∧ cap ≤ 9223372036854775807 ∧ Bt w g j f := by
  rcases h.row.2 with ⟨_, h3⟩ | ⟨g, cap, cur, rfl, h3, h4, h5, h6, h7, h8⟩
  · omega
  · refine ⟨g, cap, rfl, h3, h5, by unfold maxLen at h6; omega, lt_of_block h4, hl, fun i hi => ⟨?_, World.ownsRow.frozenAt h.row i⟩⟩
    have := World.ownsRow.cellAt h.row i (by omega)
    rw [this]
    simp [dvals, hi]
theorem grows_below {W W' : World} {row : Option Nat} (h : Below W.heap.size W W') : W.grownBy W' row := ⟨h.os, h.tape, h.output, h.size, fun i hi _ => h.block i hi⟩
theorem own_keepJ {W W' : World} {base : Nat} {e : TypeId} {size : Nat} {v : Value} {n : Nat} {xs : List Value} (h : W.ownsRow base e size v n xs) (hb : Below W.heap.size W W') : W'.ownsRow base e size v n xs := by
  refine h.kept (row := none) (grows_below hb) ?_
  cases v.ownBlock with
  | none => exact .inl rfl
  | some _ => exact .inr (by simp)
/-- Where the long division is: the rest, the quotient so far. -/
structure Lt (w3 : World) (gx go K L d A : Nat) (p : Nat) (F G : Nat → Nat) (W : World) : Prop where
  rest : Bt W gx K F
  quo : Bt W go L G
  grw : w3.grownBy W (some gx)
  sum : Tn F K + d * (tp p * Tn (from_ G p) (L - p)) = A
  low : Tn (from_ F p) (K - p) < d
theorem Lt.keep {w3 : World} {gx go K L d A p : Nat} {F G : Nat → Nat} {W W' : World} (h : Lt w3 gx go K L d A p F G W) (hb : Below W.heap.size W W') : Lt w3 gx go K L d A p F G W' :=
  ⟨h.rest.belowX hb, h.quo.belowX hb, h.grw.trans (grows_below hb), h.sum, h.low⟩
theorem put_put (f : Nat → Nat) (i x y : Nat) : put (put f i x) i y = put f i y := by
  funext j; unfold put; split <;> rfl
theorem Wt.trans {w w' w2 : World} {g K o m : Nat} {f f' f2 : Nat → Nat} (h : Wt w g K o m f f' w') (h2 : Wt w' g K o m f' f2 w2) : Wt w g K o m f f2 w2 :=
  ⟨h2.bf, fun j hj => (h2.out j hj).trans (h.out j hj), h.grw.trans h2.grw⟩
theorem grows_set {a w : World} {row : Option Nat} {g i : Nat} {v : Value} (h : a.grownBy w row) (hg : a.heap.size ≤ g) : a.grownBy (w.setCell ⟨g, i, none⟩ v) row := by
  refine ⟨h.os, h.tape, h.output, by have := h.size; simpa using this, fun k hk hne => ?_⟩
  rw [Below.heap_setCell _ _ _ _ (fun e => by subst e; omega)]
  exact h.block k hk hne
theorem tdiv_nat {a b q : Nat} (h : q = a / b) : (a : Int).tdiv (b : Int) = (q : Int) := by
  rw [Int.tdiv_eq_ediv_of_nonneg (by omega), h]; exact (Int.natCast_ediv a b).symm
theorem tdiv_z {z : Int} {a b q : Nat} (hz : z = (a : Int)) (h : q = a / b) : z.tdiv (b : Int) = (q : Int) := by
  subst hz; exact tdiv_nat h
theorem tdiv_lit {b q : Nat} (h : q = 1000000000 / b) : (1000000000 : Int).tdiv (b : Int) = (q : Int) := tdiv_z (Int.ofNat_eq_natCast 1000000000) h
/-- The factor that makes the divisor's highest digit great. -/
theorem factor_ok {t n2 m x : Nat} (ht : 0 < t) (h1 : t * tp m ≤ n2) (h2 : n2 < (t + 1) * tp m) (hx : x = 1000000000 / (t + 1)) (ht9 : t < 1000000000) : 0 < x ∧ x ≤ 500000000 ∧ n2 * x < tp (m + 1) ∧ tp m ≤ n2 * x := by
  have e1 : x * (t + 1) ≤ 1000000000 := by rw [hx]; exact Nat.div_mul_le_self _ _
  have e2 : 0 < x := by rw [hx]; exact Nat.div_pos (by omega) (by omega)
  refine ⟨e2, ?_, ?_, ?_⟩
  · have : x * 2 ≤ x * (t + 1) := Nat.mul_le_mul_left _ (by omega)
    omega
  · have h3 : n2 * x < (t + 1) * tp m * x := Nat.mul_lt_mul_of_pos_right h2 e2
    have h4 : (t + 1) * tp m * x = x * (t + 1) * tp m := by rw [Nat.mul_right_comm, Nat.mul_comm (t + 1) x]
    have h5 : x * (t + 1) * tp m ≤ 1000000000 * tp m := Nat.mul_le_mul_right _ e1
    rw [tp_succ]
    omega
  · have h3 : 1 * tp m ≤ t * tp m := Nat.mul_le_mul_right _ ht
    have h4 : n2 * 1 ≤ n2 * x := Nat.mul_le_mul_left _ e2
    omega
set_option maxRecDepth 100000 in
set_option maxHeartbeats 4000000 in
theorem divide_small (a1 a2 : Option Addr) (k1 c1 c2 n1 n2 : Nat) (w : World) (h1 : Nt w a1 k1 c1 n1) (h2 : Nt w a2 1 c2 n2) (hle : n2 ≤ n1) :
    Calls Tryz.prog 53 #[.slice a1 k1 c1, .slice a2 1 c2] w (DvP (n1 / n2) (n1 % n2) w) := by
  have HO := Lib.hid (norder_c a1 a2 k1 1 c1 c2 n1 n2 w h1 h2)
  obtain ⟨f2, r2, _, _, t2, s2, _⟩ := h2
  obtain ⟨b2, o2, rfl, _, g2⟩ := r2.at_ (show 0 < 1 by omega)
  have d2 := r2.2.1 0 (by omega)
  have e2 : f2 0 = n2 := by rw [← s2, Tn_one]
  rw [e2, Nat.add_zero] at g2
  rw [e2] at d2
  have hn2 : 0 < n2 := by
    rcases t2 with e | e
    · omega
    · simp at e; omega
  have hsg : ¬ sgn n1 n2 < 0 := by unfold sgn; split <;> (try split) <;> omega
  obtain ⟨sv, hsv⟩ : ∃ sv, sgn n1 n2 = sv := ⟨_, rfl⟩
  rw [hsv] at HO hsg
  have HS := Lib.hid (fun W (hb : Below w.heap.size w W) => short_c a1 k1 c1 n1 n2 W (h1.below hb) hn2 d2)
  have hmod : n1 % n2 < 1000000000 := Nat.lt_trans (Nat.mod_lt _ hn2) d2
  have HN := Lib.hid (fun W => nsmall_c (n1 % n2) W (by omega))
  clear h1 r2 t2 s2 hsv hle
  go_enter Tryz.func53, Tryz.ntmps53
  go_wp2_with fail
  refine HO.out.mono ?_
  rintro e w1 ⟨rfl, q1, rfl⟩
  have B1 : Hid (Below w.heap.size w (w.drewN q1)) := bel_drewN w q1
  go_wp2_with fail
  refine (HS.out _ B1.out).mono ?_
  rintro e w2 ⟨qa, qk, qc, rfl, hQ, b2⟩
  have HQ := Lib.hid hQ
  have B2 := Lib.hid (B1.out.trans (b2.mono B1.out.size))
  clear hQ b2
  go_wp2_with fail
  refine (HN.out w2).mono ?_
  rintro e w3 ⟨ra, rk, rc, rfl, hR, b3⟩
  have R : Hid (DvP (n1 / n2) (n1 % n2) w (.returned (.tuple #[.slice qa qk qc, .slice ra rk rc])) w3) := ⟨_, _, _, _, _, _, rfl, HQ.out.below b3, hR, B2.out.trans (b3.mono B2.out.size)⟩
  clear hR b3
  go_wp2
  go_ret2
  exact R.out
set_option maxRecDepth 100000 in
set_option maxHeartbeats 4000000 in
theorem divide_less (a1 a2 : Option Addr) (k1 k2 c1 c2 n1 n2 : Nat) (w : World) (h1 : Nt w a1 k1 c1 n1) (h2 : Nt w a2 k2 c2 n2) (hlt : n1 < n2) :
    Calls Tryz.prog 53 #[.slice a1 k1 c1, .slice a2 k2 c2] w (DvP (n1 / n2) (n1 % n2) w) := by
  have HO := Lib.hid (norder_c a1 a2 k1 k2 c1 c2 n1 n2 w h1 h2)
  have hsg : sgn n1 n2 < 0 := by unfold sgn; split <;> (try split) <;> omega
  obtain ⟨sv, hsv⟩ : ∃ sv, sgn n1 n2 = sv := ⟨_, rfl⟩
  rw [hsv] at HO hsg
  rw [Nat.div_eq_of_lt hlt, Nat.mod_eq_of_lt hlt]
  have H1 := Lib.hid h1
  clear h1 h2 hsv hlt
  go_enter Tryz.func53, Tryz.ntmps53
  go_wp2_with fail
  refine HO.out.mono ?_
  rintro e w1 ⟨rfl, q1, rfl⟩
  have R : Hid (DvP 0 n1 w (.returned (.tuple #[.slice none 0 0, .slice a1 k1 c1])) (w.drewN q1)) := ⟨_, _, _, _, _, _, rfl, Nt.zero _ _ _ (by omega) Pl.none_, H1.out.below (bel_drewN w q1), bel_drewN w q1⟩
  go_wp2
  go_ret2
  exact R.out
/-- What lies there while zeros are put behind the dividend. -/
structure S9z (w : World) (B0 : Nat) (w0 : World) (ya : Option Addr) (n : Nat) (gy : Nat → Nat) (X j : Nat) (g : Nat → Nat) (v : Value) (wr : World) : Prop where
  dg : Dg B0 w0 g j v wr
  ld : Ld g j
  sm : Tn g j = X
  ry : Rj wr ya n gy
  ap : ∀ q, v.ownBlock = some q → Apart ya n q
  bel : Below w.heap.size w wr
theorem Rj.grownN {W W' : World} {a : Option Addr} {k : Nat} {f : Nat → Nat} {row : Option Nat} (h : Rj W a k f) (hg : W.grownBy W' row) (hne : ∀ q, row = some q → Apart a k q) : Rj W' a k f := by
  refine ⟨h.1, h.2.1, fun h0 => ?_⟩
  obtain ⟨b, off, e, hl, hc⟩ := h.2.2 h0
  refine ⟨b, off, e, Nat.lt_of_lt_of_le hl hg.size, fun j hj => ?_⟩
  rw [World.cell?_of_block (a := ⟨b, off + j, none⟩) (hg.block b hl (fun e2 => hne b e2.symm h0 b off e rfl))]
  exact hc j hj
theorem S9z.step {w w0 wr w' : World} {B0 n X j : Nat} {ya : Option Addr} {gy g : Nat → Nat} {v v' : Value} (h : S9z w B0 w0 ya n gy X j g v wr) (hB : w.heap.size ≤ B0) (o : Obj)
    (hown : w'.ownsRow B0 3 1 v' (j + 1) (dvals g j ++ [.int .i64 ((0 : Nat) : Int)])) (hg : (wr.alloc o).grownBy w' v.ownBlock) (hloc : v'.ownBlock = v.ownBlock ∨ v'.ownBlock = some (wr.heap.size + 1)) :
    S9z w B0 w0 ya n gy X (j + 1) (put g j 0) v' w' := by
  have ra := h.ry.below (bel_one wr o)
  refine ⟨h.dg.more 0 hown o hg, ld_more h.ld (by decide), by rw [Tn_put, h.sm, Nat.zero_mul, Nat.add_zero], ra.grownN hg h.ap, fun q hq => ?_, ?_⟩
  · rcases hloc with e | e
    · exact h.ap q (e.symm.trans hq)
    · rw [e] at hq
      injection hq with hq
      intro h0 b off e2
      obtain ⟨b', off', e', hl, _⟩ := h.ry.2.2 h0
      rw [e2] at e'
      injection e' with e'
      injection e' with e1 _
      omega
  · exact (h.bel.alloc h.bel.size o).grown hg (by have := h.bel.size; simp; omega) (fun q hq => by have := (h.dg.row.lt q hq).1; omega)
theorem from_zeroT (f : Nat → Nat) : from_ f 0 = f := by funext j; unfold from_; rw [Nat.zero_add]
theorem top_ok {x0 x1 x2 y1 y2 P W d rw rd : Nat} (hW : W = ((x0 * 1000000000 + x1) * 1000000000 + x2) * P + rw) (hd : d = (y1 * 1000000000 + y2) * P + rd) (hrd : rd < P) (hy2 : y2 < 1000000000) (hlt : W < 1000000000 * d) :
    x0 * 1000000000 + x1 < (y1 + 1) * 1000000000 := by
  obtain ⟨T, hT⟩ : ∃ T, x0 * 1000000000 + x1 = T := ⟨_, rfl⟩
  rw [hT] at hW ⊢
  obtain ⟨Y, hY⟩ : ∃ Y, y1 * 1000000000 + y2 = Y := ⟨_, rfl⟩
  rw [hY] at hd
  have e1 : T * 1000000000 * P ≤ W := by rw [hW, Nat.add_mul]; omega
  have e2 : d < (Y + 1) * P := by rw [hd, Nat.add_mul]; omega
  have e3 : T * 1000000000 * P < 1000000000 * ((Y + 1) * P) := Nat.lt_of_le_of_lt e1 (Nat.lt_trans hlt (Nat.mul_lt_mul_of_pos_left e2 (by decide)))
  have e4 : T * 1000000000 * P = 1000000000 * (T * P) := by rw [Nat.mul_comm T, Nat.mul_assoc]
  rw [e4] at e3
  have e5 : T * P < (Y + 1) * P := Nat.lt_of_mul_lt_mul_left e3
  have e6 : T < Y + 1 := Nat.lt_of_mul_lt_mul_right e5
  omega
set_option maxRecDepth 100000 in
set_option maxHeartbeats 8000000 in
theorem divide_long (a1 a2 : Option Addr) (k1 m c1 c2 n1 n2 : Nat) (w : World) (h1 : Nt w a1 k1 c1 n1) (h2 : Nt w a2 (m + 2) c2 n2) (hle : n2 ≤ n1) (hk9 : k1 ≤ 90000) :
    Calls Tryz.prog 53 #[.slice a1 k1 c1, .slice a2 (m + 2) c2] w (DvP (n1 / n2) (n1 % n2) w) := by
  obtain ⟨i0, hi, hz0, hz1, hz2⟩ := info_int
  have HO := Lib.hid (norder_c a1 a2 k1 (m + 2) c1 c2 n1 n2 w h1 h2)
  have hmk1 : m + 2 ≤ k1 := by
    have e1 := h2.pos (show 0 < m + 2 by omega)
    have e2 := h1.lt
    have := tp_lt (Nat.lt_of_le_of_lt (Nat.le_trans e1 hle) e2)
    omega
  have N1B : Hid (n1 < tp k1 ∧ tp (k1 - 1) ≤ n1) := ⟨h1.lt, h1.pos (by omega)⟩
  have N2B : Hid (n2 < tp (m + 2) ∧ tp (m + 1) ≤ n2) := ⟨h2.lt, h2.pos (by omega)⟩
  have H1 := Lib.hid h1
  have H2 := Lib.hid h2
  obtain ⟨f2, r2, _, _, t2, s2, _⟩ := h2
  obtain ⟨b2, o2, rfl, _, g2⟩ := r2.at_ (show m + 1 < m + 2 by omega)
  have d2 := r2.2.1 (m + 1) (by omega)
  have htop : 0 < f2 (m + 1) := by
    rcases t2 with e | e
    · omega
    · simp at e; omega
  obtain ⟨fc, hfc⟩ : ∃ x, x = 1000000000 / (f2 (m + 1) + 1) := ⟨_, rfl⟩
  have FC : Hid (0 < fc ∧ fc ≤ 500000000 ∧ n2 * fc < tp (m + 1 + 1) ∧ tp (m + 1) ≤ n2 * fc) := by
    have e : Tn f2 (m + 1) + f2 (m + 1) * tp (m + 1) = n2 := by rw [← s2]; exact (Tn_succ f2 (m + 1)).symm
    have l := Tn_lt (f := f2) (k := m + 1) (fun j hj => r2.2.1 j (by omega))
    exact factor_ok htop (by omega) (by rw [Nat.add_mul, Nat.one_mul]; omega) hfc d2
  obtain ⟨top, htp⟩ : ∃ t, f2 (m + 1) = t := ⟨_, rfl⟩
  rw [htp] at g2 d2 hfc
  obtain ⟨m1, hm1⟩ : ∃ m1, m + 1 = m1 := ⟨_, rfl⟩
  rw [hm1] at g2
  have em1 : (m : Int) + 2 - 1 = (m1 : Int) := by omega
  have lm1 : (m1 : Int) < (m : Int) + 2 := by omega
  have et : (top : Int) + 1 = ((top + 1 : Nat) : Int) := by omega
  obtain ⟨top1, htp1⟩ : ∃ t, top + 1 = t := ⟨_, rfl⟩
  rw [htp1] at et hfc
  have e1 : (1000000000 : Int).tdiv (top1 : Int) = (fc : Int) := tdiv_lit hfc
  have ht1 : (top1 : Int) ≠ 0 := by omega
  have ht19 : top1 ≤ 1000000000 := by omega
  have hsg : ¬ sgn n1 n2 < 0 := by unfold sgn; split <;> (try split) <;> omega
  obtain ⟨sv, hsv⟩ : ∃ sv, sgn n1 n2 = sv := ⟨_, rfl⟩
  rw [hsv] at HO hsg
  have hfc9 : fc ≤ 1000000000 := by have := FC.out.2.1; omega
  have HX := Lib.hid (fun W (hb : Below w.heap.size w W) => scaled_c a1 k1 c1 n1 fc W (H1.out.below hb) hfc9 (by omega))
  have HY := Lib.hid (fun W (hb : Below w.heap.size w W) => scaled_c (some ⟨b2, o2, none⟩) (m + 2) c2 n2 fc W (H2.out.below hb) hfc9 (by omega))
  have hk1 : ((m : Int) + 2 == 1) = false := by rw [beq_eq_false_iff_ne]; omega
  have hfw := (wrap_lo (Nat.le_trans hfc9 (by decide))).1
  have hfw2 := (wrap_lo (Nat.le_trans hfc9 (by decide))).2
  clear h1 r2 t2 s2 hsv htop hfc htp htp1 hm1 H1 H2
  go_enter Tryz.func53, Tryz.ntmps53
  go_wp2_with fail
  refine HO.out.mono ?_
  rintro e w1 ⟨rfl, q1, rfl⟩
  have B1 : Hid (Below w.heap.size w (w.drewN q1)) := bel_drewN w q1
  go_wp2_with fail
  refine (HX.out _ B1.out).mono ?_
  rintro e w2 ⟨xa, xk, xc, gx, rfl, dx, lx, tx, sx, hxk⟩
  have b2' := dx.bel
  have DX := Lib.hid dx
  have LX := Lib.hid lx
  have SX := Lib.hid sx
  have TX := Lib.hid tx
  have B2 := Lib.hid (B1.out.trans (b2'.mono B1.out.size))
  clear dx lx sx tx b2' HX
  go_wp2_with fail
  refine (HY.out _ B2.out).mono ?_
  rintro e w3 ⟨ya, yk, yc, gy, rfl, dy, ly, ty, sy, hyk⟩
  obtain ⟨ya', yc', e, hry, _, _, _⟩ := dy.reads (by omega) ly
  injection e with e9 _ e10
  subst e9 e10
  have hymk : yk = m + 2 := by
    have h1 := tod_len (K := m + 1 + 1) ty (by rw [sy]; exact FC.out.2.2.1)
    have h2 := tp_lt (Nat.lt_of_le_of_lt FC.out.2.2.2 (by rw [← sy]; exact Tn_lt ly))
    omega
  subst hymk
  have b3' := dy.bel
  have YF := Lib.hid dy.fresh
  have RY := Lib.hid hry
  have LY := Lib.hid ly
  have SY := Lib.hid sy
  have TY : Hid (0 < gy (m + 1)) := by
    rcases ty with e | e
    · omega
    · simp at e; unfold Hid; omega
  have B3 := Lib.hid (B2.out.trans (b3'.mono B2.out.size))
  have B3S := Lib.hid b3'.size
  have DX2 := Lib.hid DX.out
  have DX3 : Hid (Dg (w.drewN q1).heap.size (w.drewN q1) gx xk (.slice xa xk xc) w3) := ⟨own_keepJ DX.out.row b3', DX.out.bel.trans (b3'.mono DX.out.size), Nat.le_trans DX.out.size b3'.size⟩
  clear dy hry ly sy ty b3' DX HY
  have XK : Hid (k1 ≤ xk ∧ xk ≤ k1 + 1) := by
    have e1 : n1 * fc < tp (k1 + 1) := by
      rw [tp_succ]
      exact Nat.lt_of_lt_of_le (Nat.mul_lt_mul_of_pos_right N1B.out.1 FC.out.1) (Nat.mul_le_mul_left _ hfc9)
    have e2 : tp (k1 - 1) ≤ n1 * fc := Nat.le_trans N1B.out.2 (Nat.le_mul_of_pos_right _ FC.out.1)
    have h1 := tod_len (K := k1 + 1) TX.out (by rw [SX.out]; exact e1)
    have h2 := tp_lt (Nat.lt_of_le_of_lt e2 (by rw [← SX.out]; exact Tn_lt LX.out))
    constructor <;> omega
  obtain ⟨D, hD⟩ : ∃ D, n2 * fc = D := ⟨_, rfl⟩
  obtain ⟨X, hX⟩ : ∃ X, n1 * fc = X := ⟨_, rfl⟩
  have HD := Lib.hid hD
  have HX := Lib.hid hX
  have FC9 : Hid (fc ≤ 500000000) := FC.out.2.1
  have DB : Hid (D < tp (m + 2) ∧ tp (m + 1) ≤ D ∧ Tn gy (m + 2) = D ∧ X < D * tp (k1 - (m + 1)) ∧ 0 < fc) := by
    have h := FC.out
    rw [hD] at h
    refine ⟨h.2.2.1, h.2.2.2, by rw [← hD]; exact SY.out, ?_, h.1⟩
    rw [← hD, ← hX]
    have e1 : tp k1 = tp (m + 1) * tp (k1 - (m + 1)) := by rw [← tp_add]; congr 1; omega
    have e2 : n1 < n2 * tp (k1 - (m + 1)) := by
      have h1 := N1B.out.1
      rw [e1] at h1
      exact Nat.lt_of_lt_of_le h1 (Nat.mul_le_mul_right _ N2B.out.2)
    rw [Nat.mul_right_comm]
    exact Nat.mul_lt_mul_of_pos_right e2 h.1
  have YB : Hid (Rj w3 ya (m + 2) gy ∧ w2.heap.size ≤ w3.heap.size) := ⟨RY.out, B3S.out⟩
  have Z0 : Hid (S9z w (w.drewN q1).heap.size (w.drewN q1) ya (m + 2) gy X xk gx (.slice xa xk xc) w3) := by
    refine ⟨DX3.out, LX.out, by rw [← hX]; exact SX.out, RY.out, fun q hq h0 b off e => ?_, B3.out⟩
    have h1 := (DX2.out.row.lt q hq).2
    have h2 := YF.out b off e
    omega
  have XK' := XK.out
  have hwB : w.heap.size ≤ (w.drewN q1).heap.size := B1.out.size
  generalize (w.drewN q1).heap.size = B0 at Z0 hwB
  generalize w.drewN q1 = w00 at Z0
  clear DX3 DX2 LX SX SY TX FC XK hD hX hfc9 e1 ht1 ht19 hfw hfw2 hsg hk1 HO et lm1 em1 g2 YB YF RY B3S B3 B2 B1
  go_wp2_with fail
  go_loopw [9] (fun v wr => ∃ (j : Nat) (g : Nat → Nat), k1 ≤ j ∧ j ≤ k1 + 1 ∧ Hid (S9z w B0 w00 ya (m + 2) gy X j g v wr)) (fun v _ => k1 + 1 - (match v with | .slice _ n _ => n | _ => 0))
  case atStart => exact ⟨xk, gx, XK'.1, XK'.2, Z0.out⟩
  case round =>
    clear Z0 XK'
    obtain ⟨j, g, hj1, hj2, hR⟩ := hrel
    obtain ⟨va, vc, hv, hrj, _, _, _⟩ := hR.out.dg.reads (by omega) hR.out.ld
    subst hv
    by_cases hlt : j ≤ k1
    · obtain rfl : j = k1 := by omega
      clear hrj
      go_wp2_with (at_builtin; refine wpList_append_own_at _ rfl _ _ 48 rfl B0 3 i0 (.int .i64 0) 1 8 Tryz.underlying48 hi hz0 hz1 hz2 rfl (by decide) _ _ _ rfl (hR.out.dg.row.alloc _) ⟨wr.heap.size, 0, none⟩ 1 1 [.int .i64 0] rfl rfl ?c1A ?c2A ?c3A ?c4A ?c5A ?_)
      try
        case c1A =>
          intro i u hu
          match i, hu with
          | 0, hu => simp at hu; subst hu; simp [Addr.add]
      try (case c2A => first | (intro u hu; simp at hu; subst hu; rfl) | rfl)
      try (case c3A => unfold maxLen; omega)
      try (case c4A => omega)
      try (case c5A => have := hR.out.dg.size; simp; omega)
      intro v' w1 hown' hgrow _ hloc
      have NX : Hid (S9z w B0 w00 ya (m + 2) gy X (j + 1) (put g j 0) v' w1) := hR.out.step hwB _ hown' hgrow (by simpa using hloc)
      obtain ⟨va', vc', hv', _⟩ := NX.out.dg.reads (by omega) NX.out.ld
      subst hv'
      clear hown' hgrow hloc hR
      go_wp2
      go_roundw
      case rel => exact ⟨j + 1, put g j 0, by omega, by omega, NX.out⟩
      case measure => first | (simp; done) | (simp; omega)
    · obtain rfl : j = k1 + 1 := by omega
      have hlt' : ¬ ((k1 : Int) + 1) ≤ (k1 : Int) := by omega
      obtain ⟨gx, cap, hv, hgB, hcap, hcap9, hBt⟩ := hR.out.dg.block hR.out.ld (by omega)
      injection hv with hv1 _ hv2
      subst hv1 hv2
      have AP : Hid (Apart ya (m + 2) gx) := hR.out.ap gx rfl
      obtain ⟨L, hL⟩ : ∃ L, k1 - (m + 1) = L := ⟨_, rfl⟩
      have hLk : L + (m + 1) = k1 := by omega
      have eL : (k1 : Int) + 1 - ((m : Int) + 2) = (L : Int) := by omega
      have hL9 : L ≤ 100000 := by omega
      have hLp : 0 < L := by omega
      have hmk := fun w => mk_digits L hL9 w
      have BTX := Lib.hid hBt
      have RYR := Lib.hid hR.out.ry
      have BLR := Lib.hid hR.out.bel
      have SMX := Lib.hid hR.out.sm
      have GXB : Hid (w.heap.size ≤ gx ∧ gx < wr.heap.size) := ⟨by omega, hBt.1⟩
      rw [hL] at DB
      have hdb := DB.out.2.2.1
      clear hBt hrj hR hlt
      go_wp2_with fail
      obtain ⟨wB, hwB'⟩ : ∃ x : World, x = wr := ⟨_, rfl⟩
      subst hwB'
      have B4 : Hid (Below wB.heap.size wB (wB.alloc (.cells (madeCells #[.int .i64 0] L) 3))) := bel_one _ _
      have BM := Lib.hid (Bt.made wB L 3)
      have BX4 := Lib.hid (BTX.out.belowX B4.out)
      obtain ⟨go, hgo⟩ : ∃ go, wB.heap.size = go := ⟨_, rfl⟩
      have GO : Hid (wB.heap.size ≤ go ∧ gx ≠ go) := by have := GXB.out.2; unfold Hid; omega
      rw [hgo] at BM
      generalize hW4 : wB.alloc (.cells (madeCells #[.int .i64 0] L) 3) = w4 at *
      rw [hgo]
      have HA : Hid (Lt wB gx go (k1 + 1) L D X L g (fun _ => 0) w4) := by
        refine ⟨BX4.out, BM.out, grows_below B4.out, ?_, ?_⟩
        · rw [Nat.sub_self, Tn_zero, Nat.mul_zero, Nat.mul_zero, Nat.add_zero]; exact SMX.out
        · have h := Tn_at g L (k1 + 1 - L)
          rw [show L + (k1 + 1 - L) = k1 + 1 by omega, SMX.out] at h
          have h2 := DB.out.2.2.2.1
          have h3 : tp L * Tn (from_ g L) (k1 + 1 - L) < tp L * D := by rw [Nat.mul_comm (tp L) D]; omega
          exact Nat.lt_of_mul_lt_mul_left h3
      clear hW4 hmk B4 BM BX4 hgo BTX
      have TY' := TY.out
      go_loopw [13] (fun i wx => ∃ (j : Nat) (F G : Nat → Nat), j ≤ L ∧ i = .int .i64 ((j : Int) - 1) ∧ Hid (Lt wB gx go (k1 + 1) L D X j F G wx)) (fun i _ => (intOf i + 1).toNat)
      case atStart => exact ⟨L, g, fun _ => 0, Nat.le_refl _, rfl, HA.out⟩
      case round =>
        clear HA
        obtain ⟨j, F, G, hj, rfl, hR⟩ := hrel
        rcases Nat.eq_zero_or_pos j with e | e
        · subst e
          have E : Hid (Tn G L = n1 / n2 ∧ Tn F (k1 + 1) / fc = n1 % n2) := by
            have hs1 := hR.out.sum
            have hs2 := hR.out.low
            rw [from_zeroT, Nat.sub_zero, tp_zero, Nat.one_mul] at hs1
            rw [from_zeroT, Nat.sub_zero] at hs2
            refine unscale DB.out.2.2.2.2 ?_ (by rw [HD.out]; exact hs2)
            rw [HD.out, HX.out]
            exact hs1
          have RR := Lib.hid hR.out
          clear hR
          have BW : Hid (Below w.heap.size w wr) := BLR.out.grown RR.out.grw BLR.out.size (fun q hq => by cases hq; exact GXB.out.1)
          have HT := Lib.hid (ntrim_c (some ⟨gx, 0, none⟩) (k1 + 1) vc F wr (RR.out.rest.rj (by omega)) hcap (by omega) (Pl.some_ _ _))
          go_wp2_with fail
          refine HT.out.mono ?_
          rintro e w5 ⟨mr, rfl, hN, rfl⟩
          have HSH := Lib.hid (short_c (some ⟨gx, 0, none⟩) mr vc (Tn F (k1 + 1)) fc wr hN DB.out.2.2.2.2 (by have := FC9.out; omega))
          clear hN HT
          go_wp2_with fail
          refine HSH.out.mono ?_
          rintro e w6 ⟨ra, rk, rc, rfl, hN, b6⟩
          rw [E.out.2] at hN
          have RN := Lib.hid hN
          have B6 := Lib.hid b6
          have HQ := Lib.hid (ntrim_c (some ⟨go, 0, none⟩) L L G w6 ((RR.out.quo.belowX b6).rj hL9) (Nat.le_refl _) (by omega) (Pl.some_ _ _))
          clear hN b6 HSH
          go_wp2_with fail
          refine HQ.out.mono ?_
          rintro e w7 ⟨mq, rfl, hN, rfl⟩
          rw [E.out.1] at hN
          have R : Hid (DvP (n1 / n2) (n1 % n2) w (.returned (.tuple #[.slice (some ⟨go, 0, none⟩) mq L, .slice ra rk rc])) w6) := ⟨_, _, _, _, _, _, rfl, hN, RN.out, BW.out.trans (B6.out.mono BW.out.size)⟩
          clear hN HQ
          go_wp2
          go_ret2
          exact R.out
        · obtain ⟨p, rfl⟩ : ∃ p, j = p + 1 := ⟨j - 1, by omega⟩
          have ei : ((p + 1 : Nat) : Int) - 1 = (p : Int) := by omega
          rw [ei]
          have hpL : p < L := by omega
          have hpL' : (p : Int) < (L : Int) := by omega
          have RYP := Lib.hid (RYR.out.grown hR.out.grw AP.out)
          have hpK : p + (m + 2 + 1) ≤ k1 + 1 := by omega
          have hFp := hR.out.rest.2.1 p (by omega)
          have WIN : Hid (Tn (from_ F p) (m + 2 + 1) < 1000000000 * D) := tlong_win hpK DB.out.1 hFp hR.out.low
          obtain ⟨rw0, hrw, hW3⟩ := top3 (f := F) (p := p) (m := m) (fun i hi => hR.out.rest.2.1 _ (by omega))
          obtain ⟨rd0, hrd, hD3⟩ := top2 (f := gy) (m := m) (fun i hi => LY.out i (by omega))
          rw [hdb] at hD3
          have hyd := LY.out m (by omega)
          have GS := Lib.hid (guess_c (k1 + 1) vc p m yc (some ⟨gx, 0, none⟩) ya F gy wr (hR.out.rest.rj (by omega)) RYP.out (by omega) TY' (top_ok hW3 hD3 hrd hyd WIN.out))
          have GD : Hid (∀ q, Gu (F (p + m + 2) * 1000000000 + F (p + m + 1)) (F (p + m)) (gy (m + 1)) (gy m) q → q < 1000000000 ∧ q * D < Tn (from_ F p) (m + 2 + 1) + D ∧ Tn (from_ F p) (m + 2 + 1) < (q + 1) * D) := fun q hg => ⟨hg.lt, gu_digit hg (tp_pos m) hW3 hrw hD3 hrd TY' WIN.out⟩
          clear hFp hrw hW3 hrd hD3 hyd
          go_wp2_with fail
          refine GS.out.mono ?_
          rintro e w1 ⟨q0, rfl, hgu, nk, rfl⟩
          have GQ := Lib.hid (GD.out q0 hgu)
          have hq0 := GQ.out.1
          have LW := Lib.hid (hR.out.keep (bel_drewN wr nk))
          clear hgu GS GD hR RYP WIN
          generalize wr.drewN nk = W1 at *
          have hBj := LW.out.quo.2.2 p hpL
          have c1 := hBj.1
          have f1 := hBj.2
          obtain ⟨W2, hW2⟩ : ∃ W2, W1.setCell ⟨go, p, none⟩ (.int .i64 (q0 : Int)) = W2 := ⟨_, rfl⟩
          have gr2 : wB.grownBy W2 (some gx) := by rw [← hW2]; exact grows_set LW.out.grw GO.out.1
          have rest2 : Bt W2 gx (k1 + 1) F := by rw [← hW2]; exact LW.out.rest.other (grown_put (World.grownBy.refl W1 (some go))) GO.out.2
          have quo2 : Bt W2 go L (put G p q0) := by rw [← hW2]; exact LW.out.quo.put hpL hq0
          have c2 : W2.cell? ⟨go, p, none⟩ = some (.int .i64 (q0 : Int)) := by have := (quo2.2.2 p hpL).1; rw [put_same] at this; exact this
          have TK := Lib.hid (take_c gx (k1 + 1) vc p (m + 2) yc q0 ya F gy W2 rest2 (RYR.out.grown gr2 AP.out) AP.out hpK (by omega) hq0)
          have GR2 := Lib.hid gr2
          have QU2 := Lib.hid quo2
          clear hBj gr2 rest2 quo2
          go_wp2_with fail
          clear hW2 c1 f1 c2
          refine TK.out.mono ?_
          rintro e W3 ⟨F1, b, rfl, hWt, hs1⟩
          rw [hdb] at hs1
          have WT := Lib.hid hWt
          have HS1 := Lib.hid hs1
          have GR3 := Lib.hid (GR2.out.trans hWt.grw)
          have QU3 := Lib.hid (QU2.out.other hWt.grw (fun e => GO.out.2 e.symm))
          have LT1 : Hid (Tn (from_ F1 p) (m + 2 + 1) < tp (m + 2 + 1)) := Tn_lt fun i hi => hWt.bf.2.1 _ (by omega)
          have DLT : Hid (D < tp (m + 2 + 1)) := Nat.lt_of_lt_of_le DB.out.1 (tp_mono (Nat.le_succ _))
          have hq3 := (QU3.out.2.2 p hpL)
          rw [put_same] at hq3
          have c3 := hq3.1
          have f3 := hq3.2
          clear hWt hs1 TK GR2 QU2 hq3
          by_cases hb : 0 < b
          · obtain ⟨q', rfl⟩ : ∃ q', q0 = q' + 1 := ⟨q0 - 1, by
              rcases Nat.eq_zero_or_pos q0 with e | e
              · subst e
                have h1 := HS1.out
                have h2 := LT1.out
                have h3 := Nat.mul_le_mul_right (tp (m + 2 + 1)) (show 1 ≤ b from hb)
                rw [Nat.zero_mul] at h1
                omega
              · omega⟩
            have hd1 : decide (0 < b) = true := decide_eq_true hb
            rw [hd1]
            have eq' : ((q' + 1 : Nat) : Int) - 1 = (q' : Int) := by omega
            obtain ⟨qq, hqq⟩ : ∃ qq : Int, ((q' + 1 : Nat) : Int) = qq := ⟨_, rfl⟩
            have hqqb : 1 ≤ qq ∧ qq ≤ 1000000000 := by omega
            rw [hqq] at eq' c3
            clear hqq hd1
            obtain ⟨W4, hW4⟩ : ∃ W4, W3.setCell ⟨go, p, none⟩ (.int .i64 (q' : Int)) = W4 := ⟨_, rfl⟩
            have gr4 : wB.grownBy W4 (some gx) := by rw [← hW4]; exact grows_set GR3.out GO.out.1
            have rest4 : Bt W4 gx (k1 + 1) F1 := by rw [← hW4]; exact WT.out.bf.other (grown_put (World.grownBy.refl W3 (some go))) GO.out.2
            have quo4 : Bt W4 go L (put G p q') := by
              have := QU3.out.put hpL (show q' < 1000000000 by omega)
              rw [put_put, hW4] at this
              exact this
            have GV := Lib.hid (give_c gx (k1 + 1) vc p (m + 2) yc ya F1 gy W4 rest4 (RYR.out.grown gr4 AP.out) AP.out hpK (by omega))
            have GR4 := Lib.hid gr4
            have QU4 := Lib.hid quo4
            have HBT := Lib.hid hb
            clear gr4 rest4 quo4 hb
            go_wp2_with fail
            clear hW4 c3 f3
            refine GV.out.mono ?_
            rintro e W5 ⟨F2, y, hy1, rfl, hWt2, hs2⟩
            rw [hdb] at hs2
            have NX : Hid (Lt wB gx go (k1 + 1) L D X p F2 (put G p q') W5) := by
              have hF2 : Tn (from_ F2 p) (m + 2 + 1) < tp (m + 2 + 1) := Tn_lt fun i hi => hWt2.bf.2.1 _ (by omega)
              have hb : 0 < b := HBT.out
              have ty := take_yes HS1.out hs2 hF2 DLT.out LT1.out hb GQ.out.2.1
              rw [Nat.add_sub_cancel] at ty
              have hlt : Tn (from_ F2 p) (m + 2 + 1) < D := by
                have h1 := HS1.out
                have h3 := GQ.out.2.1
                have h4 := ty.2
                have h5 := GQ.out.2.2
                have h6 := LT1.out
                have hbB : tp (m + 2 + 1) ≤ b * tp (m + 2 + 1) := Nat.le_mul_of_pos_left _ hb
                rw [Nat.add_mul, Nat.one_mul] at h1 h3
                omega
              have tn := tlong_next hpK hpL DB.out.1 LW.out.sum LW.out.low (fun i hi => (hWt2.out i hi).trans (WT.out.out i hi)) ty.2 hlt
              exact ⟨hWt2.bf, QU4.out.other hWt2.grw (fun e => GO.out.2 e.symm), GR4.out.trans hWt2.grw, tn.1, tn.2⟩
            clear hWt2 hs2 GV
            go_wp2
            go_roundw
            case rel => exact ⟨p, F2, put G p q', by omega, by go_num, NX.out⟩
            case measure => first | (simp [intOf]; done) | (simp [intOf]; omega)
          · have hd1 : decide (0 < b) = false := decide_eq_false hb
            rw [hd1]
            have NX : Hid (Lt wB gx go (k1 + 1) L D X p F1 (put G p q0) W3) := by
              have tk := take_no HS1.out LT1.out hb
              have hlt : Tn (from_ F1 p) (m + 2 + 1) < D := by
                have h2 := GQ.out.2.2
                rw [Nat.add_mul, Nat.one_mul] at h2
                omega
              have tn := tlong_next hpK hpL DB.out.1 LW.out.sum LW.out.low WT.out.out tk hlt
              exact ⟨WT.out.bf, QU3.out, GR3.out, tn.1, tn.2⟩
            clear hd1 hb c3 f3
            go_wp2
            go_roundw
            case rel => exact ⟨p, F1, put G p q0, by omega, by go_num, NX.out⟩
            case measure => first | (simp [intOf]; done) | (simp [intOf]; omega)
theorem rdivide_c (a1 a2 : Option Addr) (k1 k2 c1 c2 n1 n2 : Nat) (w : World) (h1 : Nt w a1 k1 c1 n1) (h2 : Nt w a2 k2 c2 n2) (hd : 0 < n2) (hk9 : k1 ≤ 90000) :
    Calls Tryz.prog 53 #[.slice a1 k1 c1, .slice a2 k2 c2] w (DvP (n1 / n2) (n1 % n2) w) := by
  have hk := h2.one hd
  rcases Nat.lt_or_ge n1 n2 with l | l
  · exact divide_less a1 a2 k1 k2 c1 c2 n1 n2 w h1 h2 l
  · rcases Nat.lt_or_ge k2 2 with e | e
    · obtain rfl : k2 = 1 := by omega
      exact divide_small a1 a2 k1 c1 c2 n1 n2 w h1 h2 l
    · obtain ⟨m, rfl⟩ : ∃ m, k2 = m + 2 := ⟨k2 - 2, by omega⟩
      exact divide_long a1 a2 k1 m c1 c2 n1 n2 w h1 h2 l hk9
end Go.Proofs.YtchdfekajjeflaaGreatDoor
