/-
  firstIn and isFinal of package sample; a list that has a number.
-/
import Derived.Test.YtaiiobojlipbeaaSmpRCall
namespace Go.Proofs.Ytaiiobojlipbeaa
open Go.RowKit

theorem contains_c (a : Option Addr) (c : Nat) (D : List Int) (x : Int) (w : World) (h : Rd w a D) :
    Calls Try.prog 37 #[.slice a D.length c, .int .i64 x] w fun e w' => e = .returned (.bool (D.contains x)) ∧ w = w' := by
  by_cases h0 : D.length = 0
  · have e := List.eq_nil_of_length_eq_zero h0
    subst e
    refine (Try.slices_Contains_int_empty a c x w).mono ?_
    rintro e w' ⟨rfl, rfl⟩
    exact ⟨rfl, rfl⟩
  · obtain ⟨b, off, rfl, _, k⟩ := h.2 (by omega)
    refine (Try.slices_Contains_int b off D.length c D x w (Nat.le_refl _) h.1 k).mono ?_
    rintro e w' ⟨rfl, rfl⟩
    exact ⟨by rw [take_self], rfl⟩
theorem weekdayOf_c (d : Int) (w : World) (h0 : 0 ≤ d) (h1 : d ≤ 1000000000000) :
    Calls Try.prog 39 #[.int .i64 d] w fun e w' => e = .returned (.int .i64 ((d + 3) % 7)) ∧ w = w' := by
  go_enter Try.func39, Try.ntmps39
  go_wp2
  go_ret
  exact ⟨rfl, rfl⟩
theorem isFinal_y (o : Int) (w : World) (h : o = 1 ∨ o = 2 ∨ o = 4) : Calls Try.prog 33 #[.int .i64 o] w fun e w' => e = .returned (.bool true) ∧ w = w' := by
  rcases h with rfl | rfl | rfl
  all_goals
    go_enter Try.func33, Try.ntmps33
    go_wp2
    go_ret
    exact ⟨rfl, rfl⟩
theorem isFinal_n (o : Int) (w : World) (h : ¬ (o = 1 ∨ o = 2 ∨ o = 4)) : Calls Try.prog 33 #[.int .i64 o] w fun e w' => e = .returned (.bool false) ∧ w = w' := by
  have h1 : (o == 1) = false := by rw [beq_eq_false_iff_ne]; omega
  have h2 : (o == 2) = false := by rw [beq_eq_false_iff_ne]; omega
  have h4 : (o == 4) = false := by rw [beq_eq_false_iff_ne]; omega
  clear h
  go_enter Try.func33, Try.ntmps33
  go_wp2
  go_ret
  exact ⟨rfl, rfl⟩

/-- A weekday of the list is among the next k days. -/
def Near (D : List Int) (k : Nat) (d : Int) : Prop := ∃ i : Nat, i < k ∧ D.contains ((d + i + 3) % 7) = true
theorem Near.next {D : List Int} {k : Nat} {d : Int} (h : Near D k d) (hc : D.contains ((d + 3) % 7) = false) : Near D (k - 1) (d + 1) := by
  obtain ⟨i, hi, he⟩ := h
  rcases Nat.eq_zero_or_pos i with h0 | h0
  · subst h0
    rw [show d + ((0 : Nat) : Int) + 3 = d + 3 by omega, hc] at he
    exact absurd he (by simp)
  · exact ⟨i - 1, by omega, by rw [show d + 1 + ((i - 1 : Nat) : Int) + 3 = d + (i : Int) + 3 by omega]; exact he⟩
theorem Near.pos {D : List Int} {k : Nat} {d : Int} (h : Near D k d) : 0 < k := by
  obtain ⟨i, hi, _⟩ := h; omega
theorem dayF_bd {D : List Int} (k : Nat) (d : Int) : d ≤ Sm.dayF D k d ∧ Sm.dayF D k d ≤ d + k := by
  induction k generalizing d with
  | zero => simp [Sm.dayF]
  | succ k ih =>
    unfold Sm.dayF
    split
    · omega
    · have := ih (d + 1); omega
set_option maxHeartbeats 2000000 in
theorem firstIn_c (f t m : Int) (a : Option Addr) (c : Nat) (D : List Int) (w : World) (h : Rd w a D) (hD : D ≠ []) (hd : ∀ x ∈ D, 0 ≤ x ∧ x ≤ 6) (f0 : 0 ≤ f) (ft : f < t) (t0 : t ≤ 1440) (m0 : 0 ≤ m) (m1 : m ≤ 2000000000000) :
    Calls Try.prog 34 #[.agg #[.int .i64 f, .int .i64 t], .slice a D.length c, .int .i64 m] w (OnePost (Sm.dueAt D (f, t) m) w) := by
  obtain ⟨d0, hd0⟩ : ∃ d0, d0 = Sm.day0 (f, t) m := ⟨_, rfl⟩
  have hnear : Near D 7 d0 := Sm.day_there hD hd d0
  have dv := Int.mul_ediv_add_emod m 1440
  have dm := Int.emod_nonneg m (show (1440 : Int) ≠ 0 by omega)
  have dl := Int.emod_lt_of_pos m (show (0 : Int) < 1440 by omega)
  obtain ⟨q, hq⟩ : ∃ q, q = m / 1440 := ⟨_, rfl⟩
  have q0 : 0 ≤ q := by omega
  have q1 : q ≤ 1500000000 := by omega
  have hZ : Hid (Sm.dueAt D (f, t) m = max m (Sm.dayF D 7 d0 * 1440 + f)) := by rw [hd0]; rfl
  have H := Lib.hid h
  have hW := Lib.hid (Win.start w f t 55)
  have hNear := Lib.hid hnear
  have hq2 : m.tdiv 1440 = q := by rw [hq]; exact Int.tdiv_eq_ediv_of_nonneg m0
  have hq3 : m / 1440 = q := hq.symm
  have hdd : Hid (d0 = if q * 1440 + t ≤ m then q + 1 else q) := by unfold Hid; rw [hd0, hq]; rfl
  clear h hD hd hnear hd0 dv dm dl hq
  by_cases c1 : q * 1440 + t ≤ m
  · have hE : Hid (d0 = q + 1) := by unfold Hid; rw [hdd.out, if_pos c1]
    have d1 : decide (q * 1440 + t ≤ m) = true := by simp; omega
    have e0 : 0 ≤ d0 := by rw [hE.out]; omega
    have e1 : d0 ≤ 2000000000 := by rw [hE.out]; omega
    clear hdd c1
    go_enter Try.func34, Try.ntmps34
    go_wp2
    rw [← hE.out]
    generalize w.alloc (.cells #[.int .i64 f, .int .i64 t] 55) = w1 at *
    clear d1 hE
    go_loop [7] (fun x => ∃ (k : Nat) (d : Int), x = .int .i64 d ∧ d + k = d0 + 7 ∧ d0 ≤ d ∧ Hid (Near D k d) ∧ Hid (Sm.dayF D 7 d0 = Sm.dayF D k d)) (fun x => (d0 + 7 - intOf x).toNat)
    case atStart => exact ⟨7, d0, rfl, by omega, by omega, hNear.out, rfl⟩
    case round =>
      obtain ⟨k, d, rfl, hk, hd, hN, hF⟩ := hrel
      have kp := hN.out.pos
      have hwk := Lib.hid (fun w => weekdayOf_c d w (by omega) (by omega))
      have hct := Lib.hid (contains_c a c D ((d + 3) % 7) w1 (H.out.below hW.out.bel))
      by_cases hc : D.contains ((d + 3) % 7) = true
      · have hE : Hid (Sm.dayF D 7 d0 = d) := by unfold Hid; rw [hF.out, Sm.dayF_yes kp hc]
        rw [hc] at hct
        have HC := Lib.hid hc
        have u0 := hW.out.c0
        have u1 := hW.out.c1
        obtain ⟨z, hz⟩ : ∃ z, max m (d * 1440 + f) = z := ⟨_, rfl⟩
        have hZ' : Hid (Sm.dueAt D (f, t) m = z) := by unfold Hid; rw [hZ.out, hE.out, hz]
        clear hc hF hN hZ hE hNear
        go_wp2_with fail
        refine (hwk.out _).mono ?_
        rintro e w' ⟨rfl, rfl⟩
        go_wp2_with fail
        refine hct.out.mono ?_
        rintro e w' ⟨rfl, rfl⟩
        go_wp2
        go_ret
        exact ⟨by rw [hZ'.out]; rfl, hW.out.bel⟩
      · have hc' : D.contains ((d + 3) % 7) = false := by simpa using hc
        have hE : Hid (Sm.dayF D 7 d0 = Sm.dayF D (k - 1) (d + 1)) := by unfold Hid; rw [hF.out, Sm.dayF_no kp hc']
        have hN' := Lib.hid (hN.out.next hc')
        rw [hc'] at hct
        clear hc hc' hF hN hZ hNear
        go_wp2_with fail
        refine (hwk.out _).mono ?_
        rintro e w' ⟨rfl, rfl⟩
        go_wp2_with fail
        refine hct.out.mono ?_
        rintro e w' ⟨rfl, rfl⟩
        go_wp2
        go_round
        case rel => exact ⟨k - 1, d + 1, rfl, by omega, by omega, hN'.out, hE.out⟩
        case measure => simp [intOf]; omega
  · have hE : Hid (d0 = q) := by unfold Hid; rw [hdd.out, if_neg c1]
    have d1 : decide (q * 1440 + t ≤ m) = false := by simp; omega
    have e0 : 0 ≤ d0 := by rw [hE.out]; omega
    have e1 : d0 ≤ 2000000000 := by rw [hE.out]; omega
    clear hdd c1
    go_enter Try.func34, Try.ntmps34
    go_wp2
    rw [← hE.out]
    generalize w.alloc (.cells #[.int .i64 f, .int .i64 t] 55) = w1 at *
    clear d1 hE
    go_loop [7] (fun x => ∃ (k : Nat) (d : Int), x = .int .i64 d ∧ d + k = d0 + 7 ∧ d0 ≤ d ∧ Hid (Near D k d) ∧ Hid (Sm.dayF D 7 d0 = Sm.dayF D k d)) (fun x => (d0 + 7 - intOf x).toNat)
    case atStart => exact ⟨7, d0, rfl, by omega, by omega, hNear.out, rfl⟩
    case round =>
      obtain ⟨k, d, rfl, hk, hd, hN, hF⟩ := hrel
      have kp := hN.out.pos
      have hwk := Lib.hid (fun w => weekdayOf_c d w (by omega) (by omega))
      have hct := Lib.hid (contains_c a c D ((d + 3) % 7) w1 (H.out.below hW.out.bel))
      by_cases hc : D.contains ((d + 3) % 7) = true
      · have hE : Hid (Sm.dayF D 7 d0 = d) := by unfold Hid; rw [hF.out, Sm.dayF_yes kp hc]
        rw [hc] at hct
        have HC := Lib.hid hc
        have u0 := hW.out.c0
        have u1 := hW.out.c1
        obtain ⟨z, hz⟩ : ∃ z, max m (d * 1440 + f) = z := ⟨_, rfl⟩
        have hZ' : Hid (Sm.dueAt D (f, t) m = z) := by unfold Hid; rw [hZ.out, hE.out, hz]
        clear hc hF hN hZ hE hNear
        go_wp2_with fail
        refine (hwk.out _).mono ?_
        rintro e w' ⟨rfl, rfl⟩
        go_wp2_with fail
        refine hct.out.mono ?_
        rintro e w' ⟨rfl, rfl⟩
        go_wp2
        go_ret
        exact ⟨by rw [hZ'.out]; rfl, hW.out.bel⟩
      · have hc' : D.contains ((d + 3) % 7) = false := by simpa using hc
        have hE : Hid (Sm.dayF D 7 d0 = Sm.dayF D (k - 1) (d + 1)) := by unfold Hid; rw [hF.out, Sm.dayF_no kp hc']
        have hN' := Lib.hid (hN.out.next hc')
        rw [hc'] at hct
        clear hc hc' hF hN hZ hNear
        go_wp2_with fail
        refine (hwk.out _).mono ?_
        rintro e w' ⟨rfl, rfl⟩
        go_wp2_with fail
        refine hct.out.mono ?_
        rintro e w' ⟨rfl, rfl⟩
        go_wp2
        go_round
        case rel => exact ⟨k - 1, d + 1, rfl, by omega, by omega, hN'.out, hE.out⟩
        case measure => simp [intOf]; omega
end Go.Proofs.Ytaiiobojlipbeaa
