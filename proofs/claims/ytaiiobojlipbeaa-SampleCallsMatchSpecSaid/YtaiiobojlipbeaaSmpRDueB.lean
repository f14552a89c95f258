/-
  Due of the reference: where an attempt can be due.
-/
import Derived.Test.YtaiiobojlipbeaaSmpRDue
namespace Go.Proofs.Ytaiiobojlipbeaa
open Go.RowKit

theorem hV_wins {V : List (Int × Int)} (h : ∀ x ∈ V, 0 ≤ x.1 ∧ x.1 < x.2 ∧ x.2 ≤ 1440) : wins V := wins_of h
set_option maxRecDepth 100000 in
set_option maxHeartbeats 8000000 in
theorem RDue_5 (most gap minute : Int) (aD aV a : Option Addr) (cD cV c : Nat) (D : List Int) (V l : List (Int × Int)) (w : World) (hD : Rd w aD D) (hV : RdP w aV V) (hl : RdP w a l) (h1 : Sm.callF most gap D V = 0) (h2 : (Sm.outcF l).2 = 0) (h3 : ¬ (minute < 0 ∨ 1099511627776 < minute)) (h4 : ¬ ((Sm.outcF l).1 = 1 ∨ (Sm.outcF l).1 = 2 ∨ (Sm.outcF l).1 = 4 ∨ most ≤ l.length)) :
    Calls Try.prog 18 #[.agg #[.int .i64 most, .int .i64 gap, .slice aD D.length cD, .slice aV V.length cV], .slice a l.length c, .int .i64 minute] w (DuePost (Sm.dueF most gap D V l minute) w) := by
  have hX := Lib.hid (Cx.start w most gap (.slice aD D.length cD) (.slice aV V.length cV) 33)
  have HD := Lib.hid (hD.below hX.out.bel)
  have HV := Lib.hid (hV.below hX.out.bel)
  have HL := Lib.hid (hl.below hX.out.bel)
  have FT := Lib.hid (fit_of h1)
  have KT := Lib.hid (kept_of h2)
  have n100 := KT.out.n
  have g0 := FT.out.g.1
  have g1 := FT.out.g.2
  have mb := dueM_bd (minute := minute) KT.out.m FT.out.g.1 FT.out.g.2 (by omega) (by omega)
  obtain ⟨pq, hpq⟩ : ∃ pq, Sm.nextW l V = pq := ⟨_, rfl⟩
  obtain ⟨p, q⟩ := pq
  have hmem := Sm.nextW_mem (l := l) FT.out.v
  rw [hpq] at hmem
  obtain ⟨wp0, wp1, wp2⟩ := FT.out.vv _ hmem
  have v0 : 0 < V.length := by
    rcases Nat.eq_zero_or_pos V.length with h | h
    · exact absurd (List.eq_nil_of_length_eq_zero h) FT.out.v
    · exact h
  obtain ⟨M, hM⟩ : ∃ M, Sm.dueM gap l minute = M := ⟨_, rfl⟩
  obtain ⟨z, hz⟩ : ∃ z, Sm.dueAt D (p, q) M = z := ⟨_, rfl⟩
  have hZ := Lib.hid (dueF_5 h1 h2 h3 h4 (z := z) (by rw [hpq, hM]; exact hz))
  rw [hM] at mb
  have z0 : 0 ≤ z := by rw [← hz]; unfold Sm.dueAt; omega
  have hmost : Hid (¬ most ≤ (l.length : Int)) := by unfold Hid; omega
  have H1 := Lib.hid h1
  have H2 := Lib.hid h2
  have H3 := Lib.hid (fun w => within_y minute 0 1099511627776 w (by omega) (by omega))
  have HO := Lib.hid (outc_1 h2)
  have o1 : Hid (Sm.outF 7 l ≠ 1) := by unfold Hid; rw [← outc_1 h2]; omega
  have o2 : Hid (Sm.outF 7 l ≠ 2) := by unfold Hid; rw [← outc_1 h2]; omega
  have o4 : Hid (Sm.outF 7 l ≠ 4) := by unfold Hid; rw [← outc_1 h2]; omega
  have P1 : Hid ((Sm.nextW l V).1 = p) := by unfold Hid; rw [hpq]
  have P2 : Hid ((Sm.nextW l V).2 = q) := by unfold Hid; rw [hpq]
  have HZ := Lib.hid hz
  have HMM := Lib.hid hM
  have mi0 : 0 ≤ minute := by omega
  have mi1 : minute ≤ 1099511627776 := by omega
  obtain ⟨mb0, mb1⟩ := mb
  have mb2 : M ≤ 2000000000000 := by omega
  clear hD hV hl h1 h2 h3 h4 hpq hmem hM hz
  go_enter Try.func18, Try.ntmps18
  go_wp2_with fail
  generalize w.alloc (.cells #[.int .i64 most, .int .i64 gap, .slice aD D.length cD, .slice aV V.length cV] 33) = w1 at *
  refine (RCheckCalling_c most gap aD aV cD cV D V w1 HD.out HV.out).mono ?_
  rintro e w2 ⟨rfl, b2⟩
  have B2 := Lib.hid b2
  have X2 := Lib.hid (hX.out.keep b2)
  clear b2
  rw [H1.out]
  go_wp2_with fail
  refine (checkAttempts_any a c l w2 (HL.out.below B2.out)).mono ?_
  rintro e w3 ⟨rfl, b3⟩
  have B3 := Lib.hid (B2.out.trans (b3.mono B2.out.size))
  have X3 := Lib.hid (X2.out.keep b3)
  clear b3 B2
  rw [H2.out]
  go_wp2_with fail
  refine (H3.out _).mono ?_
  rintro e w' ⟨rfl, rfl⟩
  go_wp2_with fail
  refine (outcome_c a c l w3 (HL.out.below B3.out)).mono ?_
  rintro e w4 ⟨rfl, b4⟩
  have B4 := Lib.hid (B3.out.trans (b4.mono B3.out.size))
  have X4 := Lib.hid (X3.out.keep b4)
  clear b4 B3 X3 X2
  have d1 : (Sm.outF 7 l == 1) = false := by rw [beq_eq_false_iff_ne]; exact o1.out
  have d2 : (Sm.outF 7 l == 2) = false := by rw [beq_eq_false_iff_ne]; exact o2.out
  have d3 : (Sm.outF 7 l == 4) = false := by rw [beq_eq_false_iff_ne]; exact o4.out
  have d4 : decide (most ≤ (l.length : Int)) = false := by rw [decide_eq_false_iff_not]; have h := hmost.out; omega
  have k0 := X4.out.c0
  generalize Sm.outF 7 l = oo at *
  by_cases hl0 : l.length = 0
  · have hMm : minute = M := by rw [← HMM.out]; unfold Sm.dueM; rw [if_pos hl0]
    subst hMm
    have d5 : decide (0 < (l.length : Int)) = false := by rw [decide_eq_false_iff_not]; omega
    have d5' : decide (0 < l.length) = false := by rw [decide_eq_false_iff_not]; omega
    have hX5 := X4
    have hB5 := B4
    clear hl0
    have hWA := Lib.hid (hV_wins FT.out.vv)
    have hk := Lib.hid (fun W (hb : Below w1.heap.size w1 W) => next_c most gap aD a aV D.length cD c cV l V W (HL.out.below hb) (HV.out.below hb) KT.out.m hWA.out KT.out.n v0 FT.out.n)
    have y0 := hX5.out.c0
    have y1 := hX5.out.c1
    have y2 := hX5.out.c2
    have y3 := hX5.out.c3
    go_wp2_with fail
    refine (hk.out _ hB5.out).mono ?_
    rintro e w6 ⟨rfl, b6⟩
    have X6 := Lib.hid (hX5.out.keep b6)
    have B6 := Lib.hid (hB5.out.trans (b6.mono hB5.out.size))
    clear b6 hk y0 y1 y2 y3
    rw [P1.out, P2.out]
    go_wp2_with fail
    have hW := Lib.hid (Win.start w6 p q 55)
    have X7 := Lib.hid (X6.out.alloc (.cells #[.int .i64 p, .int .i64 q] 55))
    have B7 := Lib.hid (B6.out.alloc B6.out.size (.cells #[.int .i64 p, .int .i64 q] 55))
    generalize w6.alloc (.cells #[.int .i64 p, .int .i64 q] 55) = w7 at *
    clear X6 B6
    obtain ⟨d0, hd0⟩ : ∃ d0, d0 = Sm.day0 (p, q) minute := ⟨_, rfl⟩
    have dv := Int.mul_ediv_add_emod minute 1440
    have dm := Int.emod_nonneg minute (show (1440 : Int) ≠ 0 by omega)
    have dl := Int.emod_lt_of_pos minute (show (0 : Int) < 1440 by omega)
    have hnear := Lib.hid (Sm.day_there FT.out.d FT.out.dd d0)
    have hZd : Hid (z = max minute (Sm.dayF D 7 d0 * 1440 + p)) := by unfold Hid; rw [← HZ.out, hd0]; rfl
    obtain ⟨u, hu⟩ : ∃ u, minute / 1440 = u := ⟨_, rfl⟩
    have hdd : d0 = if u * 1440 + q ≤ minute then u + 1 else u := by rw [hd0, ← hu]; rfl
    have hu2 : minute.tdiv 1440 = u := by rw [← hu]; exact Int.tdiv_eq_ediv_of_nonneg mb0
    rw [hu] at dv
    have ub : 0 ≤ u ∧ u ≤ 1500000000 ∧ u * 1440 ≤ minute ∧ minute < u * 1440 + 1440 := by omega
    have e0 : u ≤ d0 ∧ d0 ≤ u + 1 := by rw [hdd]; split <;> omega
    have HDD := Lib.hid hdd
    obtain ⟨u0, u1, u2, u3⟩ := ub
    obtain ⟨e0, e1⟩ := e0
    have HU := Lib.hid hu
    have HU2 := Lib.hid hu2
    clear hd0 dv dm dl hdd hu hu2 d1 d2 d3 d4 k0
    have hu := HU.out
    have hu2 := HU2.out
    go_wp2_with fail
    clear hu hu2
    go_loop [13, 14] (fun x _ => ∃ d : Int, x = .int .i64 d ∧ u ≤ d ∧ d ≤ d0 + 7 ∧ Hid ((d = u ∧ d0 = u + 1 ∧ u * 1440 + q ≤ minute) ∨ (d0 ≤ d ∧ (d = u → minute < u * 1440 + q) ∧ ∃ k : Nat, d + k = d0 + 7 ∧ Near D k d ∧ Sm.dayF D 7 d0 = Sm.dayF D k d))) (fun x _ => (d0 + 8 - intOf x).toNat)
    case atStart =>
      refine ⟨u, by rw [HU.out], by omega, by omega, ?_⟩
      by_cases c1 : u * 1440 + q ≤ minute
      · exact .inl ⟨rfl, by rw [HDD.out, if_pos c1], c1⟩
      · have e : d0 = u := by rw [HDD.out, if_neg c1]
        exact .inr ⟨by omega, fun _ => by omega, 7, by omega, by rw [← e]; exact hnear.out, by rw [e]⟩
    case round =>
      clear hnear
      obtain ⟨d, rfl, g1, g2, hC⟩ := hrel
      have y2 := X7.out.c2
      have v0' := hW.out.c0
      have v1' := hW.out.c1
      have hct := Lib.hid (contains_c aD cD D ((d + 3) % 7) w7 (HD.out.below B7.out))
      obtain ⟨z9, hz9⟩ : ∃ z9, max minute (d * 1440 + p) = z9 := ⟨_, rfl⟩
      have hz9' : z9 = max minute (d * 1440 + p) := hz9.symm
      have HZ9 := Lib.hid hz9'
      clear hz9'
      rcases hC.out with ⟨h1, h2, h3⟩ | ⟨h1, hm2, k, h2, hN, hF⟩
      · have lt : decide (z9 < d * 1440 + q) = false := by rw [decide_eq_false_iff_not, HZ9.out]; omega
        have hR : Hid (d + 1 = d0) := by unfold Hid; omega
        have hNN : Hid (Near D 7 d0) := Sm.day_there FT.out.d FT.out.dd d0
        clear hC h1 h2 h3
        by_cases hc : D.contains ((d + 3) % 7) = true
        · rw [hc] at hct
          clear hc
          go_wp2_with fail
          refine hct.out.mono ?_
          rintro e w' ⟨rfl, rfl⟩
          go_wp2
          go_round
          case rel => exact ⟨d + 1, rfl, by omega, by have := hR.out; omega, .inr ⟨by have := hR.out; omega, fun h => by omega, 7, by have := hR.out; omega, by rw [hR.out]; exact hNN.out, by rw [hR.out]⟩⟩
          case measure => simp [intOf]; omega
        · have hc' : D.contains ((d + 3) % 7) = false := by simpa using hc
          rw [hc'] at hct
          clear hc hc'
          go_wp2_with fail
          refine hct.out.mono ?_
          rintro e w' ⟨rfl, rfl⟩
          go_wp2
          go_round
          case rel => exact ⟨d + 1, rfl, by omega, by have := hR.out; omega, .inr ⟨by have := hR.out; omega, fun h => by omega, 7, by have := hR.out; omega, by rw [hR.out]; exact hNN.out, by rw [hR.out]⟩⟩
          case measure => simp [intOf]; omega
      · have kp := hN.pos
        by_cases hc : D.contains ((d + 3) % 7) = true
        · have hE : Sm.dayF D 7 d0 = d := by rw [hF, Sm.dayF_yes kp hc]
          have hzz : z = z9 := by rw [hZd.out, hE, HZ9.out]
          subst hzz
          have lt : decide (z < d * 1440 + q) = true := by
            rw [decide_eq_true_eq, HZ9.out]
            by_cases e : d = u
            · have := hm2 e; subst e; omega
            · omega
          rw [hc] at hct
          clear hc hC h1 hm2 h2 hN hF hE
          by_cases c9 : 1099511627776 < z
          · have hZ' : Hid (Sm.dueF most gap D V l minute = (0, false, 0)) := by unfold Hid; rw [hZ.out, if_pos c9]
            clear hZ
            go_wp2_with fail
            refine hct.out.mono ?_
            rintro e w' ⟨rfl, rfl⟩
            go_wp2
            go_ret3
            exact ⟨by rw [hZ'.out]; rfl, X7.out.bel⟩
          · have hZ' : Hid (Sm.dueF most gap D V l minute = (z, true, 0)) := by unfold Hid; rw [hZ.out, if_neg c9]
            have d9 : decide (1099511627776 < z) = false := by rw [decide_eq_false_iff_not]; exact c9
            clear hZ c9
            go_wp2_with fail
            refine hct.out.mono ?_
            rintro e w' ⟨rfl, rfl⟩
            go_wp2
            go_ret3
            exact ⟨by rw [hZ'.out]; rfl, X7.out.bel⟩
        · have hc' : D.contains ((d + 3) % 7) = false := by simpa using hc
          have hE : Hid (Sm.dayF D 7 d0 = Sm.dayF D (k - 1) (d + 1)) := by unfold Hid; rw [hF, Sm.dayF_no kp hc']
          have hN' := Lib.hid (hN.next hc')
          rw [hc'] at hct
          clear hc hc' hC hF hN hm2
          go_wp2_with fail
          refine hct.out.mono ?_
          rintro e w' ⟨rfl, rfl⟩
          go_wp2
          go_round
          case rel => exact ⟨d + 1, rfl, by omega, by omega, .inr ⟨by omega, fun h => by omega, k - 1, by omega, hN'.out, hE.out⟩⟩
          case measure => simp [intOf]; omega
  · obtain ⟨j, hj⟩ : ∃ j, l.length = j + 1 := ⟨l.length - 1, by omega⟩
    obtain ⟨m, o, hjj⟩ := pair_at (l := l) (k := j) (by omega)
    obtain ⟨mm0, mm1⟩ := KT.out.m j m o hjj
    have hMm : M = max minute (m + gap) := by
      rw [← HMM.out]; unfold Sm.dueM; rw [if_neg hl0, show l.length - 1 = j by omega]; simp [List.getD, hjj]
    obtain ⟨b, off, rfl, _, q1, _⟩ := (HL.out.below B4.out).at_ hjj
    have hmx : max minute (m + gap) = M := hMm.symm
    have d5 : decide (0 < (l.length : Int)) = true := by rw [decide_eq_true_eq]; omega
    have d5' : decide (0 < l.length) = true := by rw [decide_eq_true_eq]; omega
    have z1 : IntKind.i64.wrap ((l.length : Int) - 1) = (j : Int) := by rw [IntWalk.i64_in _ (by omega)]; omega
    have z2 : IntKind.i64.wrap (m + gap) = m + gap := IntWalk.i64_in _ (by omega)
    have hjl : (j : Int) < (l.length : Int) := by omega
    have z3 : (l.length : Int) - 1 = (j : Int) := by omega
    have k1 := X4.out.c1
    clear hl0 hj hMm hjj
    go_wp2_with fail
    go_region
    clear z1 z2 z3 hmx q1
    obtain ⟨w5, hw5⟩ : ∃ w5, w5 = w4.drew := ⟨_, rfl⟩
    have hX5 : Hid (Cx w most gap (.slice aD D.length cD) (.slice aV V.length cV) w5) := by rw [hw5]; exact X4.out.keep (Below.refl _ _).drew
    have hB5 : Hid (Below w1.heap.size w1 w5) := by rw [hw5]; exact B4.out.drew
    rw [← hw5]
    clear hw5
    have hWA := Lib.hid (hV_wins FT.out.vv)
    have hk := Lib.hid (fun W (hb : Below w1.heap.size w1 W) => next_c most gap aD (some ⟨b, off, none⟩) aV D.length cD c cV l V W (HL.out.below hb) (HV.out.below hb) KT.out.m hWA.out KT.out.n v0 FT.out.n)
    have y0 := hX5.out.c0
    have y1 := hX5.out.c1
    have y2 := hX5.out.c2
    have y3 := hX5.out.c3
    go_wp2_with fail
    refine (hk.out _ hB5.out).mono ?_
    rintro e w6 ⟨rfl, b6⟩
    have X6 := Lib.hid (hX5.out.keep b6)
    have B6 := Lib.hid (hB5.out.trans (b6.mono hB5.out.size))
    clear b6 hk y0 y1 y2 y3
    rw [P1.out, P2.out]
    go_wp2_with fail
    have hW := Lib.hid (Win.start w6 p q 55)
    have X7 := Lib.hid (X6.out.alloc (.cells #[.int .i64 p, .int .i64 q] 55))
    have B7 := Lib.hid (B6.out.alloc B6.out.size (.cells #[.int .i64 p, .int .i64 q] 55))
    generalize w6.alloc (.cells #[.int .i64 p, .int .i64 q] 55) = w7 at *
    clear X6 B6
    obtain ⟨d0, hd0⟩ : ∃ d0, d0 = Sm.day0 (p, q) M := ⟨_, rfl⟩
    have dv := Int.mul_ediv_add_emod M 1440
    have dm := Int.emod_nonneg M (show (1440 : Int) ≠ 0 by omega)
    have dl := Int.emod_lt_of_pos M (show (0 : Int) < 1440 by omega)
    have hnear := Lib.hid (Sm.day_there FT.out.d FT.out.dd d0)
    have hZd : Hid (z = max M (Sm.dayF D 7 d0 * 1440 + p)) := by unfold Hid; rw [← HZ.out, hd0]; rfl
    obtain ⟨u, hu⟩ : ∃ u, M / 1440 = u := ⟨_, rfl⟩
    have hdd : d0 = if u * 1440 + q ≤ M then u + 1 else u := by rw [hd0, ← hu]; rfl
    have hu2 : M.tdiv 1440 = u := by rw [← hu]; exact Int.tdiv_eq_ediv_of_nonneg mb0
    rw [hu] at dv
    have ub : 0 ≤ u ∧ u ≤ 1500000000 ∧ u * 1440 ≤ M ∧ M < u * 1440 + 1440 := by omega
    have e0 : u ≤ d0 ∧ d0 ≤ u + 1 := by rw [hdd]; split <;> omega
    have HDD := Lib.hid hdd
    obtain ⟨u0, u1, u2, u3⟩ := ub
    obtain ⟨e0, e1⟩ := e0
    have HU := Lib.hid hu
    have HU2 := Lib.hid hu2
    clear hd0 dv dm dl hdd hu hu2 d1 d2 d3 d4 k0
    have hu := HU.out
    have hu2 := HU2.out
    go_wp2_with fail
    clear hu hu2
    go_loop [13, 14] (fun x _ => ∃ d : Int, x = .int .i64 d ∧ u ≤ d ∧ d ≤ d0 + 7 ∧ Hid ((d = u ∧ d0 = u + 1 ∧ u * 1440 + q ≤ M) ∨ (d0 ≤ d ∧ (d = u → M < u * 1440 + q) ∧ ∃ k : Nat, d + k = d0 + 7 ∧ Near D k d ∧ Sm.dayF D 7 d0 = Sm.dayF D k d))) (fun x _ => (d0 + 8 - intOf x).toNat)
    case atStart =>
      refine ⟨u, by rw [HU.out], by omega, by omega, ?_⟩
      by_cases c1 : u * 1440 + q ≤ M
      · exact .inl ⟨rfl, by rw [HDD.out, if_pos c1], c1⟩
      · have e : d0 = u := by rw [HDD.out, if_neg c1]
        exact .inr ⟨by omega, fun _ => by omega, 7, by omega, by rw [← e]; exact hnear.out, by rw [e]⟩
    case round =>
      clear hnear
      obtain ⟨d, rfl, g1, g2, hC⟩ := hrel
      have y2 := X7.out.c2
      have v0' := hW.out.c0
      have v1' := hW.out.c1
      have hct := Lib.hid (contains_c aD cD D ((d + 3) % 7) w7 (HD.out.below B7.out))
      obtain ⟨z9, hz9⟩ : ∃ z9, max M (d * 1440 + p) = z9 := ⟨_, rfl⟩
      have hz9' : z9 = max M (d * 1440 + p) := hz9.symm
      have HZ9 := Lib.hid hz9'
      clear hz9'
      rcases hC.out with ⟨h1, h2, h3⟩ | ⟨h1, hm2, k, h2, hN, hF⟩
      · have lt : decide (z9 < d * 1440 + q) = false := by rw [decide_eq_false_iff_not, HZ9.out]; omega
        have hR : Hid (d + 1 = d0) := by unfold Hid; omega
        have hNN : Hid (Near D 7 d0) := Sm.day_there FT.out.d FT.out.dd d0
        clear hC h1 h2 h3
        by_cases hc : D.contains ((d + 3) % 7) = true
        · rw [hc] at hct
          clear hc
          go_wp2_with fail
          refine hct.out.mono ?_
          rintro e w' ⟨rfl, rfl⟩
          go_wp2
          go_round
          case rel => exact ⟨d + 1, rfl, by omega, by have := hR.out; omega, .inr ⟨by have := hR.out; omega, fun h => by omega, 7, by have := hR.out; omega, by rw [hR.out]; exact hNN.out, by rw [hR.out]⟩⟩
          case measure => simp [intOf]; omega
        · have hc' : D.contains ((d + 3) % 7) = false := by simpa using hc
          rw [hc'] at hct
          clear hc hc'
          go_wp2_with fail
          refine hct.out.mono ?_
          rintro e w' ⟨rfl, rfl⟩
          go_wp2
          go_round
          case rel => exact ⟨d + 1, rfl, by omega, by have := hR.out; omega, .inr ⟨by have := hR.out; omega, fun h => by omega, 7, by have := hR.out; omega, by rw [hR.out]; exact hNN.out, by rw [hR.out]⟩⟩
          case measure => simp [intOf]; omega
      · have kp := hN.pos
        by_cases hc : D.contains ((d + 3) % 7) = true
        · have hE : Sm.dayF D 7 d0 = d := by rw [hF, Sm.dayF_yes kp hc]
          have hzz : z = z9 := by rw [hZd.out, hE, HZ9.out]
          subst hzz
          have lt : decide (z < d * 1440 + q) = true := by
            rw [decide_eq_true_eq, HZ9.out]
            by_cases e : d = u
            · have := hm2 e; subst e; omega
            · omega
          rw [hc] at hct
          clear hc hC h1 hm2 h2 hN hF hE
          by_cases c9 : 1099511627776 < z
          · have hZ' : Hid (Sm.dueF most gap D V l minute = (0, false, 0)) := by unfold Hid; rw [hZ.out, if_pos c9]
            clear hZ
            go_wp2_with fail
            refine hct.out.mono ?_
            rintro e w' ⟨rfl, rfl⟩
            go_wp2
            go_ret3
            exact ⟨by rw [hZ'.out]; rfl, X7.out.bel⟩
          · have hZ' : Hid (Sm.dueF most gap D V l minute = (z, true, 0)) := by unfold Hid; rw [hZ.out, if_neg c9]
            have d9 : decide (1099511627776 < z) = false := by rw [decide_eq_false_iff_not]; exact c9
            clear hZ c9
            go_wp2_with fail
            refine hct.out.mono ?_
            rintro e w' ⟨rfl, rfl⟩
            go_wp2
            go_ret3
            exact ⟨by rw [hZ'.out]; rfl, X7.out.bel⟩
        · have hc' : D.contains ((d + 3) % 7) = false := by simpa using hc
          have hE : Hid (Sm.dayF D 7 d0 = Sm.dayF D (k - 1) (d + 1)) := by unfold Hid; rw [hF, Sm.dayF_no kp hc']
          have hN' := Lib.hid (hN.next hc')
          rw [hc'] at hct
          clear hc hc' hC hF hN hm2
          go_wp2_with fail
          refine hct.out.mono ?_
          rintro e w' ⟨rfl, rfl⟩
          go_wp2
          go_round
          case rel => exact ⟨d + 1, rfl, by omega, by omega, .inr ⟨by omega, fun h => by omega, k - 1, by omega, hN'.out, hE.out⟩⟩
          case measure => simp [intOf]; omega
end Go.Proofs.Ytaiiobojlipbeaa
