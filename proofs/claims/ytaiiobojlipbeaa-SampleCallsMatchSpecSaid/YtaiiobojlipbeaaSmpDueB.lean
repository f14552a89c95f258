/-
  Due of package sample: where an attempt can be due.
-/
import Derived.Test.YtaiiobojlipbeaaSmpDue
namespace Go.Proofs.Ytaiiobojlipbeaa
open Go.RowKit

/-- The calling in its box, and all that was there when the call began. -/
def DueS (w w1 : World) (most gap : Int) (v2 v3 : Value) (W : World) : Prop :=
  W.cell? ⟨w.heap.size, 2, none⟩ = some v2 ∧ W.cell? ⟨w.heap.size, 3, none⟩ = some v3 ∧ Hid (Cx w most gap v2 v3 W ∧ Below w1.heap.size w1 W)
theorem DueS.keep {w w1 W W' : World} {most gap : Int} {v2 v3 : Value} (h : DueS w w1 most gap v2 v3 W) (hb : Below W.heap.size W W') : DueS w w1 most gap v2 v3 W' := by
  obtain ⟨_, _, hh⟩ := h
  obtain ⟨h1, h2⟩ := hh.out
  have h3 := h1.keep hb
  exact ⟨h3.c2, h3.c3, h3, h2.trans (hb.mono h2.size)⟩
theorem DueS.of {w w1 W : World} {most gap : Int} {v2 v3 : Value} (h1 : Cx w most gap v2 v3 W) (h2 : Below w1.heap.size w1 W) : DueS w w1 most gap v2 v3 W := ⟨h1.c2, h1.c3, h1, h2⟩
theorem DueS.bel {w w1 W : World} {most gap : Int} {v2 v3 : Value} (h : DueS w w1 most gap v2 v3 W) : Below w1.heap.size w1 W := by
  obtain ⟨_, _, hh⟩ := h; exact hh.out.2
theorem DueS.cx {w w1 W : World} {most gap : Int} {v2 v3 : Value} (h : DueS w w1 most gap v2 v3 W) : Cx w most gap v2 v3 W := by
  obtain ⟨_, _, hh⟩ := h; exact hh.out.1
theorem nxt_bx {most gap : Int} {v2 v3 : Value} (p q : Int) (a aV : Option Addr) (c cV : Nat) (l V : List (Int × Int)) (w w1 W : World) (hp : (Sm.nextW l V).1 = p) (hq : (Sm.nextW l V).2 = q) (h : RdP w1 a l) (hV : RdP w1 aV V) (hm : mins l) (hn : l.length ≤ 100) (h0 : 0 < V.length) (h8 : V.length ≤ 8) (hS : DueS w w1 most gap v2 v3 W) :
    Calls Try.prog 35 #[.slice aV V.length cV, .slice a l.length c] W fun e w' => e = .returned (.agg #[.int .i64 p, .int .i64 q]) ∧ DueS w w1 most gap v2 v3 w' := by
  rw [← hp, ← hq]
  exact (nextWindow_c a aV c cV l V W (h.below hS.bel) (hV.below hS.bel) hm hn h0 h8).mono fun e w' ⟨he, hb⟩ => ⟨he, hS.keep hb⟩
theorem fst_bx {most gap : Int} {v2 v3 : Value} (p q m z : Int) (aD : Option Addr) (cD : Nat) (D : List Int) (w w1 W : World) (hz : Sm.dueAt D (p, q) m = z) (hD : Rd w1 aD D) (hn : D ≠ []) (hd : ∀ x ∈ D, 0 ≤ x ∧ x ≤ 6) (f0 : 0 ≤ p) (ft : p < q) (t0 : q ≤ 1440) (m0 : 0 ≤ m) (m1 : m ≤ 2000000000000) (hS : DueS w w1 most gap v2 v3 W) :
    Calls Try.prog 34 #[.agg #[.int .i64 p, .int .i64 q], .slice aD D.length cD, .int .i64 m] W fun e w' => e = .returned (.int .i64 z) ∧ DueS w w1 most gap v2 v3 w' := by
  rw [← hz]
  exact (firstIn_c p q m aD cD D W (hD.below hS.bel) hn hd f0 ft t0 m0 m1).mono fun e w' ⟨he, hb⟩ => ⟨he, hS.keep hb⟩
set_option maxRecDepth 100000 in
set_option maxHeartbeats 8000000 in
theorem Due_5 (most gap minute : Int) (aD aV a : Option Addr) (cD cV c : Nat) (D : List Int) (V l : List (Int × Int)) (w : World) (hD : Rd w aD D) (hV : RdP w aV V) (hl : RdP w a l) (h1 : Sm.callF most gap D V = 0) (h2 : (Sm.outcF l).2 = 0) (h3 : ¬ (minute < 0 ∨ 1099511627776 < minute)) (h4 : ¬ ((Sm.outcF l).1 = 1 ∨ (Sm.outcF l).1 = 2 ∨ (Sm.outcF l).1 = 4 ∨ most ≤ l.length)) :
    Calls Try.prog 17 #[.agg #[.int .i64 most, .int .i64 gap, .slice aD D.length cD, .slice aV V.length cV], .slice a l.length c, .int .i64 minute] w (DuePost (Sm.dueF most gap D V l minute) w) := by
  have hX := Lib.hid (Cx.start w most gap (.slice aD D.length cD) (.slice aV V.length cV) 33)
  have HD := Lib.hid (hD.below hX.out.bel)
  have HV := Lib.hid (hV.below hX.out.bel)
  have HL := Lib.hid (hl.below hX.out.bel)
  have FT := Lib.hid (fit_of h1)
  have KT := Lib.hid (kept_of h2)
  have n100 := KT.out.n
  have g0 := FT.out.g.1
  have g1 := FT.out.g.2
  have mb := dueM_bd (minute := minute) KT.out.m FT.out.g.1 FT.out.g.2 (by omega) (by omega)
  obtain ⟨pq, hpq⟩ : ∃ pq, Sm.nextW l V = pq := ⟨_, rfl⟩
  obtain ⟨p, q⟩ := pq
  have hmem := Sm.nextW_mem (l := l) FT.out.v
  rw [hpq] at hmem
  obtain ⟨wp0, wp1, wp2⟩ := FT.out.vv _ hmem
  have v0 : 0 < V.length := by
    rcases Nat.eq_zero_or_pos V.length with h | h
    · exact absurd (List.eq_nil_of_length_eq_zero h) FT.out.v
    · exact h
  obtain ⟨M, hM⟩ : ∃ M, Sm.dueM gap l minute = M := ⟨_, rfl⟩
  obtain ⟨z, hz⟩ : ∃ z, Sm.dueAt D (p, q) M = z := ⟨_, rfl⟩
  have hZ := Lib.hid (dueF_5 h1 h2 h3 h4 (z := z) (by rw [hpq, hM]; exact hz))
  rw [hM] at mb
  have z0 : 0 ≤ z := by rw [← hz]; unfold Sm.dueAt; omega
  have hmost : Hid (¬ most ≤ (l.length : Int)) := by unfold Hid; omega
  have H1 := Lib.hid h1
  have H2 := Lib.hid h2
  have H3 := Lib.hid (fun w => isMinute_c minute w (by omega) (by omega))
  have H4 := Lib.hid (fun w => isFinal_n (Sm.outcF l).1 w (by omega))
  have P1 : Hid ((Sm.nextW l V).1 = p) := by unfold Hid; rw [hpq]
  have P2 : Hid ((Sm.nextW l V).2 = q) := by unfold Hid; rw [hpq]
  have HZ := Lib.hid hz
  have HMM := Lib.hid hM
  have mi0 : 0 ≤ minute := by omega
  have mi1 : minute ≤ 1099511627776 := by omega
  obtain ⟨mb0, mb1⟩ := mb
  have mb2 : M ≤ 2000000000000 := by omega
  clear hD hV hl h1 h2 h3 h4 hpq hmem hM hz
  go_enter Try.func17, Try.ntmps17
  go_wp2_with fail
  generalize w.alloc (.cells #[.int .i64 most, .int .i64 gap, .slice aD D.length cD, .slice aV V.length cV] 33) = w1 at *
  refine (CheckCalling_c most gap aD aV cD cV D V w1 HD.out HV.out).mono ?_
  rintro e w2 ⟨rfl, b2⟩
  have B2 := Lib.hid b2
  have X2 := Lib.hid (hX.out.keep b2)
  clear b2
  rw [H1.out]
  go_wp2_with fail
  refine (Outcome_any a c l w2 (HL.out.below B2.out)).mono ?_
  rintro e w3 ⟨rfl, b3⟩
  have B3 := Lib.hid (B2.out.trans (b3.mono B2.out.size))
  have X3 := Lib.hid (X2.out.keep b3)
  clear b3 B2
  rw [H2.out]
  go_wp2_with fail
  refine (H3.out _).mono ?_
  rintro e w' ⟨rfl, rfl⟩
  go_wp2_with fail
  refine (H4.out _).mono ?_
  rintro e w' ⟨rfl, rfl⟩
  have d4 : decide (most ≤ (l.length : Int)) = false := by rw [decide_eq_false_iff_not]; have h := hmost.out; omega
  have k0 := X3.out.c0
  by_cases hl0 : l.length = 0
  · have hMm : minute = M := by rw [← HMM.out]; unfold Sm.dueM; rw [if_pos hl0]
    subst hMm
    have d5 : decide (0 < (l.length : Int)) = false := by rw [decide_eq_false_iff_not]; omega
    have d5' : decide (0 < l.length) = false := by rw [decide_eq_false_iff_not]; omega
    have hS := DueS.of X3.out B3.out
    clear hl0
    go_wp2_with fail
    clear d4 k0 d5 d5'
    go_region_held3 (fun W => W.cell? ⟨w.heap.size, 2, none⟩ = some (.slice aD D.length cD) ∧ W.cell? ⟨w.heap.size, 3, none⟩ = some (.slice aV V.length cV) ∧ Hid (Cx w most gap (.slice aD D.length cD) (.slice aV V.length cV) W ∧ Below w1.heap.size w1 W)) ((first | exact hS.keep (Below.refl _ _).drew | assumption))
      (first | (go_at_call 35; (with_reducible refine (nxt_bx (most := most) (gap := gap) (v2 := .slice aD D.length cD) (v3 := .slice aV V.length cV) p q a aV c cV l V w w1 _ P1.out P2.out HL.out HV.out KT.out.m KT.out.n v0 FT.out.n ?_).mono ?_); assumption; rintro e w' ⟨rfl, hbx⟩) | (go_at_call 34; (with_reducible refine (fst_bx (most := most) (gap := gap) (v2 := .slice aD D.length cD) (v3 := .slice aV V.length cV) p q minute z aD cD D w w1 _ HZ.out HD.out FT.out.d FT.out.dd wp0 wp1 wp2 mb0 mb2 ?_).mono ?_); assumption; rintro e w' ⟨rfl, hbx⟩))
    have X4 := Lib.hid hbx.cx
    clear hbx hS
    by_cases c9 : 1099511627776 < z
    · have hZ' : Hid (Sm.dueF most gap D V l minute = (0, false, 0)) := by unfold Hid; rw [hZ.out, if_pos c9]
      have hm := Lib.hid (fun w => isMinute_n z w (.inr c9))
      clear hZ c9
      go_wp2_with fail
      refine (hm.out _).mono ?_
      rintro e w' ⟨rfl, rfl⟩
      go_wp2
      go_ret3
      exact ⟨by rw [hZ'.out]; rfl, X4.out.bel⟩
    · have hZ' : Hid (Sm.dueF most gap D V l minute = (z, true, 0)) := by unfold Hid; rw [hZ.out, if_neg c9]
      have hm := Lib.hid (fun w => isMinute_c z w z0 (by omega))
      clear hZ c9
      go_wp2_with fail
      refine (hm.out _).mono ?_
      rintro e w' ⟨rfl, rfl⟩
      go_wp2
      go_ret3
      exact ⟨by rw [hZ'.out]; rfl, X4.out.bel⟩
  · obtain ⟨j, hj⟩ : ∃ j, l.length = j + 1 := ⟨l.length - 1, by omega⟩
    obtain ⟨m, o, hjj⟩ := pair_at (l := l) (k := j) (by omega)
    obtain ⟨mm0, mm1⟩ := KT.out.m j m o hjj
    have hMm : M = max minute (m + gap) := by
      rw [← HMM.out]; unfold Sm.dueM; rw [if_neg hl0, show l.length - 1 = j by omega]; simp [List.getD, hjj]
    obtain ⟨b, off, rfl, _, q1, _⟩ := (HL.out.below B3.out).at_ hjj
    have hmx : max minute (m + gap) = M := hMm.symm
    have d5 : decide (0 < (l.length : Int)) = true := by rw [decide_eq_true_eq]; omega
    have d5' : decide (0 < l.length) = true := by rw [decide_eq_true_eq]; omega
    have z1 : IntKind.i64.wrap ((l.length : Int) - 1) = (j : Int) := by rw [IntWalk.i64_in _ (by omega)]; omega
    have z2 : IntKind.i64.wrap (m + gap) = m + gap := IntWalk.i64_in _ (by omega)
    have hjl : (j : Int) < (l.length : Int) := by omega
    have z3 : (l.length : Int) - 1 = (j : Int) := by omega
    have k1 := X3.out.c1
    clear hl0 hj hMm hjj
    go_wp2_with fail
    clear d4 k0 d5 d5'
    go_region
    clear z1 z2 z3 hmx q1
    obtain ⟨w4, hw4⟩ : ∃ w4, w4 = w3.drew := ⟨_, rfl⟩
    have hS : DueS w w1 most gap (.slice aD D.length cD) (.slice aV V.length cV) w4 := by
      rw [hw4]; exact (DueS.of X3.out B3.out).keep (Below.refl _ _).drew
    rw [← hw4]
    clear hw4
    go_wp2_with fail
    go_region_held3 (fun W => W.cell? ⟨w.heap.size, 2, none⟩ = some (.slice aD D.length cD) ∧ W.cell? ⟨w.heap.size, 3, none⟩ = some (.slice aV V.length cV) ∧ Hid (Cx w most gap (.slice aD D.length cD) (.slice aV V.length cV) W ∧ Below w1.heap.size w1 W)) ((first | exact hS.keep (Below.refl _ _).drew | assumption))
      (first | (go_at_call 35; (with_reducible refine (nxt_bx (most := most) (gap := gap) (v2 := .slice aD D.length cD) (v3 := .slice aV V.length cV) p q (some ⟨b, off, none⟩) aV c cV l V w w1 _ P1.out P2.out HL.out HV.out KT.out.m KT.out.n v0 FT.out.n ?_).mono ?_); assumption; rintro e w' ⟨rfl, hbx⟩) | (go_at_call 34; (with_reducible refine (fst_bx (most := most) (gap := gap) (v2 := .slice aD D.length cD) (v3 := .slice aV V.length cV) p q M z aD cD D w w1 _ HZ.out HD.out FT.out.d FT.out.dd wp0 wp1 wp2 mb0 mb2 ?_).mono ?_); assumption; rintro e w' ⟨rfl, hbx⟩))
    have X4 := Lib.hid hbx.cx
    clear hbx hS
    by_cases c9 : 1099511627776 < z
    · have hZ' : Hid (Sm.dueF most gap D V l minute = (0, false, 0)) := by unfold Hid; rw [hZ.out, if_pos c9]
      have hm := Lib.hid (fun w => isMinute_n z w (.inr c9))
      clear hZ c9
      go_wp2_with fail
      refine (hm.out _).mono ?_
      rintro e w' ⟨rfl, rfl⟩
      go_wp2
      go_ret3
      exact ⟨by rw [hZ'.out]; rfl, X4.out.bel⟩
    · have hZ' : Hid (Sm.dueF most gap D V l minute = (z, true, 0)) := by unfold Hid; rw [hZ.out, if_neg c9]
      have hm := Lib.hid (fun w => isMinute_c z w z0 (by omega))
      clear hZ c9
      go_wp2_with fail
      refine (hm.out _).mono ?_
      rintro e w' ⟨rfl, rfl⟩
      go_wp2
      go_ret3
      exact ⟨by rw [hZ'.out]; rfl, X4.out.bel⟩
end Go.Proofs.Ytaiiobojlipbeaa
