/-
  Due of the reference.
-/
import Derived.Test.YtaiiobojlipbeaaSmpDueB
namespace Go.Proofs.Ytaiiobojlipbeaa
open Go.RowKit

theorem checkAttempts_any (a : Option Addr) (c : Nat) (l : List (Int × Int)) (w : World) (h : RdP w a l) :
    Calls Try.prog 28 #[.slice a l.length c] w (OnePost (Sm.outcF l).2 w) := by
  by_cases hn : 100 < l.length
  · have hE : (Sm.outcF l).2 = 2 := by unfold Sm.outcF; rw [if_pos hn]
    rw [hE]; exact checkAttempts_long a c l.length w h.1 hn
  · have hE : (Sm.outcF l).2 = Sm.attF 0 l := by
      unfold Sm.outcF; rw [if_neg hn]
      split
      · rfl
      · rename_i h; simp only [Decidable.not_not] at h; rw [h]
    rw [hE]; exact checkAttempts_c a c l w h (by omega)
theorem outc_1 {l : List (Int × Int)} (h : (Sm.outcF l).2 = 0) : (Sm.outcF l).1 = Sm.outF 7 l := by
  unfold Sm.outcF at h ⊢
  split at h
  · simp at h
  · split at h
    · rename_i h1 h2; exact absurd h h2
    · rename_i h1 h2; rw [if_neg h1, if_neg h2]
set_option maxRecDepth 100000 in
set_option maxHeartbeats 4000000 in
theorem RDue_1 (most gap minute : Int) (aD aV a : Option Addr) (cD cV c : Nat) (D : List Int) (V l : List (Int × Int)) (w : World) (hD : Rd w aD D) (hV : RdP w aV V) (hl : RdP w a l) (h1 : Sm.callF most gap D V ≠ 0) :
    Calls Try.prog 18 #[.agg #[.int .i64 most, .int .i64 gap, .slice aD D.length cD, .slice aV V.length cV], .slice a l.length c, .int .i64 minute] w (DuePost (Sm.dueF most gap D V l minute) w) := by
  have hX := Lib.hid (Cx.start w most gap (.slice aD D.length cD) (.slice aV V.length cV) 33)
  have HD := Lib.hid (hD.below hX.out.bel)
  have HV := Lib.hid (hV.below hX.out.bel)
  have HL := Lib.hid (hl.below hX.out.bel)
  have lD := hD.1
  have lV := hV.1
  have ll := hl.1
  clear hD hV hl
  have hZ := Lib.hid (dueF_1 (l := l) (minute := minute) rfl h1)
  have e1 : (Sm.callF most gap D V == 0) = false := by rw [beq_eq_false_iff_ne]; exact h1
  have e2 : (Sm.callF most gap D V != 0) = true := by rw [bne_iff_ne]; exact h1
  clear h1
  go_enter Try.func18, Try.ntmps18
  go_wp2_with fail
  generalize w.alloc (.cells #[.int .i64 most, .int .i64 gap, .slice aD D.length cD, .slice aV V.length cV] 33) = w1 at *
  refine (RCheckCalling_c most gap aD aV cD cV D V w1 HD.out HV.out).mono ?_
  rintro e w2 ⟨rfl, b2⟩
  have B2 := Lib.hid b2
  have X2 := Lib.hid (hX.out.keep b2)
  clear b2
  generalize Sm.callF most gap D V = z at *
  go_wp2
  go_ret3
  exact ⟨by rw [hZ.out]; rfl, X2.out.bel⟩
set_option maxRecDepth 100000 in
set_option maxHeartbeats 4000000 in
theorem RDue_2 (most gap minute : Int) (aD aV a : Option Addr) (cD cV c : Nat) (D : List Int) (V l : List (Int × Int)) (w : World) (hD : Rd w aD D) (hV : RdP w aV V) (hl : RdP w a l) (h1 : Sm.callF most gap D V = 0) (h2 : (Sm.outcF l).2 ≠ 0) :
    Calls Try.prog 18 #[.agg #[.int .i64 most, .int .i64 gap, .slice aD D.length cD, .slice aV V.length cV], .slice a l.length c, .int .i64 minute] w (DuePost (Sm.dueF most gap D V l minute) w) := by
  have hX := Lib.hid (Cx.start w most gap (.slice aD D.length cD) (.slice aV V.length cV) 33)
  have HD := Lib.hid (hD.below hX.out.bel)
  have HV := Lib.hid (hV.below hX.out.bel)
  have HL := Lib.hid (hl.below hX.out.bel)
  have lD := hD.1
  have lV := hV.1
  have ll := hl.1
  clear hD hV hl
  have hZ := Lib.hid (dueF_2 (minute := minute) h1 rfl h2)
  have H1 := Lib.hid h1
  have e1 : ((Sm.outcF l).2 == 0) = false := by rw [beq_eq_false_iff_ne]; exact h2
  have e2 : ((Sm.outcF l).2 != 0) = true := by rw [bne_iff_ne]; exact h2
  clear h1 h2
  go_enter Try.func18, Try.ntmps18
  go_wp2_with fail
  generalize w.alloc (.cells #[.int .i64 most, .int .i64 gap, .slice aD D.length cD, .slice aV V.length cV] 33) = w1 at *
  refine (RCheckCalling_c most gap aD aV cD cV D V w1 HD.out HV.out).mono ?_
  rintro e w2 ⟨rfl, b2⟩
  have B2 := Lib.hid b2
  have X2 := Lib.hid (hX.out.keep b2)
  clear b2
  rw [H1.out]
  go_wp2_with fail
  refine (checkAttempts_any a c l w2 (HL.out.below B2.out)).mono ?_
  rintro e w3 ⟨rfl, b3⟩
  have B3 := Lib.hid (B2.out.trans (b3.mono B2.out.size))
  have X3 := Lib.hid (X2.out.keep b3)
  clear b3 B2
  generalize (Sm.outcF l).2 = z at *
  go_wp2
  go_ret3
  exact ⟨by rw [hZ.out]; rfl, X3.out.bel⟩
set_option maxRecDepth 100000 in
set_option maxHeartbeats 4000000 in
theorem RDue_3 (most gap minute : Int) (aD aV a : Option Addr) (cD cV c : Nat) (D : List Int) (V l : List (Int × Int)) (w : World) (hD : Rd w aD D) (hV : RdP w aV V) (hl : RdP w a l) (h1 : Sm.callF most gap D V = 0) (h2 : (Sm.outcF l).2 = 0) (h3 : minute < 0 ∨ 1099511627776 < minute) :
    Calls Try.prog 18 #[.agg #[.int .i64 most, .int .i64 gap, .slice aD D.length cD, .slice aV V.length cV], .slice a l.length c, .int .i64 minute] w (DuePost (Sm.dueF most gap D V l minute) w) := by
  have hX := Lib.hid (Cx.start w most gap (.slice aD D.length cD) (.slice aV V.length cV) 33)
  have HD := Lib.hid (hD.below hX.out.bel)
  have HV := Lib.hid (hV.below hX.out.bel)
  have HL := Lib.hid (hl.below hX.out.bel)
  have lD := hD.1
  have lV := hV.1
  have ll := hl.1
  clear hD hV hl
  have hZ := Lib.hid (dueF_3 h1 h2 h3)
  have H1 := Lib.hid h1
  have H2 := Lib.hid h2
  have H3 := Lib.hid h3
  clear h1 h2 h3
  go_enter Try.func18, Try.ntmps18
  go_wp2_with fail
  generalize w.alloc (.cells #[.int .i64 most, .int .i64 gap, .slice aD D.length cD, .slice aV V.length cV] 33) = w1 at *
  refine (RCheckCalling_c most gap aD aV cD cV D V w1 HD.out HV.out).mono ?_
  rintro e w2 ⟨rfl, b2⟩
  have B2 := Lib.hid b2
  have X2 := Lib.hid (hX.out.keep b2)
  clear b2
  rw [H1.out]
  go_wp2_with fail
  refine (checkAttempts_any a c l w2 (HL.out.below B2.out)).mono ?_
  rintro e w3 ⟨rfl, b3⟩
  have B3 := Lib.hid (B2.out.trans (b3.mono B2.out.size))
  have X3 := Lib.hid (X2.out.keep b3)
  clear b3 B2
  rw [H2.out]
  go_wp2_with fail
  refine (within_n minute 0 1099511627776 _ H3.out).mono ?_
  rintro e w' ⟨rfl, rfl⟩
  go_wp2
  go_ret3
  exact ⟨by rw [hZ.out]; rfl, X3.out.bel⟩
set_option maxRecDepth 100000 in
set_option maxHeartbeats 4000000 in
theorem RDue_4 (most gap minute : Int) (aD aV a : Option Addr) (cD cV c : Nat) (D : List Int) (V l : List (Int × Int)) (w : World) (hD : Rd w aD D) (hV : RdP w aV V) (hl : RdP w a l) (h1 : Sm.callF most gap D V = 0) (h2 : (Sm.outcF l).2 = 0) (h3 : ¬ (minute < 0 ∨ 1099511627776 < minute)) (h4 : (Sm.outcF l).1 = 1 ∨ (Sm.outcF l).1 = 2 ∨ (Sm.outcF l).1 = 4 ∨ most ≤ l.length) :
    Calls Try.prog 18 #[.agg #[.int .i64 most, .int .i64 gap, .slice aD D.length cD, .slice aV V.length cV], .slice a l.length c, .int .i64 minute] w (DuePost (Sm.dueF most gap D V l minute) w) := by
  have hX := Lib.hid (Cx.start w most gap (.slice aD D.length cD) (.slice aV V.length cV) 33)
  have HD := Lib.hid (hD.below hX.out.bel)
  have HV := Lib.hid (hV.below hX.out.bel)
  have HL := Lib.hid (hl.below hX.out.bel)
  have lD := hD.1
  have lV := hV.1
  have ll := hl.1
  clear hD hV hl
  have hZ := Lib.hid (dueF_4 h1 h2 h3 h4)
  have H1 := Lib.hid h1
  have H2 := Lib.hid h2
  have H3 := Lib.hid (fun w => within_y minute 0 1099511627776 w (by omega) (by omega))
  have H4 := Lib.hid h4
  have HO := Lib.hid (outc_1 h2)
  clear h1 h2 h3 h4
  go_enter Try.func18, Try.ntmps18
  go_wp2_with fail
  generalize w.alloc (.cells #[.int .i64 most, .int .i64 gap, .slice aD D.length cD, .slice aV V.length cV] 33) = w1 at *
  refine (RCheckCalling_c most gap aD aV cD cV D V w1 HD.out HV.out).mono ?_
  rintro e w2 ⟨rfl, b2⟩
  have B2 := Lib.hid b2
  have X2 := Lib.hid (hX.out.keep b2)
  clear b2
  rw [H1.out]
  go_wp2_with fail
  refine (checkAttempts_any a c l w2 (HL.out.below B2.out)).mono ?_
  rintro e w3 ⟨rfl, b3⟩
  have B3 := Lib.hid (B2.out.trans (b3.mono B2.out.size))
  have X3 := Lib.hid (X2.out.keep b3)
  clear b3 B2
  rw [H2.out]
  go_wp2_with fail
  refine (H3.out _).mono ?_
  rintro e w' ⟨rfl, rfl⟩
  have o3 := HL.out.below B3.out
  have O3 := Lib.hid o3
  clear o3
  go_wp2_with fail
  refine (outcome_c a c l w3 O3.out).mono ?_
  rintro e w4 ⟨rfl, b4⟩
  have X4 := Lib.hid (X3.out.keep b4)
  clear b4
  have h4 := H4.out
  rw [HO.out] at h4
  clear H4
  have k0 := X4.out.c0
  generalize Sm.outF 7 l = o at *
  by_cases c1 : o = 1
  · subst c1
    clear h4
    go_wp2
    go_ret3
    exact ⟨by rw [hZ.out]; rfl, X4.out.bel⟩
  · have d1 : (o == 1) = false := by rw [beq_eq_false_iff_ne]; omega
    by_cases c2 : o = 2
    · subst c2
      clear h4 c1
      go_wp2
      go_ret3
      exact ⟨by rw [hZ.out]; rfl, X4.out.bel⟩
    · have d2 : (o == 2) = false := by rw [beq_eq_false_iff_ne]; omega
      by_cases c3 : o = 4
      · subst c3
        clear h4 c1 c2
        go_wp2
        go_ret3
        exact ⟨by rw [hZ.out]; rfl, X4.out.bel⟩
      · have d3 : (o == 4) = false := by rw [beq_eq_false_iff_ne]; omega
        have d4 : decide (most ≤ (l.length : Int)) = true := by rw [decide_eq_true_eq]; omega
        clear h4 c1 c2 c3
        go_wp2
        go_ret3
        exact ⟨by rw [hZ.out]; rfl, X4.out.bel⟩
end Go.Proofs.Ytaiiobojlipbeaa
