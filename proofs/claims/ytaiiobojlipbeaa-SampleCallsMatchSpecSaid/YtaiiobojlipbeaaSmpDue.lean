/-
  Due of package sample.
-/
import Derived.Test.YtaiiobojlipbeaaSmpFirst
namespace Go.Proofs.Ytaiiobojlipbeaa
open Go.RowKit

/-- What Due gives back. -/
def DuePost (r : Int × Bool × Int) (w : World) (e : Ending) (w' : World) : Prop := e = .returned (.tuple #[.int .i64 r.1, .bool r.2.1, .int .i64 r.2.2]) ∧ Below w.heap.size w w'
theorem wins_of {V : List (Int × Int)} (h : ∀ x ∈ V, 0 ≤ x.1 ∧ x.1 < x.2 ∧ x.2 ≤ 1440) : wins V := fun j f t hj => h (f, t) (List.mem_of_getElem? hj)
theorem mins_of {l : List (Int × Int)} (h : ∀ x ∈ l, (0 ≤ x.1 ∧ x.1 ≤ 1099511627776) ∧ 1 ≤ x.2 ∧ x.2 ≤ 7) : mins l := fun j m o hj => (h (m, o) (List.mem_of_getElem? hj)).1
/-- A calling that is as it must be. -/
structure Fit (most gap : Int) (D : List Int) (V : List (Int × Int)) : Prop where
  m : 1 ≤ most ∧ most ≤ 100
  g : 0 ≤ gap ∧ gap ≤ 1000000
  d : D ≠ []
  v : V ≠ []
  dd : ∀ x ∈ D, 0 ≤ x ∧ x ≤ 6
  vv : ∀ x ∈ V, 0 ≤ x.1 ∧ x.1 < x.2 ∧ x.2 ≤ 1440
  n : V.length ≤ 8
theorem fit_of {most gap : Int} {D : List Int} {V : List (Int × Int)} (h : Sm.callF most gap D V = 0) : Fit most gap D V := by
  unfold Sm.callF at h
  split at h
  · omega
  · split at h
    · omega
    · split at h
      · rename_i h1; exact absurd h h1
      · rename_i h1 h2 h3
        simp only [Decidable.not_not] at h3
        simp only [not_or] at h2
        unfold Sm.wnsF at h
        split at h
        · omega
        · exact ⟨by omega, by omega, h2.1, h2.2, Sm.wdF_ok h3, Sm.wnF_ok h, by omega⟩
/-- Attempts that are as they must be. -/
structure Kept (l : List (Int × Int)) : Prop where
  n : l.length ≤ 100
  m : mins l
  o : 1 ≤ (Sm.outcF l).1 ∧ (Sm.outcF l).1 ≤ 7
theorem kept_of {l : List (Int × Int)} (h : (Sm.outcF l).2 = 0) : Kept l := by
  unfold Sm.outcF at h
  split at h
  · simp at h
  · split at h
    · rename_i h1 h2; exact absurd h h2
    · rename_i h1 h2
      simp only [Decidable.not_not] at h2
      have hk := Sm.attF_ok h2
      refine ⟨by omega, mins_of hk, ?_⟩
      unfold Sm.outcF
      rw [if_neg h1, if_neg (by omega)]
      exact Sm.outF_bd (fun x hx => (hk x hx).2) 7 (by omega) (by omega)
theorem dueM_bd {gap minute : Int} {l : List (Int × Int)} (hm : mins l) (g0 : 0 ≤ gap) (g1 : gap ≤ 1000000) (m0 : 0 ≤ minute) (m1 : minute ≤ 1099511627776) : 0 ≤ Sm.dueM gap l minute ∧ Sm.dueM gap l minute ≤ 1999999999999 := by
  unfold Sm.dueM
  split
  · omega
  · obtain ⟨m, o, h⟩ := pair_at (l := l) (k := l.length - 1) (by omega)
    have := hm _ m o h
    simp only [List.getD, h, Option.getD_some]
    omega
theorem Outcome_any (a : Option Addr) (c : Nat) (l : List (Int × Int)) (w : World) (h : RdP w a l) :
    Calls Try.prog 13 #[.slice a l.length c] w (TwoPost (Sm.outcF l) w) := by
  by_cases hn : 100 < l.length
  · exact Outcome_long a c l w h.1 hn
  · exact Outcome_c a c l w h (by omega)

theorem dueF_1 {most gap minute z : Int} {D : List Int} {V l : List (Int × Int)} (h : Sm.callF most gap D V = z) (hz : z ≠ 0) : Sm.dueF most gap D V l minute = (0, false, z) := by
  unfold Sm.dueF; rw [if_pos (by omega), h]
theorem dueF_2 {most gap minute z : Int} {D : List Int} {V l : List (Int × Int)} (h : Sm.callF most gap D V = 0) (h2 : (Sm.outcF l).2 = z) (hz : z ≠ 0) : Sm.dueF most gap D V l minute = (0, false, z) := by
  unfold Sm.dueF; rw [if_neg (by omega), if_pos (by omega), h2]
theorem dueF_3 {most gap minute : Int} {D : List Int} {V l : List (Int × Int)} (h : Sm.callF most gap D V = 0) (h2 : (Sm.outcF l).2 = 0) (h3 : minute < 0 ∨ 1099511627776 < minute) : Sm.dueF most gap D V l minute = (0, false, 1) := by
  unfold Sm.dueF; rw [if_neg (by omega), if_neg (by omega), if_pos h3]
theorem dueF_4 {most gap minute : Int} {D : List Int} {V l : List (Int × Int)} (h : Sm.callF most gap D V = 0) (h2 : (Sm.outcF l).2 = 0) (h3 : ¬ (minute < 0 ∨ 1099511627776 < minute)) (h4 : (Sm.outcF l).1 = 1 ∨ (Sm.outcF l).1 = 2 ∨ (Sm.outcF l).1 = 4 ∨ most ≤ l.length) : Sm.dueF most gap D V l minute = (0, false, 0) := by
  unfold Sm.dueF; rw [if_neg (by omega), if_neg (by omega), if_neg h3, if_pos h4]
theorem dueF_5 {most gap minute z : Int} {D : List Int} {V l : List (Int × Int)} (h : Sm.callF most gap D V = 0) (h2 : (Sm.outcF l).2 = 0) (h3 : ¬ (minute < 0 ∨ 1099511627776 < minute)) (h4 : ¬ ((Sm.outcF l).1 = 1 ∨ (Sm.outcF l).1 = 2 ∨ (Sm.outcF l).1 = 4 ∨ most ≤ l.length)) (h5 : Sm.dueAt D (Sm.nextW l V) (Sm.dueM gap l minute) = z) :
    Sm.dueF most gap D V l minute = if 1099511627776 < z then (0, false, 0) else (z, true, 0) := by
  unfold Sm.dueF; rw [if_neg (by omega), if_neg (by omega), if_neg h3, if_neg h4, h5]

/-- Reads in a box, with what was there before. -/
theorem Cx.loads {w wr : World} {most gap : Int} {v2 v3 : Value} (h : Cx w most gap v2 v3 wr) : wr.cell? ⟨w.heap.size, 0, none⟩ = some (.int .i64 most) ∧ wr.cell? ⟨w.heap.size, 1, none⟩ = some (.int .i64 gap) ∧ wr.cell? ⟨w.heap.size, 2, none⟩ = some v2 ∧ wr.cell? ⟨w.heap.size, 3, none⟩ = some v3 := ⟨h.c0, h.c1, h.c2, h.c3⟩
set_option maxRecDepth 100000 in
set_option maxHeartbeats 4000000 in
theorem Due_1 (most gap minute : Int) (aD aV a : Option Addr) (cD cV c : Nat) (D : List Int) (V l : List (Int × Int)) (w : World) (hD : Rd w aD D) (hV : RdP w aV V) (hl : RdP w a l) (h1 : Sm.callF most gap D V ≠ 0) :
    Calls Try.prog 17 #[.agg #[.int .i64 most, .int .i64 gap, .slice aD D.length cD, .slice aV V.length cV], .slice a l.length c, .int .i64 minute] w (DuePost (Sm.dueF most gap D V l minute) w) := by
  have hX := Lib.hid (Cx.start w most gap (.slice aD D.length cD) (.slice aV V.length cV) 33)
  have HD := Lib.hid (hD.below hX.out.bel)
  have HV := Lib.hid (hV.below hX.out.bel)
  have HL := Lib.hid (hl.below hX.out.bel)
  have lD := hD.1
  have lV := hV.1
  have ll := hl.1
  clear hD hV hl
  have hZ := Lib.hid (dueF_1 (l := l) (minute := minute) rfl h1)
  have e1 : (Sm.callF most gap D V == 0) = false := by rw [beq_eq_false_iff_ne]; exact h1
  have e2 : (Sm.callF most gap D V != 0) = true := by rw [bne_iff_ne]; exact h1
  clear h1
  go_enter Try.func17, Try.ntmps17
  go_wp2_with fail
  generalize w.alloc (.cells #[.int .i64 most, .int .i64 gap, .slice aD D.length cD, .slice aV V.length cV] 33) = w1 at *
  refine (CheckCalling_c most gap aD aV cD cV D V w1 HD.out HV.out).mono ?_
  rintro e w2 ⟨rfl, b2⟩
  have B2 := Lib.hid b2
  have X2 := Lib.hid (hX.out.keep b2)
  clear b2
  generalize Sm.callF most gap D V = z at *
  go_wp2
  go_ret3
  exact ⟨by rw [hZ.out]; rfl, X2.out.bel⟩
set_option maxRecDepth 100000 in
set_option maxHeartbeats 4000000 in
theorem Due_2 (most gap minute : Int) (aD aV a : Option Addr) (cD cV c : Nat) (D : List Int) (V l : List (Int × Int)) (w : World) (hD : Rd w aD D) (hV : RdP w aV V) (hl : RdP w a l) (h1 : Sm.callF most gap D V = 0) (h2 : (Sm.outcF l).2 ≠ 0) :
    Calls Try.prog 17 #[.agg #[.int .i64 most, .int .i64 gap, .slice aD D.length cD, .slice aV V.length cV], .slice a l.length c, .int .i64 minute] w (DuePost (Sm.dueF most gap D V l minute) w) := by
  have hX := Lib.hid (Cx.start w most gap (.slice aD D.length cD) (.slice aV V.length cV) 33)
  have HD := Lib.hid (hD.below hX.out.bel)
  have HV := Lib.hid (hV.below hX.out.bel)
  have HL := Lib.hid (hl.below hX.out.bel)
  have lD := hD.1
  have lV := hV.1
  have ll := hl.1
  clear hD hV hl
  have hZ := Lib.hid (dueF_2 (minute := minute) h1 rfl h2)
  have H1 := Lib.hid h1
  have e1 : ((Sm.outcF l).2 == 0) = false := by rw [beq_eq_false_iff_ne]; exact h2
  have e2 : ((Sm.outcF l).2 != 0) = true := by rw [bne_iff_ne]; exact h2
  clear h1 h2
  go_enter Try.func17, Try.ntmps17
  go_wp2_with fail
  generalize w.alloc (.cells #[.int .i64 most, .int .i64 gap, .slice aD D.length cD, .slice aV V.length cV] 33) = w1 at *
  refine (CheckCalling_c most gap aD aV cD cV D V w1 HD.out HV.out).mono ?_
  rintro e w2 ⟨rfl, b2⟩
  have B2 := Lib.hid b2
  have X2 := Lib.hid (hX.out.keep b2)
  clear b2
  rw [H1.out]
  go_wp2_with fail
  refine (Outcome_any a c l w2 (HL.out.below B2.out)).mono ?_
  rintro e w3 ⟨rfl, b3⟩
  have B3 := Lib.hid (B2.out.trans (b3.mono B2.out.size))
  have X3 := Lib.hid (X2.out.keep b3)
  clear b3 B2
  generalize (Sm.outcF l).2 = z at *
  go_wp2
  go_ret3
  exact ⟨by rw [hZ.out]; rfl, X3.out.bel⟩
set_option maxRecDepth 100000 in
set_option maxHeartbeats 4000000 in
theorem Due_3 (most gap minute : Int) (aD aV a : Option Addr) (cD cV c : Nat) (D : List Int) (V l : List (Int × Int)) (w : World) (hD : Rd w aD D) (hV : RdP w aV V) (hl : RdP w a l) (h1 : Sm.callF most gap D V = 0) (h2 : (Sm.outcF l).2 = 0) (h3 : minute < 0 ∨ 1099511627776 < minute) :
    Calls Try.prog 17 #[.agg #[.int .i64 most, .int .i64 gap, .slice aD D.length cD, .slice aV V.length cV], .slice a l.length c, .int .i64 minute] w (DuePost (Sm.dueF most gap D V l minute) w) := by
  have hX := Lib.hid (Cx.start w most gap (.slice aD D.length cD) (.slice aV V.length cV) 33)
  have HD := Lib.hid (hD.below hX.out.bel)
  have HV := Lib.hid (hV.below hX.out.bel)
  have HL := Lib.hid (hl.below hX.out.bel)
  have lD := hD.1
  have lV := hV.1
  have ll := hl.1
  clear hD hV hl
  have hZ := Lib.hid (dueF_3 h1 h2 h3)
  have H1 := Lib.hid h1
  have H2 := Lib.hid h2
  have H3 := Lib.hid h3
  clear h1 h2 h3
  go_enter Try.func17, Try.ntmps17
  go_wp2_with fail
  generalize w.alloc (.cells #[.int .i64 most, .int .i64 gap, .slice aD D.length cD, .slice aV V.length cV] 33) = w1 at *
  refine (CheckCalling_c most gap aD aV cD cV D V w1 HD.out HV.out).mono ?_
  rintro e w2 ⟨rfl, b2⟩
  have B2 := Lib.hid b2
  have X2 := Lib.hid (hX.out.keep b2)
  clear b2
  rw [H1.out]
  go_wp2_with fail
  refine (Outcome_any a c l w2 (HL.out.below B2.out)).mono ?_
  rintro e w3 ⟨rfl, b3⟩
  have B3 := Lib.hid (B2.out.trans (b3.mono B2.out.size))
  have X3 := Lib.hid (X2.out.keep b3)
  clear b3 B2
  rw [H2.out]
  go_wp2_with fail
  refine (isMinute_n _ _ H3.out).mono ?_
  rintro e w' ⟨rfl, rfl⟩
  go_wp2
  go_ret3
  exact ⟨by rw [hZ.out]; rfl, X3.out.bel⟩
set_option maxRecDepth 100000 in
set_option maxHeartbeats 4000000 in
theorem Due_4 (most gap minute : Int) (aD aV a : Option Addr) (cD cV c : Nat) (D : List Int) (V l : List (Int × Int)) (w : World) (hD : Rd w aD D) (hV : RdP w aV V) (hl : RdP w a l) (h1 : Sm.callF most gap D V = 0) (h2 : (Sm.outcF l).2 = 0) (h3 : ¬ (minute < 0 ∨ 1099511627776 < minute)) (h4 : (Sm.outcF l).1 = 1 ∨ (Sm.outcF l).1 = 2 ∨ (Sm.outcF l).1 = 4 ∨ most ≤ l.length) :
    Calls Try.prog 17 #[.agg #[.int .i64 most, .int .i64 gap, .slice aD D.length cD, .slice aV V.length cV], .slice a l.length c, .int .i64 minute] w (DuePost (Sm.dueF most gap D V l minute) w) := by
  have hX := Lib.hid (Cx.start w most gap (.slice aD D.length cD) (.slice aV V.length cV) 33)
  have HD := Lib.hid (hD.below hX.out.bel)
  have HV := Lib.hid (hV.below hX.out.bel)
  have HL := Lib.hid (hl.below hX.out.bel)
  have lD := hD.1
  have lV := hV.1
  have ll := hl.1
  clear hD hV hl
  have hZ := Lib.hid (dueF_4 h1 h2 h3 h4)
  have H1 := Lib.hid h1
  have H2 := Lib.hid h2
  have H3 := Lib.hid (fun w => isMinute_c minute w (by omega) (by omega))
  have H4 := Lib.hid h4
  clear h1 h2 h3 h4
  go_enter Try.func17, Try.ntmps17
  go_wp2_with fail
  generalize w.alloc (.cells #[.int .i64 most, .int .i64 gap, .slice aD D.length cD, .slice aV V.length cV] 33) = w1 at *
  refine (CheckCalling_c most gap aD aV cD cV D V w1 HD.out HV.out).mono ?_
  rintro e w2 ⟨rfl, b2⟩
  have B2 := Lib.hid b2
  have X2 := Lib.hid (hX.out.keep b2)
  clear b2
  rw [H1.out]
  go_wp2_with fail
  refine (Outcome_any a c l w2 (HL.out.below B2.out)).mono ?_
  rintro e w3 ⟨rfl, b3⟩
  have B3 := Lib.hid (B2.out.trans (b3.mono B2.out.size))
  have X3 := Lib.hid (X2.out.keep b3)
  clear b3 B2
  rw [H2.out]
  go_wp2_with fail
  refine (H3.out _).mono ?_
  rintro e w' ⟨rfl, rfl⟩
  go_wp2_with fail
  have h4 := H4.out
  clear H4
  by_cases c : (Sm.outcF l).1 = 1 ∨ (Sm.outcF l).1 = 2 ∨ (Sm.outcF l).1 = 4
  · have H5 := Lib.hid (fun w => isFinal_y _ w c)
    clear h4 c
    refine (H5.out _).mono ?_
    rintro e w' ⟨rfl, rfl⟩
    go_wp2
    go_ret3
    exact ⟨by rw [hZ.out]; rfl, X3.out.bel⟩
  · have H5 := Lib.hid (fun w => isFinal_n _ w c)
    have hm : most ≤ (l.length : Int) := by omega
    have d : decide (most ≤ (l.length : Int)) = true := by simp; omega
    have k0 := X3.out.c0
    clear h4 c
    refine (H5.out _).mono ?_
    rintro e w' ⟨rfl, rfl⟩
    go_wp2
    go_ret3
    exact ⟨by rw [hZ.out]; rfl, X3.out.bel⟩
end Go.Proofs.Ytaiiobojlipbeaa
