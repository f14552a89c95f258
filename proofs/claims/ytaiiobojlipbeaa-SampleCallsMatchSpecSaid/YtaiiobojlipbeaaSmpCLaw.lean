/-
  SampleCallsMatchSpec: the law's walk.
-/
import Derived.Test.YtaiiobojlipbeaaSmpRDueB
namespace Go.Proofs.Ytaiiobojlipbeaa
open Go.RowKit

theorem Due_c (most gap minute : Int) (aD aV a : Option Addr) (cD cV c : Nat) (D : List Int) (V l : List (Int × Int)) (w : World) (hD : Rd w aD D) (hV : RdP w aV V) (hl : RdP w a l) :
    Calls Try.prog 17 #[.agg #[.int .i64 most, .int .i64 gap, .slice aD D.length cD, .slice aV V.length cV], .slice a l.length c, .int .i64 minute] w (DuePost (Sm.dueF most gap D V l minute) w) := by
  by_cases h1 : Sm.callF most gap D V = 0
  · by_cases h2 : (Sm.outcF l).2 = 0
    · by_cases h3 : minute < 0 ∨ 1099511627776 < minute
      · exact Due_3 most gap minute aD aV a cD cV c D V l w hD hV hl h1 h2 h3
      · by_cases h4 : (Sm.outcF l).1 = 1 ∨ (Sm.outcF l).1 = 2 ∨ (Sm.outcF l).1 = 4 ∨ most ≤ l.length
        · exact Due_4 most gap minute aD aV a cD cV c D V l w hD hV hl h1 h2 h3 h4
        · exact Due_5 most gap minute aD aV a cD cV c D V l w hD hV hl h1 h2 h3 h4
    · exact Due_2 most gap minute aD aV a cD cV c D V l w hD hV hl h1 h2
  · exact Due_1 most gap minute aD aV a cD cV c D V l w hD hV hl h1
theorem RDue_c (most gap minute : Int) (aD aV a : Option Addr) (cD cV c : Nat) (D : List Int) (V l : List (Int × Int)) (w : World) (hD : Rd w aD D) (hV : RdP w aV V) (hl : RdP w a l) :
    Calls Try.prog 18 #[.agg #[.int .i64 most, .int .i64 gap, .slice aD D.length cD, .slice aV V.length cV], .slice a l.length c, .int .i64 minute] w (DuePost (Sm.dueF most gap D V l minute) w) := by
  by_cases h1 : Sm.callF most gap D V = 0
  · by_cases h2 : (Sm.outcF l).2 = 0
    · by_cases h3 : minute < 0 ∨ 1099511627776 < minute
      · exact RDue_3 most gap minute aD aV a cD cV c D V l w hD hV hl h1 h2 h3
      · by_cases h4 : (Sm.outcF l).1 = 1 ∨ (Sm.outcF l).1 = 2 ∨ (Sm.outcF l).1 = 4 ∨ most ≤ l.length
        · exact RDue_4 most gap minute aD aV a cD cV c D V l w hD hV hl h1 h2 h3 h4
        · exact RDue_5 most gap minute aD aV a cD cV c D V l w hD hV hl h1 h2 h3 h4
    · exact RDue_2 most gap minute aD aV a cD cV c D V l w hD hV hl h1 h2
  · exact RDue_1 most gap minute aD aV a cD cV c D V l w hD hV hl h1

/-- The calling in its box, and all that was there ahead. -/
def LawS (w w1 : World) (most gap : Int) (v2 v3 : Value) (W : World) : Prop :=
  W.cell? ⟨w.heap.size, 0, none⟩ = some (.int .i64 most) ∧ W.cell? ⟨w.heap.size, 1, none⟩ = some (.int .i64 gap) ∧ W.cell? ⟨w.heap.size, 2, none⟩ = some v2 ∧ W.cell? ⟨w.heap.size, 3, none⟩ = some v3 ∧ Hid (Cx w most gap v2 v3 W ∧ Below w1.heap.size w1 W)
theorem LawS.of {w w1 W : World} {most gap : Int} {v2 v3 : Value} (h1 : Cx w most gap v2 v3 W) (h2 : Below w1.heap.size w1 W) : LawS w w1 most gap v2 v3 W := ⟨h1.c0, h1.c1, h1.c2, h1.c3, h1, h2⟩
theorem LawS.bel {w w1 W : World} {most gap : Int} {v2 v3 : Value} (h : LawS w w1 most gap v2 v3 W) : Below w1.heap.size w1 W := by
  obtain ⟨_, _, _, _, hh⟩ := h; exact hh.out.2
theorem LawS.cx {w w1 W : World} {most gap : Int} {v2 v3 : Value} (h : LawS w w1 most gap v2 v3 W) : Cx w most gap v2 v3 W := by
  obtain ⟨_, _, _, _, hh⟩ := h; exact hh.out.1
theorem LawS.keep {w w1 W W' : World} {most gap : Int} {v2 v3 : Value} (h : LawS w w1 most gap v2 v3 W) (hb : Below W.heap.size W W') : LawS w w1 most gap v2 v3 W' :=
  LawS.of (h.cx.keep hb) (h.bel.trans (hb.mono h.bel.size))
theorem chk_lx (most gap z : Int) (aD aV : Option Addr) (cD cV : Nat) (D : List Int) (V : List (Int × Int)) (w w1 W : World) (hz : Sm.callF most gap D V = z) (hD : Rd w1 aD D) (hV : RdP w1 aV V) (hS : LawS w w1 most gap (.slice aD D.length cD) (.slice aV V.length cV) W) :
    Calls Try.prog 15 #[.agg #[.int .i64 most, .int .i64 gap, .slice aD D.length cD, .slice aV V.length cV]] W fun e w' => e = .returned (.int .i64 z) ∧ LawS w w1 most gap (.slice aD D.length cD) (.slice aV V.length cV) w' := by
  rw [← hz]
  exact (CheckCalling_c most gap aD aV cD cV D V W (hD.below hS.bel) (hV.below hS.bel)).mono fun e w' ⟨he, hb⟩ => ⟨he, hS.keep hb⟩
theorem rchk_lx (most gap z : Int) (aD aV : Option Addr) (cD cV : Nat) (D : List Int) (V : List (Int × Int)) (w w1 W : World) (hz : Sm.callF most gap D V = z) (hD : Rd w1 aD D) (hV : RdP w1 aV V) (hS : LawS w w1 most gap (.slice aD D.length cD) (.slice aV V.length cV) W) :
    Calls Try.prog 16 #[.agg #[.int .i64 most, .int .i64 gap, .slice aD D.length cD, .slice aV V.length cV]] W fun e w' => e = .returned (.int .i64 z) ∧ LawS w w1 most gap (.slice aD D.length cD) (.slice aV V.length cV) w' := by
  rw [← hz]
  exact (RCheckCalling_c most gap aD aV cD cV D V W (hD.below hS.bel) (hV.below hS.bel)).mono fun e w' ⟨he, hb⟩ => ⟨he, hS.keep hb⟩

set_option maxRecDepth 100000 in
set_option maxHeartbeats 8000000 in
theorem law_calls (most gap minute : Int) (aD aV a : Option Addr) (cD cV c : Nat) (D : List Int) (V l : List (Int × Int)) (w : World) (hD : Rd w aD D) (hV : RdP w aV V) (hl : RdP w a l) :
    Calls Try.prog 7 #[.agg #[.int .i64 most, .int .i64 gap, .slice aD D.length cD, .slice aV V.length cV], .slice a l.length c, .int .i64 minute] w fun e w' => e = .returned (.bool true) ∧ Below w.heap.size w w' := by
  have hX := Lib.hid (Cx.start w most gap (.slice aD D.length cD) (.slice aV V.length cV) 33)
  have HD := Lib.hid (hD.below hX.out.bel)
  have HV := Lib.hid (hV.below hX.out.bel)
  have HL := Lib.hid (hl.below hX.out.bel)
  obtain ⟨z, hz⟩ : ∃ z, Sm.callF most gap D V = z := ⟨_, rfl⟩
  have HZ := Lib.hid hz
  obtain ⟨r, hr⟩ : ∃ r, Sm.dueF most gap D V l minute = r := ⟨_, rfl⟩
  have HR := Lib.hid hr
  obtain ⟨o, ho⟩ : ∃ o, Sm.outcF l = o := ⟨_, rfl⟩
  have HO := Lib.hid ho
  clear hD hV hl hz hr ho
  go_enter Try.func7, Try.ntmps7
  go_wp2_with fail
  generalize w.alloc (.cells #[.int .i64 most, .int .i64 gap, .slice aD D.length cD, .slice aV V.length cV] 33) = w1 at *
  refine (Outcome_any a c l w1 HL.out).mono ?_
  rintro e w2 ⟨rfl, b2⟩
  have B2 := Lib.hid b2
  have X2 := Lib.hid (hX.out.keep b2)
  clear b2
  rw [HO.out]
  go_wp2_with fail
  refine (ROutcome_c a c l w2 (HL.out.below B2.out)).mono ?_
  rintro e w3 ⟨rfl, b3⟩
  have B3 := Lib.hid (B2.out.trans (b3.mono B2.out.size))
  have X3 := Lib.hid (X2.out.keep b3)
  clear b3 B2 X2
  rw [HO.out]
  go_wp2_with fail
  have hS : LawS w w1 most gap (.slice aD D.length cD) (.slice aV V.length cV) w3 := LawS.of X3.out B3.out
  go_region_held3 (fun W => W.cell? ⟨w.heap.size, 0, none⟩ = some (.int .i64 most) ∧ W.cell? ⟨w.heap.size, 1, none⟩ = some (.int .i64 gap) ∧ W.cell? ⟨w.heap.size, 2, none⟩ = some (.slice aD D.length cD) ∧ W.cell? ⟨w.heap.size, 3, none⟩ = some (.slice aV V.length cV) ∧ Hid (Cx w most gap (.slice aD D.length cD) (.slice aV V.length cV) W ∧ Below w1.heap.size w1 W)) ((first | exact hS.keep (Below.refl _ _).drew | assumption))
    (first | (go_at_call 15; (with_reducible refine (chk_lx most gap z aD aV cD cV D V w w1 _ HZ.out HD.out HV.out ?_).mono ?_); assumption; rintro e w' ⟨rfl, hbx⟩) | (go_at_call 16; (with_reducible refine (rchk_lx most gap z aD aV cD cV D V w w1 _ HZ.out HD.out HV.out ?_).mono ?_); assumption; rintro e w' ⟨rfl, hbx⟩))
  have X4 := Lib.hid hbx.cx
  have B4 := Lib.hid hbx.bel
  clear hbx hS
  have k0 := X4.out.c0
  have k1 := X4.out.c1
  have k2 := X4.out.c2
  have k3 := X4.out.c3
  go_wp2_with fail
  refine (Due_c most gap minute aD aV a cD cV c D V l _ (HD.out.below B4.out) (HV.out.below B4.out) (HL.out.below B4.out)).mono ?_
  rintro e w5 ⟨rfl, b5⟩
  have B5 := Lib.hid (B4.out.trans (b5.mono B4.out.size))
  have X5 := Lib.hid (X4.out.keep b5)
  clear b5 k0 k1 k2 k3
  rw [HR.out]
  have k0 := X5.out.c0
  have k1 := X5.out.c1
  have k2 := X5.out.c2
  have k3 := X5.out.c3
  go_wp2_with fail
  refine (RDue_c most gap minute aD aV a cD cV c D V l _ (HD.out.below B5.out) (HV.out.below B5.out) (HL.out.below B5.out)).mono ?_
  rintro e w6 ⟨rfl, b6⟩
  have X6 := Lib.hid (X5.out.keep b6)
  clear b6 k0 k1 k2 k3
  rw [HR.out]
  obtain ⟨r1, r2, r3⟩ := r
  go_wp2
  go_ret
  exact ⟨rfl, X6.out.bel⟩
end Go.Proofs.Ytaiiobojlipbeaa
