/-
  SampleFramesMatchSpec: the walk of the law.
-/
import Derived.Test.YtkppfceogknlkaaDoorFrmEq
namespace Go.Proofs.YtkppfceogknlkaaDoor
open Go.RowKit Go.WideMaps Go.Maps

theorem stF_four (l : List Un) (x : List UInt8) : (stF l x).length = 4 := rfl
/-- What Strata hands back reads as the strata. -/
theorem rdT_of {l : List Un} {w w' : World} {e : Ending} (h : StP l w e w') : ∃ a n c, e = .returned (.tuple #[.slice a n c, .int .i64 (chkF l)]) ∧ Below w.heap.size w w' ∧
    n = (if chkF l = 0 then (strN l).length else 0) ∧ RdT w' a n (fun j => stF l ((strN l).getD j [])) := by
  obtain ⟨v, rfl, hb, h0, h1⟩ := h
  by_cases e : chkF l = 0
  · obtain ⟨L, hL⟩ := h1 e
    have hn : (strN l).length ≤ 40 := by
      by_cases h5 : l.length ≤ 5000
      · by_cases hf : firstE l l.length = 0
        · by_cases h40 : 40 < (strN l).length
          · rw [chkF_many h5 hf h40] at e; omega
          · omega
        · unfold chkF at e
          rw [if_pos h5, if_neg hf] at e
          exact absurd e hf
      · rw [chkF_large h5] at e; omega
    obtain ⟨a, c, rfl, hr⟩ := rdT_own (fun j => stF_four l _) hL (by omega)
    exact ⟨a, _, c, rfl, hb, by rw [if_pos e], hr⟩
  · rw [h0 e]
    exact ⟨none, 0, 0, rfl, hb, by rw [if_neg e], by omega, fun h => by omega⟩
set_option maxRecDepth 100000 in
set_option maxHeartbeats 2000000 in
theorem law_frames (a : Option Addr) (c : Nat) (l : List Un) (w : World) (hl : RdU w a l) (hst : ∀ u, u ∈ l → u.st.size ≤ maxLen) (hE : Env w) :
    Calls Tryd.prog 3 #[.slice a l.length c] w fun e w' => e = .returned (.bool true) ∧ Below w.heap.size w w' := by
  have HL := Lib.hid hl
  have HS := Lib.hid hst
  have HE := Lib.hid hE
  have C1 := Lib.hid (fun W (h : RdU W a l) => Strata_c a c l W h hst)
  have C2 := Lib.hid (fun W (h : RdU W a l) (hE : Env W) => RStrata_c a c l W h hst hE)
  have C3 := Lib.hid (fun W (h : RdU W a l) => CheckFrame_c a c l W h hst)
  have C4 := Lib.hid (fun W (h : RdU W a l) (hE : Env W) => RFrame_c a c l W h hE)
  clear hl hst hE
  go_enter Tryd.func3, Tryd.ntmps3
  go_wp2_with fail
  refine (C1.out w HL.out).mono ?_
  intro e w1 h1
  obtain ⟨a1, n1, c1, rfl, b1, hn1, hr1⟩ := rdT_of h1
  have B1 := Lib.hid b1
  have R1 := Lib.hid hr1
  have N1 := Lib.hid hn1
  clear h1 b1 hr1 hn1
  go_wp2_with fail
  refine (C2.out w1 (HL.out.below B1.out) (HE.out.below B1.out)).mono ?_
  intro e w2 h2
  obtain ⟨a2, n2, c2, rfl, b2, hn2, hr2⟩ := rdT_of h2
  obtain rfl : n2 = n1 := by rw [hn2, N1.out]
  have B2 := Lib.hid (B1.out.trans (b2.mono B1.out.size))
  have R1b := Lib.hid (R1.out.below b2)
  have R2 := Lib.hid hr2
  clear h2 b2 hr2 hn2 N1 R1
  generalize chkF l = ck at *
  go_wp2_with fail
  refine (C3.out w2 (HL.out.below B2.out)).mono ?_
  rintro e w3 ⟨rfl, b3⟩
  have B3 := Lib.hid (B2.out.trans (b3.mono B2.out.size))
  have R1c := Lib.hid (R1b.out.below b3)
  have R2c := Lib.hid (R2.out.below b3)
  clear b3 R1b R2
  go_wp2_with fail
  refine (C4.out w3 (HL.out.below B3.out) (HE.out.below B3.out)).mono ?_
  rintro e w4 ⟨rfl, b4⟩
  have B4 := Lib.hid (B3.out.trans (b4.mono B3.out.size))
  have R1d := Lib.hid (R1c.out.below b4)
  have R2d := Lib.hid (R2c.out.below b4)
  clear b4 R1c R2c
  go_wp2_with fail
  refine (eqT_c a1 a2 c1 c2 n2 _ _ _ _ w4 R1d.out R2d.out).mono ?_
  rintro e w5 ⟨rfl, b5⟩
  have B5 := Lib.hid (B4.out.trans (b5.mono B4.out.size))
  clear b5
  go_wp2
  go_ret
  exact ⟨rfl, B5.out⟩
end Go.Proofs.YtkppfceogknlkaaDoor
