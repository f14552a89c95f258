/-
  The law's helper both, called with sum and with product.
-/
import Derived.Test.YtaibpppobblnoaaDoorWhLaw
namespace Go.Proofs.YtaibpppobblnoaaDoor
open Go.RowKit

set_option maxRecDepth 100000 in
set_option maxHeartbeats 4000000 in
theorem Lboth_sum_c (a : Rp) (x : Bool) (b : Rp) (y : Bool) (w : World) :
    Calls Tryd.prog 5 #[.func (.func 4) #[] #[], pv a, .bool x, pv b, .bool y] w (LpPost (bothP fSum a x b y) w) := by
  obtain ⟨s, t⟩ := a
  obtain ⟨s', t'⟩ := b
  obtain ⟨W0, hW0⟩ : ∃ W0, ((w.alloc (.cells #[.string s, .string t] 23)).alloc (.cells #[.string s', .string t'] 23)).alloc (.cells #[.string ⟨#[]⟩, .string ⟨#[]⟩] 23) = W0 := ⟨_, rfl⟩
  have J0 : Hid (Sa w s t s' t' W0) := by rw [← hW0]; exact Sa.made _ _ _ _ _ _ _ _
  have x0 := J0.out.x.c0
  have x1 := J0.out.x.c1
  have y0 := J0.out.y.c0
  have y1 := J0.out.y.c1
  have H1 := Lib.hid (fun w => Lsum_c (s, t) (s', t') w)
  cases x
  · have HOP : Hid (bothP fSum (s, t) false (s', t') y = (noP, false)) := by unfold Hid bothP; rw [if_neg (by simp)]
    obtain ⟨WC, hWC⟩ : ∃ WC, two W0 (w.heap.size + 1 + 1) (.string ⟨#[]⟩) (.string ⟨#[]⟩) = WC := ⟨_, rfl⟩
    have R9 : B2 WC (w.heap.size + 1 + 1) (.string ⟨#[]⟩) (.string ⟨#[]⟩) := by rw [← hWC]; exact J0.out.r.set _ _
    have PP : Hid (LpPost (bothP fSum (s, t) false (s', t') y) w (.returned (.tuple #[.agg #[.string ⟨#[]⟩, .string ⟨#[]⟩], .bool false])) WC) := by
      rw [← hWC]
      exact ⟨by rw [HOP.out]; rfl, below_two J0.out.bel (by omega) _ _⟩
    have r0 := J0.out.r.c0
    have r1 := J0.out.r.c1
    have rf0 := J0.out.r.fr 0
    have rf1 := J0.out.r.fr 1
    obtain ⟨q0, q1, _, _⟩ := id R9
    unfold two at hWC
    clear R9 H1
    go_enter Tryd.func5, Tryd.ntmps5
    go_wp2_with fail
    exact bodyPost_ret (v := .tuple #[.agg #[.string ⟨#[]⟩, .string ⟨#[]⟩], .bool false]) (by simp [results, Tryd.results5, go_sem, q0, q1]) rfl PP.out
  cases y
  · have HOP : Hid (bothP fSum (s, t) true (s', t') false = (noP, false)) := by unfold Hid bothP; rw [if_neg (by simp)]
    obtain ⟨WC, hWC⟩ : ∃ WC, two W0 (w.heap.size + 1 + 1) (.string ⟨#[]⟩) (.string ⟨#[]⟩) = WC := ⟨_, rfl⟩
    have R9 : B2 WC (w.heap.size + 1 + 1) (.string ⟨#[]⟩) (.string ⟨#[]⟩) := by rw [← hWC]; exact J0.out.r.set _ _
    have PP : Hid (LpPost (bothP fSum (s, t) true (s', t') false) w (.returned (.tuple #[.agg #[.string ⟨#[]⟩, .string ⟨#[]⟩], .bool false])) WC) := by
      rw [← hWC]
      exact ⟨by rw [HOP.out]; rfl, below_two J0.out.bel (by omega) _ _⟩
    have r0 := J0.out.r.c0
    have r1 := J0.out.r.c1
    have rf0 := J0.out.r.fr 0
    have rf1 := J0.out.r.fr 1
    obtain ⟨q0, q1, _, _⟩ := id R9
    unfold two at hWC
    clear R9 H1
    go_enter Tryd.func5, Tryd.ntmps5
    go_wp2_with fail
    exact bodyPost_ret (v := .tuple #[.agg #[.string ⟨#[]⟩, .string ⟨#[]⟩], .bool false]) (by simp [results, Tryd.results5, go_sem, q0, q1]) rfl PP.out
  · have HOP : Hid (bothP fSum (s, t) true (s', t') true = opP fSum (s, t) (s', t')) := by unfold Hid bothP; rw [if_pos ⟨rfl, rfl⟩]
    obtain ⟨rr, hrr⟩ : ∃ rr, opP fSum (s, t) (s', t') = rr := ⟨_, rfl⟩
    rw [hrr] at H1 HOP
    clear hrr
    obtain ⟨⟨r1, r2⟩, bb⟩ := rr
    have H2 : Hid (∀ w, Calls Tryd.prog 4 #[.agg #[.string s, .string t], .agg #[.string s', .string t']] w fun e w' => e = .returned (.tuple #[.agg #[.string r1, .string r2], .bool bb]) ∧ Below w.heap.size w w') := H1.out
    clear H1
    go_enter Tryd.func5, Tryd.ntmps5
    go_wp2_with fail
    clear hW0 x0 x1 y0 y1
    refine (H2.out _).mono ?_
    rintro e w1 ⟨rfl, b1⟩
    have J1 := Lib.hid (J0.out.keep b1)
    clear b1 H2 J0
    obtain ⟨WC, hWC⟩ : ∃ WC, two w1 (w.heap.size + 1 + 1) (.string r1) (.string r2) = WC := ⟨_, rfl⟩
    have R9 : B2 WC (w.heap.size + 1 + 1) (.string r1) (.string r2) := by rw [← hWC]; exact J1.out.r.set _ _
    have PP : Hid (LpPost (bothP fSum (s, t) true (s', t') true) w (.returned (.tuple #[.agg #[.string r1, .string r2], .bool bb])) WC) := by
      rw [← hWC]
      exact ⟨by rw [HOP.out], below_two J1.out.bel (by omega) _ _⟩
    have c0 := J1.out.r.c0
    have c1 := J1.out.r.c1
    have cf0 := J1.out.r.fr 0
    have cf1 := J1.out.r.fr 1
    obtain ⟨q0, q1, _, _⟩ := id R9
    unfold two at hWC
    clear R9
    go_wp2_with fail
    exact bodyPost_ret (v := .tuple #[.agg #[.string r1, .string r2], .bool bb]) (by simp [results, Tryd.results5, go_sem, q0, q1]) rfl PP.out
set_option maxRecDepth 100000 in
set_option maxHeartbeats 4000000 in
theorem Lboth_product_c (a : Rp) (x : Bool) (b : Rp) (y : Bool) (w : World) :
    Calls Tryd.prog 5 #[.func (.func 7) #[] #[], pv a, .bool x, pv b, .bool y] w (LpPost (bothP fMul a x b y) w) := by
  obtain ⟨s, t⟩ := a
  obtain ⟨s', t'⟩ := b
  obtain ⟨W0, hW0⟩ : ∃ W0, ((w.alloc (.cells #[.string s, .string t] 23)).alloc (.cells #[.string s', .string t'] 23)).alloc (.cells #[.string ⟨#[]⟩, .string ⟨#[]⟩] 23) = W0 := ⟨_, rfl⟩
  have J0 : Hid (Sa w s t s' t' W0) := by rw [← hW0]; exact Sa.made _ _ _ _ _ _ _ _
  have x0 := J0.out.x.c0
  have x1 := J0.out.x.c1
  have y0 := J0.out.y.c0
  have y1 := J0.out.y.c1
  have H1 := Lib.hid (fun w => Lproduct_c (s, t) (s', t') w)
  cases x
  · have HOP : Hid (bothP fMul (s, t) false (s', t') y = (noP, false)) := by unfold Hid bothP; rw [if_neg (by simp)]
    obtain ⟨WC, hWC⟩ : ∃ WC, two W0 (w.heap.size + 1 + 1) (.string ⟨#[]⟩) (.string ⟨#[]⟩) = WC := ⟨_, rfl⟩
    have R9 : B2 WC (w.heap.size + 1 + 1) (.string ⟨#[]⟩) (.string ⟨#[]⟩) := by rw [← hWC]; exact J0.out.r.set _ _
    have PP : Hid (LpPost (bothP fMul (s, t) false (s', t') y) w (.returned (.tuple #[.agg #[.string ⟨#[]⟩, .string ⟨#[]⟩], .bool false])) WC) := by
      rw [← hWC]
      exact ⟨by rw [HOP.out]; rfl, below_two J0.out.bel (by omega) _ _⟩
    have r0 := J0.out.r.c0
    have r1 := J0.out.r.c1
    have rf0 := J0.out.r.fr 0
    have rf1 := J0.out.r.fr 1
    obtain ⟨q0, q1, _, _⟩ := id R9
    unfold two at hWC
    clear R9 H1
    go_enter Tryd.func5, Tryd.ntmps5
    go_wp2_with fail
    exact bodyPost_ret (v := .tuple #[.agg #[.string ⟨#[]⟩, .string ⟨#[]⟩], .bool false]) (by simp [results, Tryd.results5, go_sem, q0, q1]) rfl PP.out
  cases y
  · have HOP : Hid (bothP fMul (s, t) true (s', t') false = (noP, false)) := by unfold Hid bothP; rw [if_neg (by simp)]
    obtain ⟨WC, hWC⟩ : ∃ WC, two W0 (w.heap.size + 1 + 1) (.string ⟨#[]⟩) (.string ⟨#[]⟩) = WC := ⟨_, rfl⟩
    have R9 : B2 WC (w.heap.size + 1 + 1) (.string ⟨#[]⟩) (.string ⟨#[]⟩) := by rw [← hWC]; exact J0.out.r.set _ _
    have PP : Hid (LpPost (bothP fMul (s, t) true (s', t') false) w (.returned (.tuple #[.agg #[.string ⟨#[]⟩, .string ⟨#[]⟩], .bool false])) WC) := by
      rw [← hWC]
      exact ⟨by rw [HOP.out]; rfl, below_two J0.out.bel (by omega) _ _⟩
    have r0 := J0.out.r.c0
    have r1 := J0.out.r.c1
    have rf0 := J0.out.r.fr 0
    have rf1 := J0.out.r.fr 1
    obtain ⟨q0, q1, _, _⟩ := id R9
    unfold two at hWC
    clear R9 H1
    go_enter Tryd.func5, Tryd.ntmps5
    go_wp2_with fail
    exact bodyPost_ret (v := .tuple #[.agg #[.string ⟨#[]⟩, .string ⟨#[]⟩], .bool false]) (by simp [results, Tryd.results5, go_sem, q0, q1]) rfl PP.out
  · have HOP : Hid (bothP fMul (s, t) true (s', t') true = opP fMul (s, t) (s', t')) := by unfold Hid bothP; rw [if_pos ⟨rfl, rfl⟩]
    obtain ⟨rr, hrr⟩ : ∃ rr, opP fMul (s, t) (s', t') = rr := ⟨_, rfl⟩
    rw [hrr] at H1 HOP
    clear hrr
    obtain ⟨⟨r1, r2⟩, bb⟩ := rr
    have H2 : Hid (∀ w, Calls Tryd.prog 7 #[.agg #[.string s, .string t], .agg #[.string s', .string t']] w fun e w' => e = .returned (.tuple #[.agg #[.string r1, .string r2], .bool bb]) ∧ Below w.heap.size w w') := H1.out
    clear H1
    go_enter Tryd.func5, Tryd.ntmps5
    go_wp2_with fail
    clear hW0 x0 x1 y0 y1
    refine (H2.out _).mono ?_
    rintro e w1 ⟨rfl, b1⟩
    have J1 := Lib.hid (J0.out.keep b1)
    clear b1 H2 J0
    obtain ⟨WC, hWC⟩ : ∃ WC, two w1 (w.heap.size + 1 + 1) (.string r1) (.string r2) = WC := ⟨_, rfl⟩
    have R9 : B2 WC (w.heap.size + 1 + 1) (.string r1) (.string r2) := by rw [← hWC]; exact J1.out.r.set _ _
    have PP : Hid (LpPost (bothP fMul (s, t) true (s', t') true) w (.returned (.tuple #[.agg #[.string r1, .string r2], .bool bb])) WC) := by
      rw [← hWC]
      exact ⟨by rw [HOP.out], below_two J1.out.bel (by omega) _ _⟩
    have c0 := J1.out.r.c0
    have c1 := J1.out.r.c1
    have cf0 := J1.out.r.fr 0
    have cf1 := J1.out.r.fr 1
    obtain ⟨q0, q1, _, _⟩ := id R9
    unfold two at hWC
    clear R9
    go_wp2_with fail
    exact bodyPost_ret (v := .tuple #[.agg #[.string r1, .string r2], .bool bb]) (by simp [results, Tryd.results5, go_sem, q0, q1]) rfl PP.out
end Go.Proofs.YtaibpppobblnoaaDoor
