/-
  The helpers of the law: sum, product, agree.
-/
import Derived.Test.YtaibpppobblnoaaDoorWhOps
namespace Go.Proofs.YtaibpppobblnoaaDoor
open Go.RowKit

abbrev pv (a : Rp) : Value := .agg #[.string a.1, .string a.2]
theorem ba_eq {s s' : ByteArray} (h : s.toList = s'.toList) : s = s' := by
  rw [Lib.toList_data, Lib.toList_data] at h
  cases s; cases s'
  simp only [ByteArray.mk.injEq]
  exact Array.toList_inj.1 h
def LpPost (p : Rp × Bool) (w : World) (e : Ending) (w' : World) : Prop := e = .returned (.tuple #[pv p.1, .bool p.2]) ∧ Below w.heap.size w w'
set_option maxRecDepth 100000 in
set_option maxHeartbeats 4000000 in
theorem Lsum_c (a b : Rp) (w : World) :
    Calls Tryd.prog 4 #[pv a, pv b] w (LpPost (opP fSum a b) w) := by
  obtain ⟨s, t⟩ := a
  obtain ⟨s', t'⟩ := b
  obtain ⟨W0, hW0⟩ : ∃ W0, ((w.alloc (.cells #[.string s, .string t] 23)).alloc (.cells #[.string s', .string t'] 23)).alloc (.cells #[.string ⟨#[]⟩, .string ⟨#[]⟩] 23) = W0 := ⟨_, rfl⟩
  have J0 : Hid (Sa w s t s' t' W0) := by rw [← hW0]; exact Sa.made _ _ _ _ _ _ _ _
  have x0 := J0.out.x.c0
  have x1 := J0.out.x.c1
  have y0 := J0.out.y.c0
  have y1 := J0.out.y.c1
  have H1 := Lib.hid (fun w => Sum_c s t s' t' w)
  have HOP : Hid (opP fSum (s, t) (s', t') = (((opS fSum s.data.toList t.data.toList s'.data.toList t'.data.toList).1, (opS fSum s.data.toList t.data.toList s'.data.toList t'.data.toList).2.1), decide ((opS fSum s.data.toList t.data.toList s'.data.toList t'.data.toList).2.2 = 0))) := rfl
  obtain ⟨rr, hrr⟩ : ∃ rr, opS fSum s.data.toList t.data.toList s'.data.toList t'.data.toList = rr := ⟨_, rfl⟩
  rw [hrr] at H1 HOP
  clear hrr
  obtain ⟨r1, r2, fl⟩ := rr
  obtain ⟨bb, hbb⟩ : ∃ bb, (fl == 0) = bb := ⟨_, rfl⟩
  have HBB : Hid (decide (fl = 0) = bb) := hbb
  go_enter Tryd.func4, Tryd.ntmps4
  go_wp2_with fail
  clear hW0 x0 x1 y0 y1
  refine (H1.out _).mono ?_
  rintro e w1 ⟨rfl, b1⟩
  have J1 := Lib.hid (J0.out.keep b1)
  clear b1 H1 J0
  obtain ⟨WA, hWA⟩ : ∃ WA, w1.alloc (.cells #[.string ⟨#[]⟩, .string ⟨#[]⟩] 23) = WA := ⟨_, rfl⟩
  have D1 : B2 WA w1.heap.size (.string ⟨#[]⟩) (.string ⟨#[]⟩) := by rw [← hWA]; exact B2.made _ _ _ _
  obtain ⟨WB, hWB⟩ : ∃ WB, two WA w1.heap.size (.string r1) (.string r2) = WB := ⟨_, rfl⟩
  have hbb1 : Below w1.heap.size w1 WB := by rw [← hWB]; exact below_two (by rw [← hWA]; exact bel_one _ _) (Nat.le_refl _) _ _
  have D2 : B2 WB w1.heap.size (.string r1) (.string r2) := by rw [← hWB]; exact D1.set _ _
  have J2 := Lib.hid (J1.out.keep hbb1)
  have a0 := D1.c0
  have a1 := D1.c1
  have af0 := D1.fr 0
  have af1 := D1.fr 1
  have d0 := D2.c0
  have d1 := D2.c1
  obtain ⟨WC, hWC⟩ : ∃ WC, two WB (w.heap.size + 1 + 1) (.string r1) (.string r2) = WC := ⟨_, rfl⟩
  have R9 : B2 WC (w.heap.size + 1 + 1) (.string r1) (.string r2) := by rw [← hWC]; exact J2.out.r.set _ _
  have PP : Hid (LpPost (opP fSum (s, t) (s', t')) w (.returned (.tuple #[.agg #[.string r1, .string r2], .bool bb])) WC) := by
    rw [← hWC]
    exact ⟨by rw [HOP.out, ← HBB.out], below_two J2.out.bel (by omega) _ _⟩
  have c0 := J2.out.r.c0
  have c1 := J2.out.r.c1
  have cf0 := J2.out.r.fr 0
  have cf1 := J2.out.r.fr 1
  obtain ⟨q0, q1, _, _⟩ := id R9
  unfold two at hWB hWC
  clear R9 D1 D2 hbb1 J1
  go_wp2_with fail
  exact bodyPost_ret (v := .tuple #[.agg #[.string r1, .string r2], .bool bb]) (by simp [results, Tryd.results4, go_sem, q0, q1]) rfl PP.out
set_option maxRecDepth 100000 in
set_option maxHeartbeats 4000000 in
theorem Lproduct_c (a b : Rp) (w : World) :
    Calls Tryd.prog 7 #[pv a, pv b] w (LpPost (opP fMul a b) w) := by
  obtain ⟨s, t⟩ := a
  obtain ⟨s', t'⟩ := b
  obtain ⟨W0, hW0⟩ : ∃ W0, ((w.alloc (.cells #[.string s, .string t] 23)).alloc (.cells #[.string s', .string t'] 23)).alloc (.cells #[.string ⟨#[]⟩, .string ⟨#[]⟩] 23) = W0 := ⟨_, rfl⟩
  have J0 : Hid (Sa w s t s' t' W0) := by rw [← hW0]; exact Sa.made _ _ _ _ _ _ _ _
  have x0 := J0.out.x.c0
  have x1 := J0.out.x.c1
  have y0 := J0.out.y.c0
  have y1 := J0.out.y.c1
  have H1 := Lib.hid (fun w => Product_c s t s' t' w)
  have HOP : Hid (opP fMul (s, t) (s', t') = (((opS fMul s.data.toList t.data.toList s'.data.toList t'.data.toList).1, (opS fMul s.data.toList t.data.toList s'.data.toList t'.data.toList).2.1), decide ((opS fMul s.data.toList t.data.toList s'.data.toList t'.data.toList).2.2 = 0))) := rfl
  obtain ⟨rr, hrr⟩ : ∃ rr, opS fMul s.data.toList t.data.toList s'.data.toList t'.data.toList = rr := ⟨_, rfl⟩
  rw [hrr] at H1 HOP
  clear hrr
  obtain ⟨r1, r2, fl⟩ := rr
  obtain ⟨bb, hbb⟩ : ∃ bb, (fl == 0) = bb := ⟨_, rfl⟩
  have HBB : Hid (decide (fl = 0) = bb) := hbb
  go_enter Tryd.func7, Tryd.ntmps7
  go_wp2_with fail
  clear hW0 x0 x1 y0 y1
  refine (H1.out _).mono ?_
  rintro e w1 ⟨rfl, b1⟩
  have J1 := Lib.hid (J0.out.keep b1)
  clear b1 H1 J0
  obtain ⟨WA, hWA⟩ : ∃ WA, w1.alloc (.cells #[.string ⟨#[]⟩, .string ⟨#[]⟩] 23) = WA := ⟨_, rfl⟩
  have D1 : B2 WA w1.heap.size (.string ⟨#[]⟩) (.string ⟨#[]⟩) := by rw [← hWA]; exact B2.made _ _ _ _
  obtain ⟨WB, hWB⟩ : ∃ WB, two WA w1.heap.size (.string r1) (.string r2) = WB := ⟨_, rfl⟩
  have hbb1 : Below w1.heap.size w1 WB := by rw [← hWB]; exact below_two (by rw [← hWA]; exact bel_one _ _) (Nat.le_refl _) _ _
  have D2 : B2 WB w1.heap.size (.string r1) (.string r2) := by rw [← hWB]; exact D1.set _ _
  have J2 := Lib.hid (J1.out.keep hbb1)
  have a0 := D1.c0
  have a1 := D1.c1
  have af0 := D1.fr 0
  have af1 := D1.fr 1
  have d0 := D2.c0
  have d1 := D2.c1
  obtain ⟨WC, hWC⟩ : ∃ WC, two WB (w.heap.size + 1 + 1) (.string r1) (.string r2) = WC := ⟨_, rfl⟩
  have R9 : B2 WC (w.heap.size + 1 + 1) (.string r1) (.string r2) := by rw [← hWC]; exact J2.out.r.set _ _
  have PP : Hid (LpPost (opP fMul (s, t) (s', t')) w (.returned (.tuple #[.agg #[.string r1, .string r2], .bool bb])) WC) := by
    rw [← hWC]
    exact ⟨by rw [HOP.out, ← HBB.out], below_two J2.out.bel (by omega) _ _⟩
  have c0 := J2.out.r.c0
  have c1 := J2.out.r.c1
  have cf0 := J2.out.r.fr 0
  have cf1 := J2.out.r.fr 1
  obtain ⟨q0, q1, _, _⟩ := id R9
  unfold two at hWB hWC
  clear R9 D1 D2 hbb1 J1
  go_wp2_with fail
  exact bodyPost_ret (v := .tuple #[.agg #[.string r1, .string r2], .bool bb]) (by simp [results, Tryd.results7, go_sem, q0, q1]) rfl PP.out
set_option maxRecDepth 100000 in
set_option maxHeartbeats 4000000 in
theorem Lagree_c (a : Rp) (x : Bool) (b : Rp) (y : Bool) (w : World) :
    Calls Tryd.prog 6 #[pv a, .bool x, pv b, .bool y] w fun e w' => e = .returned (.bool (agreeP a x b y)) ∧ Below w.heap.size w w' := by
  obtain ⟨s, t⟩ := a
  obtain ⟨s', t'⟩ := b
  have HAG : Hid (agreeP (s, t) x (s', t') y = (!x || !y || decide ((s, t) = (s', t')))) := rfl
  have BB : Hid (Below w.heap.size w ((w.alloc (.cells #[.string s, .string t] 23)).alloc (.cells #[.string s', .string t'] 23))) := ((Below.refl _ _).alloc (Nat.le_refl _) _).alloc (by simp) _
  cases x
  · go_enter Tryd.func6, Tryd.ntmps6
    go_wp2
    go_ret
    exact ⟨by rw [HAG.out]; rfl, BB.out⟩
  · cases y
    · go_enter Tryd.func6, Tryd.ntmps6
      go_wp2
      go_ret
      exact ⟨by rw [HAG.out]; rfl, BB.out⟩
    · by_cases h1 : s.toList = s'.toList
      · by_cases h2 : t.toList = t'.toList
        · have E : Hid (agreeP (s, t) true (s', t') true = true) := by
            unfold Hid agreeP
            rw [ba_eq h1, ba_eq h2]
            simp
          rw [E.out]
          clear HAG
          go_enter Tryd.func6, Tryd.ntmps6
          go_wp2
          go_ret
          exact ⟨rfl, BB.out⟩
        · have E : Hid (agreeP (s, t) true (s', t') true = false) := by
            unfold Hid agreeP
            simp
            intro _ e
            exact h2 (by rw [e])
          rw [E.out]
          clear HAG
          go_enter Tryd.func6, Tryd.ntmps6
          go_wp2
          go_ret
          exact ⟨rfl, BB.out⟩
      · have E : Hid (agreeP (s, t) true (s', t') true = false) := by
          unfold Hid agreeP
          simp
          intro e
          exact absurd (by rw [e]) h1
        rw [E.out]
        clear HAG
        go_enter Tryd.func6, Tryd.ntmps6
        go_wp2
        go_ret
        exact ⟨rfl, BB.out⟩
end Go.Proofs.YtaibpppobblnoaaDoor
