/-
  CheckCalling of package sample.
-/
import Derived.Test.YtaiiobojlipbeaaSmpRNext
namespace Go.Proofs.Ytaiiobojlipbeaa
open Go.RowKit

/-- What a value ahead of place k is: -1 at the first. -/
def AheadD (f : Nat → Int) (k : Nat) (y : Int) : Prop := (k = 0 → y = -1) ∧ ∀ j, k = j + 1 → y = f j
theorem at_fn {D : List Int} {k : Nat} (h : k < D.length) : D[k]? = some (fn D k) := by
  unfold fn
  simp [List.getD, List.getElem?_eq_getElem h]
set_option maxHeartbeats 1000000 in
theorem checkWeekdays_c (a : Option Addr) (c : Nat) (D : List Int) (w : World) (h : Rd w a D) :
    Calls Try.prog 30 #[.slice a D.length c] w fun e w' => e = .returned (.int .i64 (Sm.wdF (-1) D)) ∧ w = w' := by
  have H := Lib.hid h
  have hn := h.1
  clear h
  obtain ⟨Z, hZ⟩ : ∃ Z, Z = Sm.wdF (-1) D := ⟨_, rfl⟩
  rw [← hZ]
  have HZ := Lib.hid hZ
  clear hZ
  go_enter Try.func30, Try.ntmps30
  go_wp2
  go_loop [3, 4, 7] (fun _ _ i => ∃ (k : Nat) (y : Int), k ≤ D.length ∧ i = .int .i64 k ∧ Hid (Z = Sm.wdF y (D.drop k)) ∧ Hid (AheadD (fn D) k y)) (fun _ _ i => D.length - (intOf i).toNat)
  case atStart => exact ⟨0, -1, Nat.zero_le _, rfl, HZ.out, fun _ => rfl, fun j hj => by omega⟩
  case round =>
    clear HZ
    obtain ⟨k, y, hk, rfl, hA, hY⟩ := hrel
    by_cases hlt : k < D.length
    · obtain ⟨b, off, rfl, _, q⟩ := H.out.2 (by omega)
      have q1 := q k hlt
      have hlt' : (k : Int) < (D.length : Int) := by omega
      have hA' := Lib.hid (hA.out.trans (Sm.wdF_drop (at_fn hlt) y))
      have hY' : Hid (AheadD (fn D) (k + 1) (fn D k)) := ⟨fun e => by omega, fun j e => by
        obtain rfl : k = j := by omega
        rfl⟩
      by_cases c1 : fn D k < 0 ∨ 6 < fn D k
      · have hZ : Hid (Z = 1) := by unfold Hid; rw [hA'.out, if_pos c1]
        clear hA' hA hY hY' q H
        generalize fn D k = d at *
        by_cases c2 : d < 0
        · have d1 : decide (d < 0) = true := by simp; omega
          clear c1
          go_wp2
          go_ret
          exact ⟨by rw [hZ.out]; rfl, rfl⟩
        · have d1 : decide (d < 0) = false := by simp; omega
          have d2 : decide (7 ≤ d) = true := by simp; omega
          clear c1
          go_wp2
          go_ret
          exact ⟨by rw [hZ.out]; rfl, rfl⟩
      · rcases Nat.eq_zero_or_pos k with h0 | h0
        · have hy := hY.out.1 h0
          have hZ : Hid (Z = Sm.wdF (fn D k) (D.drop (k + 1))) := by unfold Hid; rw [hA'.out, if_neg c1, if_neg (by omega)]
          have d1 : decide (fn D k < 0) = false := by simp; omega
          have d2 : decide (7 ≤ fn D k) = false := by simp; omega
          have d3 : decide (0 < (k : Int)) = false := by simp; omega
          have d3' : decide (0 < k) = false := by simp; omega
          clear hA' hA hY hy c1 h0 q H
          generalize fn D k = d at *
          go_wp2
          go_round
          case rel => exact ⟨k + 1, d, by omega, by go_num, hZ.out, hY'.out⟩
          case measure => simp [intOf]; omega
        · obtain ⟨j, hj⟩ : ∃ j, k = j + 1 := ⟨k - 1, by omega⟩
          have hy := hY.out.2 j hj
          have p1 := q j (by omega)
          have d1 : decide (fn D k < 0) = false := by simp; omega
          have d2 : decide (7 ≤ fn D k) = false := by simp; omega
          have d3 : decide (0 < (k : Int)) = true := by simp; omega
          have hjk : (k : Int) - 1 = (j : Int) := by omega
          have hjl : (j : Int) < (D.length : Int) := by omega
          by_cases c3 : fn D k ≤ y
          · have hZ : Hid (Z = 7) := by unfold Hid; rw [hA'.out, if_neg c1, if_pos c3]
            rw [hy] at c3
            have d4 : decide (fn D k ≤ fn D j) = true := by simp; omega
            clear hA' hA hY hY' hy c1 c3 hj q H
            generalize fn D k = d at *
            generalize fn D j = y' at *
            go_wp2
            go_ret
            exact ⟨by rw [hZ.out]; rfl, rfl⟩
          · have hZ : Hid (Z = Sm.wdF (fn D k) (D.drop (k + 1))) := by unfold Hid; rw [hA'.out, if_neg c1, if_neg c3]
            rw [hy] at c3
            have d4 : decide (fn D k ≤ fn D j) = false := by simp; omega
            clear hA' hA hY hy c1 c3 hj q H
            generalize fn D k = d at *
            generalize fn D j = y' at *
            go_wp2
            go_round
            case rel => exact ⟨k + 1, d, by omega, by go_num, hZ.out, hY'.out⟩
            case measure => simp [intOf]; omega
    · obtain rfl : k = D.length := by omega
      have hZ : Hid (Z = 0) := by unfold Hid; rw [hA.out, List.drop_length]; rfl
      clear hA hY
      go_wp2
      go_ret
      exact ⟨by rw [hZ.out]; rfl, rfl⟩

theorem checkWindows_long (a : Option Addr) (c n : Nat) (w : World) (hl : n ≤ 9223372036854775807) (h : 8 < n) :
    Calls Try.prog 31 #[.slice a n c] w (OnePost 2 w) := by
  go_enter Try.func31, Try.ntmps31
  go_wp2
  go_ret
  exact ⟨rfl, Below.refl _ _⟩
theorem win_cases {f t p : Int} (h : f < 0 ∨ t ≤ f ∨ 1440 < t) : f < 0 ∨ (0 ≤ f ∧ t ≤ f) ∨ (0 ≤ f ∧ f < t ∧ 1440 < t) := by omega
set_option maxHeartbeats 2000000 in
theorem checkWindows_c (a : Option Addr) (c : Nat) (V : List (Int × Int)) (w : World) (h : RdP w a V) (hn : V.length ≤ 8) :
    Calls Try.prog 31 #[.slice a V.length c] w (OnePost (Sm.wnF 0 V) w) := by
  have H := Lib.hid h
  clear h
  obtain ⟨Z, hZ⟩ : ∃ Z, Z = Sm.wnF 0 V := ⟨_, rfl⟩
  rw [← hZ]
  have HZ := Lib.hid hZ
  clear hZ
  go_enter Try.func31, Try.ntmps31
  go_wp2
  go_loopw [3, 5, 11] (fun p _ i wr => ∃ (k : Nat) (y : Int), k ≤ V.length ∧ i = .int .i64 k ∧ p = .int .i64 y ∧ Hid (Z = Sm.wnF y (V.drop k)) ∧ Hid (Below w.heap.size w wr)) (fun _ _ i _ => V.length - (intOf i).toNat)
  case atStart => exact ⟨0, 0, Nat.zero_le _, rfl, rfl, HZ.out, Below.refl _ _⟩
  case round =>
    clear HZ
    obtain ⟨k, y, hk, rfl, rfl, hA, hB⟩ := hrel
    by_cases hlt : k < V.length
    · obtain ⟨f, t, hkk⟩ := pair_at hlt
      obtain ⟨b, off, rfl, hb, q1, q2⟩ := (H.out.below hB.out).at_ hkk
      have hlt' : (k : Int) < (V.length : Int) := by omega
      have hA' := Lib.hid (hA.out.trans (Sm.wnF_drop hkk y))
      have hB' := Lib.hid (hB.out.alloc hB.out.size (.cells #[.int .i64 f, .int .i64 t] 55))
      clear hA hB H hkk
      by_cases c1 : f < 0 ∨ t ≤ f ∨ 1440 < t
      · have hZ : Hid (Z = 1) := by unfold Hid; rw [hA'.out, if_pos c1]
        have c2 := win_cases (p := 0) c1
        clear hA' c1
        rcases c2 with g1 | ⟨g1, g2⟩ | ⟨g1, g2, g3⟩
        · have d1 : decide (f < 0) = true := by simp; omega
          go_wp2
          go_ret
          exact ⟨by rw [hZ.out]; rfl, hB'.out⟩
        · have d1 : decide (f < 0) = false := by simp; omega
          have d2 : decide (t ≤ f) = true := by simp; omega
          go_wp2
          go_ret
          exact ⟨by rw [hZ.out]; rfl, hB'.out⟩
        · have d1 : decide (f < 0) = false := by simp; omega
          have d2 : decide (t ≤ f) = false := by simp; omega
          have d3 : decide (1440 < t) = true := by simp; omega
          go_wp2
          go_ret
          exact ⟨by rw [hZ.out]; rfl, hB'.out⟩
      · have d1 : decide (f < 0) = false := by simp; omega
        have d2 : decide (t ≤ f) = false := by simp; omega
        have d3 : decide (1440 < t) = false := by simp; omega
        by_cases c2 : f < y
        · have hZ : Hid (Z = 7) := by unfold Hid; rw [hA'.out, if_neg c1, if_pos c2]
          have d4 : decide (f < y) = true := by simp; omega
          clear hA' c1 c2
          go_wp2
          go_ret
          exact ⟨by rw [hZ.out]; rfl, hB'.out⟩
        · have hZ : Hid (Z = Sm.wnF t (V.drop (k + 1))) := by unfold Hid; rw [hA'.out, if_neg c1, if_neg c2]
          have d4 : decide (f < y) = false := by simp; omega
          clear hA' c1 c2
          go_wp2
          go_roundw
          case rel => exact ⟨k + 1, t, by omega, by go_num, rfl, hZ.out, hB'.out⟩
          case measure => simp [intOf]; omega
    · obtain rfl : k = V.length := by omega
      have hZ : Hid (Z = 0) := by unfold Hid; rw [hA.out, List.drop_length]; rfl
      clear hA
      go_wp2
      go_ret
      exact ⟨by rw [hZ.out]; rfl, hB.out⟩
theorem checkWindows_any (a : Option Addr) (c : Nat) (V : List (Int × Int)) (w : World) (h : RdP w a V) :
    Calls Try.prog 31 #[.slice a V.length c] w (OnePost (Sm.wnsF V) w) := by
  unfold Sm.wnsF
  by_cases h8 : 8 < V.length
  · rw [if_pos h8]; exact checkWindows_long a c V.length w h.1 h8
  · rw [if_neg h8]; exact checkWindows_c a c V w h (by omega)
theorem call_cases {m g : Int} (h : m < 1 ∨ 100 < m ∨ g < 0 ∨ 1000000 < g) : m < 1 ∨ (1 ≤ m ∧ 100 < m) ∨ (1 ≤ m ∧ m ≤ 100 ∧ g < 0) ∨ (1 ≤ m ∧ m ≤ 100 ∧ 0 ≤ g ∧ 1000000 < g) := by omega
set_option maxHeartbeats 2000000 in
theorem CheckCalling_c (most gap : Int) (aD aV : Option Addr) (cD cV : Nat) (D : List Int) (V : List (Int × Int)) (w : World) (hD : Rd w aD D) (hV : RdP w aV V) :
    Calls Try.prog 15 #[.agg #[.int .i64 most, .int .i64 gap, .slice aD D.length cD, .slice aV V.length cV]] w (OnePost (Sm.callF most gap D V) w) := by
  have HD := Lib.hid hD
  have HV := Lib.hid hV
  have lD := hD.1
  have lV := hV.1
  have hB : Hid (Below w.heap.size w (w.alloc (.cells #[.int .i64 most, .int .i64 gap, .slice aD D.length cD, .slice aV V.length cV] 33))) := (Below.refl _ _).alloc (Nat.le_refl _) _
  clear hD hV
  by_cases c1 : most < 1 ∨ 100 < most ∨ gap < 0 ∨ 1000000 < gap
  · have hZ : Hid (Sm.callF most gap D V = 1) := by unfold Hid Sm.callF; rw [if_pos c1]
    have c2 := call_cases c1
    clear c1 HD HV
    rcases c2 with g1 | ⟨g1, g2⟩ | ⟨g1, g2, g3⟩ | ⟨g1, g2, g3, g4⟩
    · have d1 : decide (most < 1) = true := by simp; omega
      go_enter Try.func15, Try.ntmps15
      go_wp2
      go_ret
      exact ⟨by rw [hZ.out]; rfl, hB.out⟩
    · have d1 : decide (most < 1) = false := by simp; omega
      have d2 : decide (100 < most) = true := by simp; omega
      go_enter Try.func15, Try.ntmps15
      go_wp2
      go_ret
      exact ⟨by rw [hZ.out]; rfl, hB.out⟩
    · have d1 : decide (most < 1) = false := by simp; omega
      have d2 : decide (100 < most) = false := by simp; omega
      have d3 : decide (gap < 0) = true := by simp; omega
      go_enter Try.func15, Try.ntmps15
      go_wp2
      go_ret
      exact ⟨by rw [hZ.out]; rfl, hB.out⟩
    · have d1 : decide (most < 1) = false := by simp; omega
      have d2 : decide (100 < most) = false := by simp; omega
      have d3 : decide (gap < 0) = false := by simp; omega
      have d4 : decide (1000000 < gap) = true := by simp; omega
      go_enter Try.func15, Try.ntmps15
      go_wp2
      go_ret
      exact ⟨by rw [hZ.out]; rfl, hB.out⟩
  · have d1 : decide (most < 1) = false := by simp; omega
    have d2 : decide (100 < most) = false := by simp; omega
    have d3 : decide (gap < 0) = false := by simp; omega
    have d4 : decide (1000000 < gap) = false := by simp; omega
    by_cases c2 : D = []
    · have hZ : Hid (Sm.callF most gap D V = 9) := by unfold Hid Sm.callF; rw [if_neg c1, if_pos (.inl c2)]
      subst c2
      clear c1 HD HV
      go_enter Try.func15, Try.ntmps15
      go_wp2
      go_ret
      exact ⟨by rw [hZ.out]; rfl, hB.out⟩
    · have p1 : 0 < D.length := by
        rcases Nat.eq_zero_or_pos D.length with h | h
        · exact absurd (List.eq_nil_of_length_eq_zero h) c2
        · exact h
      have d5 : ((D.length : Int) == 0) = false := by simp; omega
      have d5' : (D.length == 0) = false := by simp; omega
      by_cases c3 : V = []
      · have hZ : Hid (Sm.callF most gap D V = 9) := by unfold Hid Sm.callF; rw [if_neg c1, if_pos (.inr c3)]
        subst c3
        clear c1 c2 HD HV
        go_enter Try.func15, Try.ntmps15
        go_wp2
        go_ret
        exact ⟨by rw [hZ.out]; rfl, hB.out⟩
      · have p2 : 0 < V.length := by
          rcases Nat.eq_zero_or_pos V.length with h | h
          · exact absurd (List.eq_nil_of_length_eq_zero h) c3
          · exact h
        have d6 : ((V.length : Int) == 0) = false := by simp; omega
        have hw := Lib.hid (checkWeekdays_c aD cD D _ (HD.out.below hB.out))
        by_cases c4 : Sm.wdF (-1) D = 0
        · have hZ : Hid (Sm.callF most gap D V = Sm.wnsF V) := by unfold Hid Sm.callF; rw [if_neg c1, if_neg (by simp [c2, c3]), if_neg (by omega)]
          rw [c4] at hw
          have hv := Lib.hid (checkWindows_any aV cV V _ (HV.out.below hB.out))
          clear c1 c2 c3 c4 HD HV
          go_enter Try.func15, Try.ntmps15
          go_wp2_with fail
          refine hw.out.mono ?_
          rintro e w' ⟨rfl, rfl⟩
          go_wp2_with fail
          refine hv.out.mono ?_
          rintro e w2 ⟨rfl, b2⟩
          have B2 := Lib.hid (hB.out.trans (b2.mono hB.out.size))
          clear b2
          go_wp2
          go_ret
          exact ⟨by rw [hZ.out]; rfl, B2.out⟩
        · have hZ : Hid (Sm.callF most gap D V = Sm.wdF (-1) D) := by unfold Hid Sm.callF; rw [if_neg c1, if_neg (by simp [c2, c3]), if_pos c4]
          have e1 : (Sm.wdF (-1) D == 0) = false := by simp; omega
          have e2 : (Sm.wdF (-1) D != 0) = true := by simp; omega
          clear c1 c2 c3 c4 HD HV
          generalize Sm.wdF (-1) D = z at *
          go_enter Try.func15, Try.ntmps15
          go_wp2_with fail
          refine hw.out.mono ?_
          rintro e w' ⟨rfl, rfl⟩
          go_wp2
          go_ret
          exact ⟨by rw [hZ.out]; rfl, hB.out⟩
end Go.Proofs.Ytaiiobojlipbeaa
