/-
  CheckCalling of the reference.
-/
import Derived.Test.YtaiiobojlipbeaaSmpCall
namespace Go.Proofs.Ytaiiobojlipbeaa
open Go.RowKit

/-- A calling in the box that the call made first. -/
structure Cx (w : World) (most gap : Int) (v2 v3 : Value) (wr : World) : Prop where
  c0 : wr.cell? ⟨w.heap.size, 0, none⟩ = some (.int .i64 most)
  c1 : wr.cell? ⟨w.heap.size, 1, none⟩ = some (.int .i64 gap)
  c2 : wr.cell? ⟨w.heap.size, 2, none⟩ = some v2
  c3 : wr.cell? ⟨w.heap.size, 3, none⟩ = some v3
  bel : Below w.heap.size w wr
  lt : w.heap.size < wr.heap.size
theorem Cx.keep {w wr w' : World} {most gap : Int} {v2 v3 : Value} (h : Cx w most gap v2 v3 wr) (hb : Below wr.heap.size wr w') : Cx w most gap v2 v3 w' := by
  have f := fun (o : Nat) => hb.cell (p := ⟨w.heap.size, o, none⟩) h.lt
  exact ⟨by rw [f]; exact h.c0, by rw [f]; exact h.c1, by rw [f]; exact h.c2, by rw [f]; exact h.c3, h.bel.trans (hb.mono h.bel.size), Nat.lt_of_lt_of_le h.lt hb.size⟩
theorem Cx.alloc {w wr : World} {most gap : Int} {v2 v3 : Value} (h : Cx w most gap v2 v3 wr) (o : Obj) : Cx w most gap v2 v3 (wr.alloc o) := h.keep ((Below.refl _ _).alloc (Nat.le_refl _) o)
theorem Cx.start (w : World) (most gap : Int) (v2 v3 : Value) (T : TypeId) : Cx w most gap v2 v3 (w.alloc (.cells #[.int .i64 most, .int .i64 gap, v2, v3] T)) where
  c0 := by rw [World.cell?_alloc_new]; rfl
  c1 := by rw [World.cell?_alloc_new]; rfl
  c2 := by rw [World.cell?_alloc_new]; rfl
  c3 := by rw [World.cell?_alloc_new]; rfl
  bel := (Below.refl _ _).alloc (Nat.le_refl _) _
  lt := by simp

set_option maxRecDepth 100000 in
set_option maxHeartbeats 8000000 in
theorem RCheckCalling_main (most gap : Int) (aD aV : Option Addr) (cD cV : Nat) (D : List Int) (V : List (Int × Int)) (w : World) (hD : Rd w aD D) (hV : RdP w aV V)
    (m1 : 1 ≤ most) (m2 : most ≤ 100) (g1 : 0 ≤ gap) (g2 : gap ≤ 1000000) (p1 : 0 < D.length) (p2 : 0 < V.length) :
    Calls Try.prog 16 #[.agg #[.int .i64 most, .int .i64 gap, .slice aD D.length cD, .slice aV V.length cV]] w (OnePost (Sm.callF most gap D V) w) := by
  have lD := hD.1
  have lV := hV.1
  have hX := Lib.hid (Cx.start w most gap (.slice aD D.length cD) (.slice aV V.length cV) 33)
  have d5 : ((D.length : Int) == 0) = false := by rw [beq_eq_false_iff_ne]; omega
  have d6 : ((V.length : Int) == 0) = false := by rw [beq_eq_false_iff_ne]; omega
  have hd : D ≠ [] := by intro e; subst e; simp at p1
  have hv : V ≠ [] := by intro e; subst e; simp at p2
  have hZ1 : Hid (∀ z, Sm.wdF (-1) D = z → z ≠ 0 → Sm.callF most gap D V = z) := fun z h1 h2 => by
    unfold Sm.callF; rw [if_neg (by omega), if_neg (by simp [hd, hv]), if_pos (by omega), h1]
  have hZ2 : Hid (Sm.wdF (-1) D = 0 → Sm.callF most gap D V = Sm.wnsF V) := fun h1 => by
    unfold Sm.callF; rw [if_neg (by omega), if_neg (by simp [hd, hv]), if_neg (by omega)]
  have W1 := Lib.hid (fun w => within_y most 1 100 w m1 m2)
  have W2 := Lib.hid (fun w => within_y gap 0 1000000 w g1 g2)
  have HD := Lib.hid (hD.below hX.out.bel)
  have HV := Lib.hid (hV.below hX.out.bel)
  clear hd hv hD hV
  go_enter Try.func16, Try.ntmps16
  go_wp2_with fail
  generalize w.alloc (.cells #[.int .i64 most, .int .i64 gap, .slice aD D.length cD, .slice aV V.length cV] 33) = w1 at *
  refine (W1.out _).mono ?_
  rintro e w' ⟨rfl, rfl⟩
  have k0 := hX.out.c0
  have k1 := hX.out.c1
  have k2 := hX.out.c2
  have k3 := hX.out.c3
  go_wp2_with fail
  refine (W2.out _).mono ?_
  rintro e w' ⟨rfl, rfl⟩
  go_wp2_with fail
  clear W1 W2
  go_loop [3, 4, 32] (fun _ _ i => ∃ (k : Nat) (y : Int), k ≤ D.length ∧ i = .int .i64 k ∧ Hid (Sm.wdF (-1) D = Sm.wdF y (D.drop k)) ∧ Hid (AheadD (fn D) k y)) (fun _ _ i => D.length - (intOf i).toNat)
  case atStart => exact ⟨0, -1, Nat.zero_le _, rfl, rfl, fun _ => rfl, fun j hj => by omega⟩
  case round =>
    obtain ⟨k, y, hk, rfl, hA, hY⟩ := hrel
    by_cases hlt : k < D.length
    · obtain ⟨b, off, rfl, _, q⟩ := HD.out.2 (by omega)
      have q1 := q k hlt
      have hlt' : (k : Int) < (D.length : Int) := by omega
      have hA' := Lib.hid (hA.out.trans (Sm.wdF_drop (at_fn hlt) y))
      have hY' : Hid (AheadD (fn D) (k + 1) (fn D k)) := ⟨fun e => by omega, fun j e => by
        obtain rfl : k = j := by omega
        rfl⟩
      by_cases c1 : fn D k < 0 ∨ 6 < fn D k
      · have hZ := Lib.hid (hZ1.out 1 (by rw [hA'.out, if_pos c1]) (by omega))
        have hc := Lib.hid (fun w => within_n (fn D k) 0 6 w c1)
        clear hA' hA hY hY' q HD HV hZ1 hZ2 c1
        generalize fn D k = d at *
        go_wp2_with (go_at_call 32; refine (hc.out _).mono ?_; rintro e w' ⟨rfl, rfl⟩)
        go_ret
        exact ⟨by rw [hZ.out]; rfl, hX.out.bel⟩
      · have hc := Lib.hid (fun w => within_y (fn D k) 0 6 w (by omega) (by omega))
        rcases Nat.eq_zero_or_pos k with h0 | h0
        · have hy := hY.out.1 h0
          have hZ : Hid (Sm.wdF (-1) D = Sm.wdF (fn D k) (D.drop (k + 1))) := by unfold Hid; rw [hA'.out, if_neg c1, if_neg (by omega)]
          have d3 : decide (0 < (k : Int)) = false := by simp; omega
          have d3' : decide (0 < k) = false := by simp; omega
          clear hA' hA hY hy c1 h0 q HD HV hZ1 hZ2
          generalize hdd : fn D k = d at *
          clear hdd
          go_wp2_with (go_at_call 32; refine (hc.out _).mono ?_; rintro e w' ⟨rfl, rfl⟩)
          go_round
          case rel => exact ⟨k + 1, d, by omega, by go_num, hZ.out, hY'.out⟩
          case measure => simp [intOf]; omega
        · obtain ⟨j, hj⟩ : ∃ j, k = j + 1 := ⟨k - 1, by omega⟩
          have hy := hY.out.2 j hj
          have p1 := q j (by omega)
          have d3 : decide (0 < (k : Int)) = true := by simp; omega
          have hjk : (k : Int) - 1 = (j : Int) := by omega
          have hjl : (j : Int) < (D.length : Int) := by omega
          by_cases c3 : fn D k ≤ y
          · have hZ := Lib.hid (hZ1.out 7 (by rw [hA'.out, if_neg c1, if_pos c3]) (by omega))
            rw [hy] at c3
            have d4 : decide (fn D k ≤ fn D j) = true := by simp; omega
            clear hA' hA hY hY' hy c1 c3 hj q HD HV hZ1 hZ2
            generalize fn D k = d at *
            generalize fn D j = y' at *
            go_wp2_with (go_at_call 32; refine (hc.out _).mono ?_; rintro e w' ⟨rfl, rfl⟩)
            go_ret
            exact ⟨by rw [hZ.out]; rfl, hX.out.bel⟩
          · have hZ : Hid (Sm.wdF (-1) D = Sm.wdF (fn D k) (D.drop (k + 1))) := by unfold Hid; rw [hA'.out, if_neg c1, if_neg c3]
            rw [hy] at c3
            have d4 : decide (fn D k ≤ fn D j) = false := by simp; omega
            clear hA' hA hY hy c1 c3 hj q HD HV hZ1 hZ2
            generalize fn D k = d at *
            generalize fn D j = y' at *
            go_wp2_with (go_at_call 32; refine (hc.out _).mono ?_; rintro e w' ⟨rfl, rfl⟩)
            go_round
            case rel => exact ⟨k + 1, d, by omega, by go_num, hZ.out, hY'.out⟩
            case measure => simp [intOf]; omega
    · obtain rfl : k = D.length := by omega
      have hZ := Lib.hid (hZ2.out (by rw [hA.out, List.drop_length]; rfl))
      clear hA hY hZ1 hZ2 HD d5 d6
      by_cases h8 : 8 < V.length
      · have hE : Hid (Sm.callF most gap D V = 2) := by unfold Hid; rw [hZ.out]; unfold Sm.wnsF; rw [if_pos h8]
        clear hZ
        go_wp2
        go_ret
        exact ⟨by rw [hE.out]; rfl, hX.out.bel⟩
      · have hE : Hid (Sm.callF most gap D V = Sm.wnF 0 (V.drop 0)) := by unfold Hid; rw [hZ.out]; unfold Sm.wnsF; rw [if_neg h8]; rfl
        clear hZ
        obtain ⟨Z, hZZ⟩ : ∃ Z, Z = Sm.callF most gap D V := ⟨_, rfl⟩
        rw [← hZZ] at hE
        have HZZ := Lib.hid hZZ
        clear hZZ
        go_wp2_with fail
        clear k0 k1 k2 k3
        go_loopw [5, 6, 60] (fun _ _ i wr => ∃ (k : Nat) (y : Int), k ≤ V.length ∧ i = .int .i64 k ∧ Hid (Z = Sm.wnF y (V.drop k)) ∧ Hid (Ahead (fun j => (V.getD j (0, 0)).2) k y) ∧ Hid (Cx w most gap (.slice aD D.length cD) (.slice aV V.length cV) wr) ∧ Hid (Below w1.heap.size w1 wr)) (fun _ _ i _ => V.length - (intOf i).toNat)
        case atStart => exact ⟨0, 0, Nat.zero_le _, rfl, hE.out, ⟨fun _ => rfl, fun j hj => by omega⟩, hX.out, Below.refl _ _⟩
        case round =>
          clear hE hX
          obtain ⟨k, y, hk, rfl, hA, hY, hC, hB⟩ := hrel
          by_cases hlt : k < V.length
          · obtain ⟨f, t, hkk⟩ := pair_at hlt
            obtain ⟨b, off, rfl, hb, q1, q2⟩ := (HV.out.below hB.out).at_ hkk
            have hlt' : (k : Int) < (V.length : Int) := by omega
            have hA' := Lib.hid (hA.out.trans (Sm.wnF_drop hkk y))
            have hC' := Lib.hid (hC.out.alloc (.cells #[.int .i64 f, .int .i64 t] 55))
            have hB' := Lib.hid (hB.out.alloc hB.out.size (.cells #[.int .i64 f, .int .i64 t] 55))
            have hY' : Hid (Ahead (fun j => (V.getD j (0, 0)).2) (k + 1) t) := ⟨fun e => by omega, fun j e => by
              obtain rfl : k = j := by omega
              simp [List.getD, hkk]⟩
            have k3 := hC.out.c3
            have kl := hC.out.lt
            by_cases c1 : f < 0 ∨ t ≤ f ∨ 1440 < t
            · have hZ : Hid (Z = 1) := by unfold Hid; rw [hA'.out, if_pos c1]
              have c2 := win_cases (p := 0) c1
              clear hA' hA hY hY' c1 hC hB HV hkk
              rcases c2 with g1 | ⟨g1, g2⟩ | ⟨g1, g2, g3⟩
              · have d1 : decide (f < 0) = true := by simp; omega
                go_wp2
                go_ret
                exact ⟨by rw [← HZZ.out, hZ.out]; rfl, hC'.out.bel⟩
              · have d1 : decide (f < 0) = false := by simp; omega
                have d2 : decide (t ≤ f) = true := by simp; omega
                go_wp2
                go_ret
                exact ⟨by rw [← HZZ.out, hZ.out]; rfl, hC'.out.bel⟩
              · have d1 : decide (f < 0) = false := by simp; omega
                have d2 : decide (t ≤ f) = false := by simp; omega
                have d3 : decide (1440 < t) = true := by simp; omega
                go_wp2
                go_ret
                exact ⟨by rw [← HZZ.out, hZ.out]; rfl, hC'.out.bel⟩
            · have d1 : decide (f < 0) = false := by simp; omega
              have d2 : decide (t ≤ f) = false := by simp; omega
              have d3 : decide (1440 < t) = false := by simp; omega
              rcases Nat.eq_zero_or_pos k with h0 | h0
              · have hy := hY.out.1 h0
                have hZ : Hid (Z = Sm.wnF t (V.drop (k + 1))) := by unfold Hid; rw [hA'.out, if_neg c1, if_neg (by omega)]
                have e3 : decide (0 < (k : Int)) = false := by simp; omega
                have e3' : decide (0 < k) = false := by simp; omega
                clear hA' hA hY hy c1 h0 hC hB HV hkk
                go_wp2
                go_quiet (fail)
                go_wp2
                go_roundw
                case rel => exact ⟨k + 1, t, by omega, by go_num, hZ.out, hY'.out, hC'.out.keep (below_drew _ _), below_drewN hB'.out _⟩
                case measure => simp [intOf]; omega
              · obtain ⟨j, hj⟩ : ∃ j, k = j + 1 := ⟨k - 1, by omega⟩
                obtain ⟨f', t', hjj⟩ := pair_at (l := V) (k := j) (by omega)
                have hy := hY.out.2 j hj
                simp only [List.getD, hjj, Option.getD_some] at hy
                obtain ⟨b', off', e', hb', _, r2⟩ := (HV.out.below hB.out).at_ hjj
                simp only [Option.some.injEq, Addr.mk.injEq, and_true] at e'
                obtain ⟨rfl, rfl⟩ := e'
                have R2 : Hid ((wr.alloc (.cells #[.int .i64 f, .int .i64 t] 55)).cell? ⟨b, off + j * 2 + 1, none⟩ = some (.int .i64 t')) := by
                  unfold Hid; rw [World.cell?_alloc_lt _ _ _ hb]; exact r2
                have N1 : Hid ((wr.alloc (.cells #[.int .i64 f, .int .i64 t] 55)).cell? ⟨wr.heap.size, 0, none⟩ = some (.int .i64 f)) := by unfold Hid; rw [World.cell?_alloc_new]; rfl
                have e3 : decide (0 < (k : Int)) = true := by simp; omega
                have e3' : decide (0 < k) = true := by simp; omega
                have hjl : (j : Int) < (V.length : Int) := by omega
                have ZZ : Hid (IntKind.i64.wrap ((k : Int) - 1) = (j : Int)) := by unfold Hid; rw [IntWalk.i64_in _ (by omega)]; omega
                by_cases c3 : f < t'
                · have hZ : Hid (Z = 7) := by unfold Hid; rw [hA'.out, if_neg c1, if_pos (by omega)]
                  have d4 : decide (f < t') = true := by simp; omega
                  clear hA' hA hY hy hY' c1 c3 h0 hj hjj r2 hC hB HV hkk
                  go_wp2_with fail
                  generalize wr.alloc (.cells #[.int .i64 f, .int .i64 t] 55) = w5 at *
                  have r2 := R2.out
                  have n1 := N1.out
                  have z1 := ZZ.out
                  have k3 := hC'.out.c3
                  go_quiet (fail)
                  clear z1
                  go_wp2
                  go_ret
                  exact ⟨by rw [← HZZ.out, hZ.out]; rfl, below_drewN hC'.out.bel _⟩
                · have hZ : Hid (Z = Sm.wnF t (V.drop (k + 1))) := by unfold Hid; rw [hA'.out, if_neg c1, if_neg (by omega)]
                  have d4 : decide (f < t') = false := by simp; omega
                  clear hA' hA hY hy c1 c3 h0 hj hjj r2 hC hB HV hkk
                  go_wp2_with fail
                  generalize wr.alloc (.cells #[.int .i64 f, .int .i64 t] 55) = w5 at *
                  have r2 := R2.out
                  have n1 := N1.out
                  have z1 := ZZ.out
                  have k3 := hC'.out.c3
                  go_quiet (fail)
                  clear z1
                  go_wp2
                  go_roundw
                  case rel => exact ⟨k + 1, t, by omega, by go_num, hZ.out, hY'.out, hC'.out.keep (below_drew _ _), below_drewN hB'.out _⟩
                  case measure => simp [intOf]; omega
          · obtain rfl : k = V.length := by omega
            have hZ : Hid (Z = 0) := by unfold Hid; rw [hA.out, List.drop_length]; rfl
            clear hA hY
            go_wp2
            go_ret
            exact ⟨by rw [← HZZ.out, hZ.out]; rfl, hC.out.bel⟩
set_option maxRecDepth 100000 in
set_option maxHeartbeats 2000000 in
theorem RCheckCalling_c (most gap : Int) (aD aV : Option Addr) (cD cV : Nat) (D : List Int) (V : List (Int × Int)) (w : World) (hD : Rd w aD D) (hV : RdP w aV V) :
    Calls Try.prog 16 #[.agg #[.int .i64 most, .int .i64 gap, .slice aD D.length cD, .slice aV V.length cV]] w (OnePost (Sm.callF most gap D V) w) := by
  by_cases c0 : most < 1 ∨ 100 < most
  · have hZ : Hid (Sm.callF most gap D V = 1) := by unfold Hid Sm.callF; rw [if_pos (by omega)]
    have hX := Lib.hid (Cx.start w most gap (.slice aD D.length cD) (.slice aV V.length cV) 33)
    have hc := Lib.hid (fun w => within_n most 1 100 w c0)
    clear hD hV c0
    go_enter Try.func16, Try.ntmps16
    go_wp2_with fail
    refine (hc.out _).mono ?_
    rintro e w' ⟨rfl, rfl⟩
    go_wp2
    go_ret
    exact ⟨by rw [hZ.out]; rfl, hX.out.bel⟩
  · by_cases c1 : gap < 0 ∨ 1000000 < gap
    · have hZ : Hid (Sm.callF most gap D V = 1) := by unfold Hid Sm.callF; rw [if_pos (by omega)]
      have hX := Lib.hid (Cx.start w most gap (.slice aD D.length cD) (.slice aV V.length cV) 33)
      have W1 := Lib.hid (fun w => within_y most 1 100 w (by omega) (by omega))
      have hc := Lib.hid (fun w => within_n gap 0 1000000 w c1)
      clear hD hV c0 c1
      go_enter Try.func16, Try.ntmps16
      go_wp2_with fail
      refine (W1.out _).mono ?_
      rintro e w' ⟨rfl, rfl⟩
      go_wp2_with fail
      refine (hc.out _).mono ?_
      rintro e w' ⟨rfl, rfl⟩
      go_wp2
      go_ret
      exact ⟨by rw [hZ.out]; rfl, hX.out.bel⟩
    · by_cases c2 : D = [] ∨ V = []
      · have hZ : Hid (Sm.callF most gap D V = 9) := by unfold Hid Sm.callF; rw [if_neg (by omega), if_pos c2]
        have hX := Lib.hid (Cx.start w most gap (.slice aD D.length cD) (.slice aV V.length cV) 33)
        have W1 := Lib.hid (fun w => within_y most 1 100 w (by omega) (by omega))
        have W2 := Lib.hid (fun w => within_y gap 0 1000000 w (by omega) (by omega))
        have lD := hD.1
        by_cases c3 : D = []
        · subst c3
          clear hD hV c0 c1 c2
          go_enter Try.func16, Try.ntmps16
          go_wp2_with fail
          refine (W1.out _).mono ?_
          rintro e w' ⟨rfl, rfl⟩
          go_wp2_with fail
          refine (W2.out _).mono ?_
          rintro e w' ⟨rfl, rfl⟩
          go_wp2
          go_ret
          exact ⟨by rw [hZ.out]; rfl, hX.out.bel⟩
        · have p1 : 0 < D.length := by
            rcases Nat.eq_zero_or_pos D.length with h | h
            · exact absurd (List.eq_nil_of_length_eq_zero h) c3
            · exact h
          have d5 : ((D.length : Int) == 0) = false := by rw [beq_eq_false_iff_ne]; omega
          obtain rfl : V = [] := by
            rcases c2 with c2 | c2
            · exact absurd c2 c3
            · exact c2
          clear hD hV c0 c1 c2 c3
          go_enter Try.func16, Try.ntmps16
          go_wp2_with fail
          refine (W1.out _).mono ?_
          rintro e w' ⟨rfl, rfl⟩
          go_wp2_with fail
          refine (W2.out _).mono ?_
          rintro e w' ⟨rfl, rfl⟩
          go_wp2
          go_ret
          exact ⟨by rw [hZ.out]; rfl, hX.out.bel⟩
      · have p1 : 0 < D.length := by
          rcases Nat.eq_zero_or_pos D.length with h | h
          · exact absurd (.inl (List.eq_nil_of_length_eq_zero h)) c2
          · exact h
        have p2 : 0 < V.length := by
          rcases Nat.eq_zero_or_pos V.length with h | h
          · exact absurd (.inr (List.eq_nil_of_length_eq_zero h)) c2
          · exact h
        exact RCheckCalling_main most gap aD aV cD cV D V w hD hV (by omega) (by omega) (by omega) (by omega) p1 p2
end Go.Proofs.Ytaiiobojlipbeaa
