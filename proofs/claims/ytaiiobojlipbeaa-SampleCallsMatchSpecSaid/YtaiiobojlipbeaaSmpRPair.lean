/-
  Outcome of the reference.
-/
import Derived.Test.YtaiiobojlipbeaaSmpPair
namespace Go.Proofs.Ytaiiobojlipbeaa
open Go.RowKit

/-- One int comes back. -/
def OnePost (n : Int) (w : World) (e : Ending) (w' : World) : Prop := e = .returned (.int .i64 n) ∧ Below w.heap.size w w'
/-- What a value ahead of place k is: 0 at the first. -/
def Ahead (f : Nat → Int) (k : Nat) (y : Int) : Prop := (k = 0 → y = 0) ∧ ∀ j, k = j + 1 → y = f j
theorem checkAttempts_long (a : Option Addr) (c n : Nat) (w : World) (hl : n ≤ 9223372036854775807) (h : 100 < n) :
    Calls Try.prog 28 #[.slice a n c] w (OnePost 2 w) := by
  go_enter Try.func28, Try.ntmps28
  go_wp2
  go_ret
  exact ⟨rfl, Below.refl _ _⟩
set_option maxHeartbeats 2000000 in
theorem checkAttempts_c (a : Option Addr) (c : Nat) (l : List (Int × Int)) (w : World) (h : RdP w a l) (hn : l.length ≤ 100) :
    Calls Try.prog 28 #[.slice a l.length c] w (OnePost (Sm.attF 0 l) w) := by
  have H := Lib.hid h
  clear h
  obtain ⟨Z, hZ⟩ : ∃ Z, Z = Sm.attF 0 l := ⟨_, rfl⟩
  rw [← hZ]
  have HZ := Lib.hid hZ
  clear hZ
  go_enter Try.func28, Try.ntmps28
  go_wp2
  go_loopw [3, 4, 10] (fun _ _ i wr => ∃ (k : Nat) (y : Int), k ≤ l.length ∧ i = .int .i64 k ∧ Hid (Z = Sm.attF y (l.drop k)) ∧ Hid (Ahead (fun j => (l.getD j (0, 0)).1) k y) ∧ Hid (Below w.heap.size w wr)) (fun _ _ i _ => l.length - (intOf i).toNat)
  case atStart => exact ⟨0, 0, Nat.zero_le _, rfl, HZ.out, ⟨fun _ => rfl, fun j hj => by omega⟩, Below.refl _ _⟩
  case round =>
    obtain ⟨k, y, hk, rfl, hA, hY, hB⟩ := hrel
    clear HZ
    by_cases hlt : k < l.length
    · obtain ⟨m, o, hkk⟩ := pair_at hlt
      obtain ⟨b, off, rfl, hb, q1, q2⟩ := (H.out.below hB.out).at_ hkk
      have hlt' : (k : Int) < (l.length : Int) := by omega
      have hA' := Lib.hid (hA.out.trans (Sm.attF_drop hkk y))
      have hB' := Lib.hid (hB.out.alloc hB.out.size (.cells #[.int .i64 m, .int .i64 o] 47))
      have hY' : Hid (Ahead (fun j => (l.getD j (0, 0)).1) (k + 1) m) := ⟨fun e => by omega, fun j e => by
        obtain rfl : k = j := by omega
        simp [List.getD, hkk]⟩
      by_cases c1 : m < 0 ∨ 1099511627776 < m
      · have hZ : Hid (Z = 1) := by unfold Hid; rw [hA'.out, if_pos c1]
        have C1 := Lib.hid c1
        clear hA' c1 hA hB H hkk hY
        go_wp2_with (go_at_call 32; refine (within_n _ _ _ _ C1.out).mono ?_; rintro e w' ⟨rfl, rfl⟩)
        go_ret
        exact ⟨by rw [hZ.out]; rfl, hB'.out⟩
      · have C1 := Lib.hid (fun w => within_y m 0 1099511627776 w (by omega) (by omega))
        by_cases c2 : o < 1 ∨ 7 < o
        · have hZ : Hid (Z = 4) := by unfold Hid; rw [hA'.out, if_neg c1, if_pos c2]
          have C2 := Lib.hid (fun w => within_n o 1 7 w c2)
          clear hA' c1 c2 hA hB H hkk hY
          go_wp2_with fail
          refine (C1.out _).mono ?_
          rintro e w' ⟨rfl, rfl⟩
          go_wp2_with fail
          refine (C2.out _).mono ?_
          rintro e w' ⟨rfl, rfl⟩
          go_wp2
          go_ret
          exact ⟨by rw [hZ.out]; rfl, hB'.out⟩
        · have C2 := Lib.hid (fun w => within_y o 1 7 w (by omega) (by omega))
          rcases Nat.eq_zero_or_pos k with h0 | h0
          · have hy := hY.out.1 h0
            have hZ : Hid (Z = Sm.attF m (l.drop (k + 1))) := by unfold Hid; rw [hA'.out, if_neg c1, if_neg c2, if_neg (by omega)]
            have d1 : decide (0 < (k : Int)) = false := by simp; omega
            have d1' : decide (0 < k) = false := by simp; omega
            clear hA' c1 c2 hA hB H hkk hY hy h0
            go_wp2_with fail
            refine (C1.out _).mono ?_
            rintro e w' ⟨rfl, rfl⟩
            go_wp2_with fail
            refine (C2.out _).mono ?_
            rintro e w' ⟨rfl, rfl⟩
            go_wp2_with fail
            go_quiet (fail)
            go_wp2
            go_roundw
            case rel => exact ⟨k + 1, m, by omega, by go_num, hZ.out, hY'.out, by first | exact hB'.out.drew | exact below_drewN hB'.out _⟩
            case measure => simp [intOf]; omega
          · obtain ⟨j, hj⟩ : ∃ j, k = j + 1 := ⟨k - 1, by omega⟩
            obtain ⟨m', o', hjj⟩ := pair_at (l := l) (k := j) (by omega)
            have hy := hY.out.2 j hj
            simp only [List.getD, hjj, Option.getD_some] at hy
            obtain ⟨b', off', e', hb', p1, p2⟩ := (H.out.below hB.out).at_ hjj
            simp only [Option.some.injEq, Addr.mk.injEq, and_true] at e'
            obtain ⟨rfl, rfl⟩ := e'
            have p1' : (wr.alloc (.cells #[.int .i64 m, .int .i64 o] 47)).cell? ⟨b, off + j * 2, none⟩ = some (.int .i64 m') := by
              rw [World.cell?_alloc_lt _ _ _ hb]; exact p1
            have P1 := Lib.hid p1'
            have n1 : (wr.alloc (.cells #[.int .i64 m, .int .i64 o] 47)).cell? ⟨wr.heap.size, 0, none⟩ = some (.int .i64 m) := by rw [World.cell?_alloc_new]; rfl
            have N1 := Lib.hid n1
            have d1 : decide (0 < (k : Int)) = true := by simp; omega
            have d1' : decide (0 < k) = true := by simp; omega
            have hjl : (j : Int) < (l.length : Int) := by omega
            have z1 : IntKind.i64.wrap ((k : Int) - 1) = (j : Int) := by rw [IntWalk.i64_in _ (by omega)]; omega
            have ZZ := Lib.hid z1
            by_cases c3 : m < m'
            · have hZ : Hid (Z = 7) := by unfold Hid; rw [hA'.out, if_neg c1, if_neg c2, if_pos (by omega)]
              have d3 : decide (m < m') = true := by simp; omega
              clear hA' c1 c2 c3 hA hB H hkk hY hy h0 hj hjj p1 p2 p1' n1 z1
              go_wp2_with fail
              refine (C1.out _).mono ?_
              rintro e w' ⟨rfl, rfl⟩
              go_wp2_with fail
              refine (C2.out _).mono ?_
              rintro e w' ⟨rfl, rfl⟩
              go_wp2_with fail
              have hBB := hB'
              generalize wr.alloc (.cells #[.int .i64 m, .int .i64 o] 47) = w5 at *
              have p1 := P1.out
              have n1 := N1.out
              have z1 := ZZ.out
              go_quiet (fail)
              clear z1
              go_wp2
              go_ret
              exact ⟨by rw [hZ.out]; rfl, by first | exact hB'.out.drew | exact below_drewN hB'.out _⟩
            · have hZ : Hid (Z = Sm.attF m (l.drop (k + 1))) := by unfold Hid; rw [hA'.out, if_neg c1, if_neg c2, if_neg (by omega)]
              have d3 : decide (m < m') = false := by simp; omega
              clear hA' c1 c2 c3 hA hB H hkk hY hy h0 hj hjj p1 p2 p1' n1 z1
              go_wp2_with fail
              refine (C1.out _).mono ?_
              rintro e w' ⟨rfl, rfl⟩
              go_wp2_with fail
              refine (C2.out _).mono ?_
              rintro e w' ⟨rfl, rfl⟩
              go_wp2_with fail
              generalize wr.alloc (.cells #[.int .i64 m, .int .i64 o] 47) = w5 at *
              have p1 := P1.out
              have n1 := N1.out
              have z1 := ZZ.out
              go_quiet (fail)
              clear z1
              go_wp2
              go_roundw
              case rel => exact ⟨k + 1, m, by omega, by go_num, hZ.out, hY'.out, by first | exact hB'.out.drew | exact below_drewN hB'.out _⟩
              case measure => simp [intOf]; omega
    · obtain rfl : k = l.length := by omega
      have hZ : Hid (Z = 0) := by unfold Hid; rw [hA.out, List.drop_length]; rfl
      clear hA hY
      go_wp2
      go_ret
      exact ⟨by rw [hZ.out]; rfl, hB.out⟩
set_option maxHeartbeats 1000000 in
theorem outcome_c (a : Option Addr) (c : Nat) (l : List (Int × Int)) (w : World) (h : RdP w a l) :
    Calls Try.prog 29 #[.slice a l.length c] w (OnePost (Sm.outF 7 l) w) := by
  have H := Lib.hid h
  have hn := h.1
  clear h
  obtain ⟨Z, hZ⟩ : ∃ Z, Z = Sm.outF 7 l := ⟨_, rfl⟩
  rw [← hZ]
  have HZ := Lib.hid hZ
  clear hZ
  go_enter Try.func29, Try.ntmps29
  go_wp2
  go_loopw [3, 5, 8] (fun x _ i wr => ∃ (k : Nat) (o : Int), k ≤ l.length ∧ i = .int .i64 k ∧ x = .int .i64 o ∧ Hid (Z = Sm.outF o (l.drop k)) ∧ Hid (Below w.heap.size w wr)) (fun _ _ i _ => l.length - (intOf i).toNat)
  case atStart => exact ⟨0, 7, Nat.zero_le _, rfl, rfl, HZ.out, Below.refl _ _⟩
  case round =>
    obtain ⟨k, x, hk, rfl, rfl, hA, hB⟩ := hrel
    clear HZ
    by_cases hlt : k < l.length
    · obtain ⟨m, o, hkk⟩ := pair_at hlt
      obtain ⟨b, off, rfl, hb, q1, q2⟩ := (H.out.below hB.out).at_ hkk
      have hlt' : (k : Int) < (l.length : Int) := by omega
      have hA' := Lib.hid (hA.out.trans (Sm.outF_drop hkk x))
      have hB' := Lib.hid (hB.out.alloc hB.out.size (.cells #[.int .i64 m, .int .i64 o] 47))
      obtain ⟨z, hz⟩ : ∃ z, min x o = z := ⟨_, rfl⟩
      rw [hz] at hA'
      clear hA hB H hkk
      go_wp2
      go_roundw
      case rel => exact ⟨k + 1, z, by omega, by go_num, rfl, hA'.out, hB'.out⟩
      case measure => simp [intOf]; omega
    · obtain rfl : k = l.length := by omega
      have hZ : Hid (Z = x) := by unfold Hid; rw [hA.out, List.drop_length]; rfl
      clear hA
      go_wp2
      go_ret
      exact ⟨by rw [hZ.out]; rfl, hB.out⟩
theorem ROutcome_c (a : Option Addr) (c : Nat) (l : List (Int × Int)) (w : World) (h : RdP w a l) :
    Calls Try.prog 14 #[.slice a l.length c] w (TwoPost (Sm.outcF l) w) := by
  have H := Lib.hid h
  by_cases hn : 100 < l.length
  · have hE : Hid (Sm.outcF l = (0, 2)) := by unfold Hid Sm.outcF; rw [if_pos hn]
    have hC := Lib.hid (checkAttempts_long a c l.length w h.1 hn)
    clear h
    go_enter Try.func14, Try.ntmps14
    go_wp2_with fail
    refine hC.out.mono ?_
    rintro e w1 ⟨rfl, b1⟩
    have B1 := Lib.hid b1
    clear b1 hC
    go_wp2
    go_ret2
    exact ⟨by rw [hE.out]; rfl, B1.out⟩
  · have hC := Lib.hid (checkAttempts_c a c l w h (by omega))
    by_cases hz : Sm.attF 0 l = 0
    · have hE : Hid (Sm.outcF l = (Sm.outF 7 l, 0)) := by unfold Hid Sm.outcF; rw [if_neg hn, if_neg (by omega)]
      rw [hz] at hC
      clear h hz
      go_enter Try.func14, Try.ntmps14
      go_wp2_with fail
      refine hC.out.mono ?_
      rintro e w1 ⟨rfl, b1⟩
      have B1 := Lib.hid b1
      clear b1 hC
      go_wp2_with fail
      refine (outcome_c a c l _ (H.out.below B1.out)).mono ?_
      rintro e w2 ⟨rfl, b2⟩
      have B2 := Lib.hid (B1.out.trans (b2.mono B1.out.size))
      clear b2
      go_wp2
      go_ret2
      exact ⟨by rw [hE.out]; rfl, B2.out⟩
    · have hE : Hid (Sm.outcF l = (0, Sm.attF 0 l)) := by unfold Hid Sm.outcF; rw [if_neg hn, if_pos hz]
      have d : (Sm.attF 0 l == 0) = false := by simp; omega
      have d2 : (Sm.attF 0 l != 0) = true := by simp; omega
      clear h hz
      generalize Sm.attF 0 l = z at *
      go_enter Try.func14, Try.ntmps14
      go_wp2_with fail
      refine hC.out.mono ?_
      rintro e w1 ⟨rfl, b1⟩
      have B1 := Lib.hid b1
      clear b1 hC
      go_wp2
      go_ret2
      exact ⟨by rw [hE.out]; rfl, B1.out⟩
end Go.Proofs.Ytaiiobojlipbeaa
