/-
  checkParts and nextPart of package sample.
-/
import Derived.Test.YtaiiobojlipbeaaSmpBase
namespace Go.Proofs.Ytaiiobojlipbeaa
open Go.RowKit

/-- A part whose numbers are as they must be. -/
def good (W L M : Nat → Int) (j : Nat) : Prop := 0 ≤ W j ∧ W j ≤ 1000000000 ∧ 0 ≤ L j ∧ L j ≤ M j ∧ M j ≤ 5000
theorem bad_cases {x y z : Int} (h : ¬ (0 ≤ x ∧ x ≤ 1000000000 ∧ 0 ≤ y ∧ y ≤ z ∧ z ≤ 5000)) :
    x < 0 ∨ (0 ≤ x ∧ 1000000000 < x) ∨ (0 ≤ x ∧ x ≤ 1000000000 ∧ y < 0) ∨ (0 ≤ x ∧ x ≤ 1000000000 ∧ 0 ≤ y ∧ z < y) ∨ (0 ≤ x ∧ x ≤ 1000000000 ∧ 0 ≤ y ∧ y ≤ z ∧ 5000 < z) := by omega
def QuietInt (n : Int) (w : World) (e : Ending) (w' : World) : Prop := e = .returned (.int .i64 n) ∧ ∃ m, w' = w.drewN m

set_option maxHeartbeats 2000000 in
theorem checkParts_bad (a1 a2 a3 : Option Addr) (c1 c2 c3 : Nat) (l1 l2 l3 : List Int) (w : World) (h1 : Rd w a1 l1) (h2 : Rd w a2 l2) (h3 : Rd w a3 l3) (e2 : l1.length = l2.length) (e3 : l1.length = l3.length) (hn : l1.length ≤ 40) (hbad : ∃ j, j < l1.length ∧ ¬ good (fn l1) (fn l2) (fn l3) j) :
    Calls Try.prog 19 #[.slice a1 l1.length c1, .slice a2 l2.length c2, .slice a3 l3.length c3] w (QuietInt 1 w) := by
  have H1 := Lib.hid h1
  have H2 := Lib.hid h2
  have H3 := Lib.hid h3
  have HB := Lib.hid hbad
  have E2 := Lib.hid e2
  have E3 := Lib.hid e3
  clear h1 h2 h3 hbad
  rw [← e2, ← e3]
  clear e2 e3
  go_enter Try.func19, Try.ntmps19
  go_wp2
  go_loopw [7, 8, 26] (fun _ _ i wr => ∃ k : Nat, k ≤ l1.length ∧ i = .int .i64 k ∧ Hid (∀ j, j < k → good (fn l1) (fn l2) (fn l3) j) ∧ Hid (∃ m, wr = w.drewN m)) (fun _ _ i _ => l1.length - (intOf i).toNat)
  case atStart => exact ⟨0, Nat.zero_le _, rfl, fun j hj => absurd hj (Nat.not_lt_zero _), 0, rfl⟩
  case round =>
    obtain ⟨k, hk, rfl, hG, hD⟩ := hrel
    by_cases hlt : k < l1.length
    · obtain ⟨b1, o1, rfl, q1⟩ := H1.out.at_ hlt
      obtain ⟨b2, o2, rfl, q2⟩ := H2.out.at_ (show k < l2.length by rw [← E2.out]; exact hlt)
      obtain ⟨b3, o3, rfl, q3⟩ := H3.out.at_ (show k < l3.length by rw [← E3.out]; exact hlt)
      have r1 : wr.cell? ⟨b1, o1 + k, none⟩ = some (.int .i64 (fn l1 k)) := by obtain ⟨m0, e⟩ := hD.out; rw [e]; exact q1
      have r2 : wr.cell? ⟨b2, o2 + k, none⟩ = some (.int .i64 (fn l2 k)) := by obtain ⟨m0, e⟩ := hD.out; rw [e]; exact q2
      have r3 : wr.cell? ⟨b3, o3 + k, none⟩ = some (.int .i64 (fn l3 k)) := by obtain ⟨m0, e⟩ := hD.out; rw [e]; exact q3
      have hD' : Hid (∀ j, ∃ m, wr.drewN j = w.drewN m) := fun j => by obtain ⟨m0, e⟩ := hD.out; exact ⟨_, by rw [e, drewN_drewN]⟩
      clear q1 q2 q3 hD H1 H2 H3
      have hlt' : (k : Int) < (l1.length : Int) := by omega
      have hN : Hid (good (fn l1) (fn l2) (fn l3) k → ∀ j, j < k + 1 → good (fn l1) (fn l2) (fn l3) j) := fun g j hj => by
        by_cases e : j = k
        · subst e; exact g
        · exact hG.out j (by omega)
      unfold good at hN
      generalize fn l1 k = x at r1 hN
      generalize fn l2 k = y at r2 hN
      generalize fn l3 k = z at r3 hN
      by_cases g : 0 ≤ x ∧ x ≤ 1000000000 ∧ 0 ≤ y ∧ y ≤ z ∧ z ≤ 5000
      · have hN' := Lib.hid (hN.out g)
        obtain ⟨g1, g2, g3, g4, g5⟩ := g
        have d1 : decide (x < 0) = false := by simp; omega
        have d2 : decide (1000000000 < x) = false := by simp; omega
        have d3 : decide (y < 0) = false := by simp; omega
        have d4 : decide (z < y) = false := by simp; omega
        have d5 : decide (5000 < z) = false := by simp; omega
        clear hN hG HB
        go_wp2
        go_quiet (fail)
        go_wp2
        go_roundw
        case rel => exact ⟨k + 1, by omega, by go_num, hN'.out, hD'.out _⟩
        case measure => simp [intOf]; omega
      · have g' := bad_cases g
        clear g hN hG HB
        rcases g' with g1 | ⟨g1, g2⟩ | ⟨g1, g2, g3⟩ | ⟨g1, g2, g3, g4⟩ | ⟨g1, g2, g3, g4, g5⟩
        · have d1 : decide (x < 0) = true := by simp; omega
          go_wp2
          go_quiet (fail)
          go_wp2
          go_ret
          exact ⟨rfl, hD'.out _⟩
        · have d1 : decide (x < 0) = false := by simp; omega
          have d2 : decide (1000000000 < x) = true := by simp; omega
          go_wp2
          go_quiet (fail)
          go_wp2
          go_ret
          exact ⟨rfl, hD'.out _⟩
        · have d1 : decide (x < 0) = false := by simp; omega
          have d2 : decide (1000000000 < x) = false := by simp; omega
          have d3 : decide (y < 0) = true := by simp; omega
          go_wp2
          go_quiet (fail)
          go_wp2
          go_ret
          exact ⟨rfl, hD'.out _⟩
        · have d1 : decide (x < 0) = false := by simp; omega
          have d2 : decide (1000000000 < x) = false := by simp; omega
          have d3 : decide (y < 0) = false := by simp; omega
          have d4 : decide (z < y) = true := by simp; omega
          go_wp2
          go_quiet (fail)
          go_wp2
          go_ret
          exact ⟨rfl, hD'.out _⟩
        · have d1 : decide (x < 0) = false := by simp; omega
          have d2 : decide (1000000000 < x) = false := by simp; omega
          have d3 : decide (y < 0) = false := by simp; omega
          have d4 : decide (z < y) = false := by simp; omega
          have d5 : decide (5000 < z) = true := by simp; omega
          go_wp2
          go_quiet (fail)
          go_wp2
          go_ret
          exact ⟨rfl, hD'.out _⟩
    · obtain rfl : k = l1.length := by omega
      obtain ⟨j, hj, hb⟩ := HB.out
      exact absurd (hG.out j hj) hb

set_option maxHeartbeats 2000000 in
theorem checkParts_ok (a1 a2 a3 : Option Addr) (c1 c2 c3 : Nat) (l1 l2 l3 : List Int) (w : World) (h1 : Rd w a1 l1) (h2 : Rd w a2 l2) (h3 : Rd w a3 l3) (e2 : l1.length = l2.length) (e3 : l1.length = l3.length) (hn : l1.length ≤ 40) (hgood : ∀ j, j < l1.length → good (fn l1) (fn l2) (fn l3) j) :
    Calls Try.prog 19 #[.slice a1 l1.length c1, .slice a2 l2.length c2, .slice a3 l3.length c3] w (QuietInt 0 w) := by
  have H1 := Lib.hid h1
  have H2 := Lib.hid h2
  have H3 := Lib.hid h3
  have HB := Lib.hid hgood
  have E2 := Lib.hid e2
  have E3 := Lib.hid e3
  clear h1 h2 h3 hgood
  rw [← e2, ← e3]
  clear e2 e3
  go_enter Try.func19, Try.ntmps19
  go_wp2
  go_loopw [7, 8, 26] (fun _ _ i wr => ∃ k : Nat, k ≤ l1.length ∧ i = .int .i64 k ∧ Hid (∃ m, wr = w.drewN m)) (fun _ _ i _ => l1.length - (intOf i).toNat)
  case atStart => exact ⟨0, Nat.zero_le _, rfl, 0, rfl⟩
  case round =>
    obtain ⟨k, hk, rfl, hD⟩ := hrel
    by_cases hlt : k < l1.length
    · obtain ⟨b1, o1, rfl, q1⟩ := H1.out.at_ hlt
      obtain ⟨b2, o2, rfl, q2⟩ := H2.out.at_ (show k < l2.length by rw [← E2.out]; exact hlt)
      obtain ⟨b3, o3, rfl, q3⟩ := H3.out.at_ (show k < l3.length by rw [← E3.out]; exact hlt)
      have r1 : wr.cell? ⟨b1, o1 + k, none⟩ = some (.int .i64 (fn l1 k)) := by obtain ⟨m0, e⟩ := hD.out; rw [e]; exact q1
      have r2 : wr.cell? ⟨b2, o2 + k, none⟩ = some (.int .i64 (fn l2 k)) := by obtain ⟨m0, e⟩ := hD.out; rw [e]; exact q2
      have r3 : wr.cell? ⟨b3, o3 + k, none⟩ = some (.int .i64 (fn l3 k)) := by obtain ⟨m0, e⟩ := hD.out; rw [e]; exact q3
      have hD' : Hid (∀ j, ∃ m, wr.drewN j = w.drewN m) := fun j => by obtain ⟨m0, e⟩ := hD.out; exact ⟨_, by rw [e, drewN_drewN]⟩
      obtain ⟨g1, g2, g3, g4, g5⟩ := HB.out k hlt
      clear q1 q2 q3 hD H1 H2 H3
      have hlt' : (k : Int) < (l1.length : Int) := by omega
      generalize fn l1 k = x at r1 g1 g2
      generalize fn l2 k = y at r2 g3 g4
      generalize fn l3 k = z at r3 g4 g5
      have d1 : decide (x < 0) = false := by simp; omega
      have d2 : decide (1000000000 < x) = false := by simp; omega
      have d3 : decide (y < 0) = false := by simp; omega
      have d4 : decide (z < y) = false := by simp; omega
      have d5 : decide (5000 < z) = false := by simp; omega
      clear HB
      go_wp2
      go_quiet (fail)
      go_wp2
      go_roundw
      case rel => exact ⟨k + 1, by omega, by go_num, hD'.out _⟩
      case measure => simp [intOf]; omega
    · obtain rfl : k = l1.length := by omega
      go_wp2
      go_ret
      exact ⟨rfl, hD.out⟩

theorem checkParts_long (a1 a2 a3 : Option Addr) (c1 c2 c3 n : Nat) (w : World) (hn : 40 < n) (hm : n ≤ 9223372036854775807) :
    Calls Try.prog 19 #[.slice a1 n c1, .slice a2 n c2, .slice a3 n c3] w (QuietInt 2 w) := by
  go_enter Try.func19, Try.ntmps19
  go_wp2
  go_ret
  exact ⟨rfl, 0, rfl⟩
theorem checkParts_lens (a1 a2 a3 : Option Addr) (c1 c2 c3 n1 n2 n3 : Nat) (w : World) (h : n1 ≠ n2 ∨ (n1 = n2 ∧ n1 ≠ n3)) :
    Calls Try.prog 19 #[.slice a1 n1 c1, .slice a2 n2 c2, .slice a3 n3 c3] w (QuietInt 3 w) := by
  rcases h with h | ⟨rfl, h⟩
  · have h1 : ((n1 : Int) == (n2 : Int)) = false := by simp; omega
    have h2 : ((n1 : Int) != (n2 : Int)) = true := by simp; omega
    clear h
    go_enter Try.func19, Try.ntmps19
    go_wp2
    go_ret
    exact ⟨rfl, 0, rfl⟩
  · have h1 : ((n1 : Int) == (n3 : Int)) = false := by simp; omega
    have h2 : ((n1 : Int) != (n3 : Int)) = true := by simp; omega
    clear h
    go_enter Try.func19, Try.ntmps19
    go_wp2
    go_ret
    exact ⟨rfl, 0, rfl⟩

theorem mul_bd {x y A B : Int} (h1 : 0 ≤ x) (h2 : x ≤ A) (h3 : 0 ≤ y) (h4 : y ≤ B) : 0 ≤ x * y ∧ x * y ≤ A * B :=
  ⟨Int.mul_nonneg h1 h3, Int.le_trans (Int.mul_le_mul_of_nonneg_right h2 h3) (Int.mul_le_mul_of_nonneg_left h4 (by omega))⟩
theorem wrap_in (x : Int) (h1 : -9223372036854775808 ≤ x) (h2 : x ≤ 9223372036854775807) : IntKind.i64.wrap x = x := IntWalk.i64_in _ (by omega)

set_option maxHeartbeats 2000000 in
theorem nextPart_c (a1 a2 a3 : Option Addr) (c1 c2 c3 : Nat) (l1 l2 l3 : List Int) (w : World) (h1 : Rd w a1 l1) (h2 : Rd w a2 l2) (h3 : Rd w a3 l3) (e2 : l1.length = l2.length) (e3 : l1.length = l3.length)
    (hW : ∀ j, j < l1.length → 0 ≤ fn l1 j ∧ fn l1 j ≤ 1000000000) (hN : ∀ j, j < l1.length → 0 ≤ fn l2 j ∧ fn l2 j ≤ 5000) :
    Calls Try.prog 22 #[.slice a1 l1.length c1, .slice a2 l2.length c2, .slice a3 l3.length c3] w (QuietInt (Sm.bst (fn l1) (fn l2) (fn l3) l1.length) w) := by
  have H1 := Lib.hid h1
  have H2 := Lib.hid h2
  have H3 := Lib.hid h3
  have HW := Lib.hid hW
  have HN := Lib.hid hN
  have E2 := Lib.hid e2
  have E3 := Lib.hid e3
  have hn := h1.1
  clear h1 h2 h3 hW hN
  rw [← e2, ← e3]
  clear e2 e3
  go_enter Try.func22, Try.ntmps22
  go_wp2
  go_loopw [7, 8, 9, 12] (fun b _ _ i wr => ∃ k : Nat, k ≤ l1.length ∧ i = .int .i64 k ∧ b = .int .i64 (Sm.bst (fn l1) (fn l2) (fn l3) k) ∧ Hid (∃ m, wr = w.drewN m)) (fun _ _ _ i _ => l1.length - (intOf i).toNat)
  case atStart => exact ⟨0, Nat.zero_le _, rfl, rfl, 0, rfl⟩
  case round =>
    obtain ⟨k, hk, rfl, rfl, hD⟩ := hrel
    have hD' : Hid (∀ j, ∃ m, wr.drewN j = w.drewN m) := fun j => by obtain ⟨m0, e⟩ := hD.out; exact ⟨_, by rw [e, drewN_drewN]⟩
    by_cases hlt : k < l1.length
    · obtain ⟨b1, o1, rfl, _, q1⟩ := H1.out.2 (by omega)
      obtain ⟨b2, o2, rfl, _, q2⟩ := H2.out.2 (show 0 < l2.length by rw [← E2.out]; omega)
      obtain ⟨b3, o3, rfl, q3⟩ := H3.out.at_ (show k < l3.length by rw [← E3.out]; exact hlt)
      have q1' : Hid (∀ j, j < l1.length → wr.cell? ⟨b1, o1 + j, none⟩ = some (.int .i64 (fn l1 j))) := fun j hj => by obtain ⟨m0, e⟩ := hD.out; rw [e]; exact q1 j hj
      have q2' : Hid (∀ j, j < l1.length → wr.cell? ⟨b2, o2 + j, none⟩ = some (.int .i64 (fn l2 j))) := fun j hj => by obtain ⟨m0, e⟩ := hD.out; rw [e]; exact q2 j (by rw [← E2.out]; exact hj)
      have r2 := q2'.out k hlt
      have r3 : wr.cell? ⟨b3, o3 + k, none⟩ = some (.int .i64 (fn l3 k)) := by obtain ⟨m0, e⟩ := hD.out; rw [e]; exact q3
      have hlt' : (k : Int) < (l1.length : Int) := by omega
      have lo := Sm.bst_lo (fn l1) (fn l2) (fn l3) k
      have hY := Lib.hid (Sm.bst_yes (fn l1) (fn l2) (fn l3) k)
      have hX := Lib.hid (Sm.bst_no (fn l1) (fn l2) (fn l3) k)
      clear q1 q2 q3 hD H1 H2 H3
      by_cases c1 : fn l2 k < fn l3 k
      · by_cases c2 : Sm.bst (fn l1) (fn l2) (fn l3) k < 0
        · have hE := Lib.hid (hY.out c1 (.inl c2))
          clear hX hY q1' q2'
          generalize Sm.bst (fn l1) (fn l2) (fn l3) k = B at lo c2
          generalize fn l2 k = p at r2 c1
          generalize fn l3 k = q at r3 c1
          have d1 : decide (p < q) = true := by simp; omega
          have d2 : decide (B < 0) = true := by simp; omega
          go_wp2
          go_quiet (fail)
          go_wp2
          go_roundw
          case rel => exact ⟨k + 1, by omega, by go_num, by rw [hE.out], hD'.out _⟩
          case measure => simp [intOf]; omega
        · obtain ⟨jb, hjb⟩ : ∃ jb : Nat, Sm.bst (fn l1) (fn l2) (fn l3) k = (jb : Int) := ⟨(Sm.bst (fn l1) (fn l2) (fn l3) k).toNat, by omega⟩
          have r1 := q1'.out k hlt
          have r4 := q1'.out jb (by omega)
          have r5 := q2'.out jb (by omega)
          obtain ⟨w1, w2⟩ := HW.out k hlt
          obtain ⟨w3, w4⟩ := HW.out jb (by omega)
          obtain ⟨n1, n2⟩ := HN.out k hlt
          obtain ⟨n3, n4⟩ := HN.out jb (by omega)
          have hjl : (jb : Int) < (l1.length : Int) := by omega
          rw [hjb] at hX hY
          simp only [Int.toNat_natCast] at hX hY
          by_cases c3 : fn l1 jb * (2 * fn l2 k + 1) < fn l1 k * (2 * fn l2 jb + 1)
          · have hE := Lib.hid (hY.out c1 (.inr c3))
            rw [hjb]
            clear hX hY q1' q2' HW HN lo c2 hjb
            generalize fn l1 jb = u at *
            generalize fn l2 jb = v at *
            generalize fn l1 k = x at *
            generalize fn l2 k = p at *
            generalize fn l3 k = q at *
            have m1 := mul_bd w1 w2 (show (0 : Int) ≤ 2 * v + 1 by omega) (show 2 * v + 1 ≤ 10001 by omega)
            have m2 := mul_bd w3 w4 (show (0 : Int) ≤ 2 * p + 1 by omega) (show 2 * p + 1 ≤ 10001 by omega)
            have z1 := wrap_in (2 * v) (by omega) (by omega)
            have z2 := wrap_in (2 * v + 1) (by omega) (by omega)
            have z3 := wrap_in (x * (2 * v + 1)) (by omega) (by omega)
            have z4 := wrap_in (2 * p) (by omega) (by omega)
            have z5 := wrap_in (2 * p + 1) (by omega) (by omega)
            have z6 := wrap_in (u * (2 * p + 1)) (by omega) (by omega)
            have d1 : decide (p < q) = true := by simp; omega
            have d2 : decide ((jb : Int) < 0) = false := by simp
            have d3 : decide (u * (2 * p + 1) < x * (2 * v + 1)) = true := by simp only [decide_eq_true_eq]; exact c3
            clear c3 m1 m2
            go_wp2
            go_quiet (fail)
            go_wp2
            go_roundw
            case rel => exact ⟨k + 1, by omega, by go_num, by rw [hE.out], hD'.out _⟩
            case measure => simp [intOf]; omega
          · have hE := Lib.hid (hX.out (by omega))
            rw [hjb]
            clear hX hY q1' q2' HW HN lo c2 hjb
            generalize fn l1 jb = u at *
            generalize fn l2 jb = v at *
            generalize fn l1 k = x at *
            generalize fn l2 k = p at *
            generalize fn l3 k = q at *
            have m1 := mul_bd w1 w2 (show (0 : Int) ≤ 2 * v + 1 by omega) (show 2 * v + 1 ≤ 10001 by omega)
            have m2 := mul_bd w3 w4 (show (0 : Int) ≤ 2 * p + 1 by omega) (show 2 * p + 1 ≤ 10001 by omega)
            have z1 := wrap_in (2 * v) (by omega) (by omega)
            have z2 := wrap_in (2 * v + 1) (by omega) (by omega)
            have z3 := wrap_in (x * (2 * v + 1)) (by omega) (by omega)
            have z4 := wrap_in (2 * p) (by omega) (by omega)
            have z5 := wrap_in (2 * p + 1) (by omega) (by omega)
            have z6 := wrap_in (u * (2 * p + 1)) (by omega) (by omega)
            have d1 : decide (p < q) = true := by simp; omega
            have d2 : decide ((jb : Int) < 0) = false := by simp
            have d3 : decide (u * (2 * p + 1) < x * (2 * v + 1)) = false := by simp only [decide_eq_false_iff_not]; exact c3
            clear c3 m1 m2
            go_wp2
            go_quiet (fail)
            go_wp2
            go_roundw
            case rel => exact ⟨k + 1, by omega, by go_num, by rw [hE.out], hD'.out _⟩
            case measure => simp [intOf]; omega
      · have hE := Lib.hid (hX.out (fun h => c1 h.1))
        clear hX hY q1' q2'
        generalize Sm.bst (fn l1) (fn l2) (fn l3) k = B at *
        generalize fn l2 k = p at *
        generalize fn l3 k = q at *
        have d1 : decide (p < q) = false := by simp; omega
        go_wp2
        go_quiet (fail)
        go_wp2
        go_roundw
        case rel => exact ⟨k + 1, by omega, by go_num, by rw [hE.out], hD'.out _⟩
        case measure => simp [intOf]; omega
    · obtain rfl : k = l1.length := by omega
      go_wp2
      go_ret
      exact ⟨rfl, hD.out⟩
end Go.Proofs.Ytaiiobojlipbeaa
