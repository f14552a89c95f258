/-
  Allocate of the reference; and the law that both answer alike.
-/
import Derived.Test.YtaiiobojlipbeaaSmpAlloc
import Derived.Test.YtaiiobojlipbeaaSmpOpen
namespace Go.Proofs.Ytaiiobojlipbeaa
open Go.RowKit

set_option maxRecDepth 100000 in
set_option maxHeartbeats 1000000 in
theorem RAllocate_lens (a1 a2 a3 : Option Addr) (c1 c2 c3 n1 n2 n3 : Nat) (T : Int) (w : World) (h : n1 ≠ n2 ∨ (n1 = n2 ∧ n1 ≠ n3)) :
    Calls Try.prog 9 #[.slice a1 n1 c1, .slice a2 n2 c2, .slice a3 n3 c3, .int .i64 T] w (QuietFault 3 w) := by
  rcases h with h | ⟨rfl, h⟩
  · have h1 : ((n1 : Int) == (n2 : Int)) = false := by simp; omega
    have h2 : ((n1 : Int) != (n2 : Int)) = true := by simp; omega
    clear h
    go_enter Try.func9, Try.ntmps9
    go_wp2
    go_ret2
    exact ⟨rfl, 0, rfl⟩
  · have h1 : ((n1 : Int) == (n3 : Int)) = false := by simp; omega
    have h2 : ((n1 : Int) != (n3 : Int)) = true := by simp; omega
    clear h
    go_enter Try.func9, Try.ntmps9
    go_wp2
    go_ret2
    exact ⟨rfl, 0, rfl⟩
set_option maxRecDepth 100000 in
set_option maxHeartbeats 1000000 in
theorem RAllocate_long (a1 a2 a3 : Option Addr) (c1 c2 c3 n : Nat) (T : Int) (w : World) (hn : 40 < n) (hm : n ≤ 9223372036854775807) :
    Calls Try.prog 9 #[.slice a1 n c1, .slice a2 n c2, .slice a3 n c3, .int .i64 T] w (QuietFault 2 w) := by
  go_enter Try.func9, Try.ntmps9
  go_wp2
  go_ret2
  exact ⟨rfl, 0, rfl⟩

set_option maxRecDepth 100000 in
set_option maxHeartbeats 4000000 in
theorem RAllocate_bad (a1 a2 a3 : Option Addr) (c1 c2 c3 : Nat) (l1 l2 l3 : List Int) (T : Int) (w : World) (h1 : Rd w a1 l1) (h2 : Rd w a2 l2) (h3 : Rd w a3 l3) (e2 : l1.length = l2.length) (e3 : l1.length = l3.length) (hn : l1.length ≤ 40) (hbad : ∃ j, j < l1.length ∧ ¬ good (fn l1) (fn l2) (fn l3) j) :
    Calls Try.prog 9 #[.slice a1 l1.length c1, .slice a2 l2.length c2, .slice a3 l3.length c3, .int .i64 T] w (QuietFault 1 w) := by
  have H1 := Lib.hid h1
  have H2 := Lib.hid h2
  have H3 := Lib.hid h3
  have HB := Lib.hid hbad
  have E2 := Lib.hid e2
  have E3 := Lib.hid e3
  clear h1 h2 h3 hbad
  rw [← e2, ← e3]
  clear e2 e3
  go_enter Try.func9, Try.ntmps9
  go_wp2
  go_loopw [10, 11, 35] (fun _ _ i wr => ∃ k : Nat, k ≤ l1.length ∧ i = .int .i64 k ∧ Hid (∀ j, j < k → good (fn l1) (fn l2) (fn l3) j) ∧ Hid (∃ m, wr = w.drewN m)) (fun _ _ i _ => l1.length - (intOf i).toNat)
  case atStart => exact ⟨0, Nat.zero_le _, rfl, fun j hj => absurd hj (Nat.not_lt_zero _), 0, rfl⟩
  case round =>
    obtain ⟨k, hk, rfl, hG, hD⟩ := hrel
    by_cases hlt : k < l1.length
    · obtain ⟨b1, o1, rfl, q1⟩ := H1.out.at_ hlt
      obtain ⟨b2, o2, rfl, q2⟩ := H2.out.at_ (show k < l2.length by rw [← E2.out]; exact hlt)
      obtain ⟨b3, o3, rfl, q3⟩ := H3.out.at_ (show k < l3.length by rw [← E3.out]; exact hlt)
      have r1 : wr.cell? ⟨b1, o1 + k, none⟩ = some (.int .i64 (fn l1 k)) := by obtain ⟨m0, e⟩ := hD.out; rw [e]; exact q1
      have r2 : wr.cell? ⟨b2, o2 + k, none⟩ = some (.int .i64 (fn l2 k)) := by obtain ⟨m0, e⟩ := hD.out; rw [e]; exact q2
      have r3 : wr.cell? ⟨b3, o3 + k, none⟩ = some (.int .i64 (fn l3 k)) := by obtain ⟨m0, e⟩ := hD.out; rw [e]; exact q3
      have hD' : Hid (∀ j, ∃ m, wr.drewN j = w.drewN m) := fun j => by obtain ⟨m0, e⟩ := hD.out; exact ⟨_, by rw [e, drewN_drewN]⟩
      clear q1 q2 q3 hD H1 H2 H3
      have hlt' : (k : Int) < (l1.length : Int) := by omega
      have hN : Hid (good (fn l1) (fn l2) (fn l3) k → ∀ j, j < k + 1 → good (fn l1) (fn l2) (fn l3) j) := fun g j hj => by
        by_cases e : j = k
        · subst e; exact g
        · exact hG.out j (by omega)
      unfold good at hN
      generalize fn l1 k = x at r1 hN
      generalize fn l2 k = y at r2 hN
      generalize fn l3 k = z at r3 hN
      by_cases g : 0 ≤ x ∧ x ≤ 1000000000 ∧ 0 ≤ y ∧ y ≤ z ∧ z ≤ 5000
      · have hN' := Lib.hid (hN.out g)
        obtain ⟨g1, g2, g3, g4, g5⟩ := g
        have d1 : decide (x < 0) = false := by simp; omega
        have d2 : decide (1000000000 < x) = false := by simp; omega
        have d3 : decide (y < 0) = false := by simp; omega
        have d4 : decide (z < y) = false := by simp; omega
        have d5 : decide (5000 < z) = false := by simp; omega
        clear hN hG HB
        go_wp2
        go_quiet (fail)
        go_wp2
        go_roundw
        case rel => exact ⟨k + 1, by omega, by go_num, hN'.out, hD'.out _⟩
        case measure => simp [intOf]; omega
      · have g' := bad_cases g
        clear g hN hG HB
        rcases g' with g1 | ⟨g1, g2⟩ | ⟨g1, g2, g3⟩ | ⟨g1, g2, g3, g4⟩ | ⟨g1, g2, g3, g4, g5⟩
        · have d1 : decide (x < 0) = true := by simp; omega
          go_wp2
          go_quiet (fail)
          go_wp2
          go_ret2
          exact ⟨rfl, hD'.out _⟩
        · have d1 : decide (x < 0) = false := by simp; omega
          have d2 : decide (1000000000 < x) = true := by simp; omega
          go_wp2
          go_quiet (fail)
          go_wp2
          go_ret2
          exact ⟨rfl, hD'.out _⟩
        · have d1 : decide (x < 0) = false := by simp; omega
          have d2 : decide (1000000000 < x) = false := by simp; omega
          have d3 : decide (y < 0) = true := by simp; omega
          go_wp2
          go_quiet (fail)
          go_wp2
          go_ret2
          exact ⟨rfl, hD'.out _⟩
        · have d1 : decide (x < 0) = false := by simp; omega
          have d2 : decide (1000000000 < x) = false := by simp; omega
          have d3 : decide (y < 0) = false := by simp; omega
          have d4 : decide (z < y) = true := by simp; omega
          go_wp2
          go_quiet (fail)
          go_wp2
          go_ret2
          exact ⟨rfl, hD'.out _⟩
        · have d1 : decide (x < 0) = false := by simp; omega
          have d2 : decide (1000000000 < x) = false := by simp; omega
          have d3 : decide (y < 0) = false := by simp; omega
          have d4 : decide (z < y) = false := by simp; omega
          have d5 : decide (5000 < z) = true := by simp; omega
          go_wp2
          go_quiet (fail)
          go_wp2
          go_ret2
          exact ⟨rfl, hD'.out _⟩
    · obtain rfl : k = l1.length := by omega
      obtain ⟨j, hj, hb⟩ := HB.out
      exact absurd (hG.out j hj) hb
set_option maxRecDepth 100000 in
set_option maxHeartbeats 4000000 in
theorem RAllocate_few (a1 a2 a3 : Option Addr) (c1 c2 c3 : Nat) (l1 l2 l3 : List Int) (T : Int) (w : World) (h1 : Rd w a1 l1) (h2 : Rd w a2 l2) (h3 : Rd w a3 l3) (e2 : l1.length = l2.length) (e3 : l1.length = l3.length) (hn : l1.length ≤ 40)
    (hgood : ∀ j, j < l1.length → good (fn l1) (fn l2) (fn l3) j) (hs2 : Sums l2) (hs3 : Sums l3) (hT : T < Sm.pre (fn l2) l2.length) :
    Calls Try.prog 9 #[.slice a1 l1.length c1, .slice a2 l2.length c2, .slice a3 l3.length c3, .int .i64 T] w (QuietFault 1 w) := by
  have H1 := Lib.hid h1
  have H2 := Lib.hid h2
  have H3 := Lib.hid h3
  have HG := Lib.hid hgood
  have HS := Lib.hid hs2
  have HS3 := Lib.hid hs3
  have E2 := Lib.hid e2
  have E3 := Lib.hid e3
  have S0 := hs2 l2.length (Nat.le_refl _)
  have S3 := hs3 l3.length (Nat.le_refl _)
  generalize hS : Sm.pre (fn l2) l2.length = S at *
  have HSS := Lib.hid hS
  generalize hP : Sm.pre (fn l3) l3.length = P at *
  have HPP := Lib.hid hP
  clear hS hP
  clear h1 h2 h3 hgood hs2 hs3
  rw [← e2, ← e3]
  clear e2 e3
  go_enter Try.func9, Try.ntmps9
  go_wp2
  go_loopw [10, 11, 35] (fun _ _ i wr => ∃ k : Nat, k ≤ l1.length ∧ i = .int .i64 k ∧ Hid (∃ m, wr = w.drewN m)) (fun _ _ i _ => l1.length - (intOf i).toNat)
  case atStart => exact ⟨0, Nat.zero_le _, rfl, 0, rfl⟩
  case round =>
    obtain ⟨k, hk, rfl, hD⟩ := hrel
    by_cases hlt : k < l1.length
    · obtain ⟨b1, o1, rfl, q1⟩ := H1.out.at_ hlt
      obtain ⟨b2, o2, rfl, q2⟩ := H2.out.at_ (show k < l2.length by rw [← E2.out]; exact hlt)
      obtain ⟨b3, o3, rfl, q3⟩ := H3.out.at_ (show k < l3.length by rw [← E3.out]; exact hlt)
      have r1 : wr.cell? ⟨b1, o1 + k, none⟩ = some (.int .i64 (fn l1 k)) := by obtain ⟨m0, e⟩ := hD.out; rw [e]; exact q1
      have r2 : wr.cell? ⟨b2, o2 + k, none⟩ = some (.int .i64 (fn l2 k)) := by obtain ⟨m0, e⟩ := hD.out; rw [e]; exact q2
      have r3 : wr.cell? ⟨b3, o3 + k, none⟩ = some (.int .i64 (fn l3 k)) := by obtain ⟨m0, e⟩ := hD.out; rw [e]; exact q3
      have hD' : Hid (∀ j, ∃ m, wr.drewN j = w.drewN m) := fun j => by obtain ⟨m0, e⟩ := hD.out; exact ⟨_, by rw [e, drewN_drewN]⟩
      obtain ⟨g1, g2, g3, g4, g5⟩ := HG.out k hlt
      clear q1 q2 q3 hD H1 H2 H3
      have hlt' : (k : Int) < (l1.length : Int) := by omega
      generalize fn l1 k = x at r1 g1 g2
      generalize fn l2 k = y at r2 g3 g4
      generalize fn l3 k = z at r3 g4 g5
      have d1 : decide (x < 0) = false := by simp; omega
      have d2 : decide (1000000000 < x) = false := by simp; omega
      have d3 : decide (y < 0) = false := by simp; omega
      have d4 : decide (z < y) = false := by simp; omega
      have d5 : decide (5000 < z) = false := by simp; omega
      clear HG
      go_wp2
      go_quiet (fail)
      go_wp2
      go_roundw
      case rel => exact ⟨k + 1, by omega, by go_num, hD'.out _⟩
      case measure => simp [intOf]; omega
    · obtain rfl : k = l1.length := by omega
      have t2 : Calls Try.prog 23 #[.slice a2 l1.length c2] wr fun e w' => e = .returned (.int .i64 S) ∧ wr = w' := by
        have h := total_c a2 c2 l2 wr (by obtain ⟨m, e⟩ := hD.out; rw [e]; exact H2.out.drewN m) HS.out
        rw [HSS.out] at h
        rw [E2.out]
        exact h
      have t3 : Calls Try.prog 23 #[.slice a3 l1.length c3] wr fun e w' => e = .returned (.int .i64 P) ∧ wr = w' := by
        have h := total_c a3 c3 l3 wr (by obtain ⟨m, e⟩ := hD.out; rw [e]; exact H3.out.drewN m) HS3.out
        rw [HPP.out] at h
        rw [E3.out]
        exact h
      have T2 := Lib.hid t2
      have T3 := Lib.hid t3
      clear t2 t3
      go_wp2_with fail
      refine T2.out.mono ?_
      rintro e w' ⟨rfl, rfl⟩
      go_wp2
      go_ret2
      exact ⟨rfl, hD.out⟩
set_option maxRecDepth 100000 in
set_option maxHeartbeats 4000000 in
theorem RAllocate_many (a1 a2 a3 : Option Addr) (c1 c2 c3 : Nat) (l1 l2 l3 : List Int) (T : Int) (w : World) (h1 : Rd w a1 l1) (h2 : Rd w a2 l2) (h3 : Rd w a3 l3) (e2 : l1.length = l2.length) (e3 : l1.length = l3.length) (hn : l1.length ≤ 40)
    (hgood : ∀ j, j < l1.length → good (fn l1) (fn l2) (fn l3) j) (hs2 : Sums l2) (hs3 : Sums l3) (hT : Sm.pre (fn l2) l2.length ≤ T) (hT2 : Sm.pre (fn l3) l3.length < T) :
    Calls Try.prog 9 #[.slice a1 l1.length c1, .slice a2 l2.length c2, .slice a3 l3.length c3, .int .i64 T] w (QuietFault 15 w) := by
  have H1 := Lib.hid h1
  have H2 := Lib.hid h2
  have H3 := Lib.hid h3
  have HG := Lib.hid hgood
  have HS := Lib.hid hs2
  have HS3 := Lib.hid hs3
  have E2 := Lib.hid e2
  have E3 := Lib.hid e3
  have S0 := hs2 l2.length (Nat.le_refl _)
  have S3 := hs3 l3.length (Nat.le_refl _)
  generalize hS : Sm.pre (fn l2) l2.length = S at *
  have HSS := Lib.hid hS
  generalize hP : Sm.pre (fn l3) l3.length = P at *
  have HPP := Lib.hid hP
  clear hS hP
  clear h1 h2 h3 hgood hs2 hs3
  rw [← e2, ← e3]
  clear e2 e3
  go_enter Try.func9, Try.ntmps9
  go_wp2
  go_loopw [10, 11, 35] (fun _ _ i wr => ∃ k : Nat, k ≤ l1.length ∧ i = .int .i64 k ∧ Hid (∃ m, wr = w.drewN m)) (fun _ _ i _ => l1.length - (intOf i).toNat)
  case atStart => exact ⟨0, Nat.zero_le _, rfl, 0, rfl⟩
  case round =>
    obtain ⟨k, hk, rfl, hD⟩ := hrel
    by_cases hlt : k < l1.length
    · obtain ⟨b1, o1, rfl, q1⟩ := H1.out.at_ hlt
      obtain ⟨b2, o2, rfl, q2⟩ := H2.out.at_ (show k < l2.length by rw [← E2.out]; exact hlt)
      obtain ⟨b3, o3, rfl, q3⟩ := H3.out.at_ (show k < l3.length by rw [← E3.out]; exact hlt)
      have r1 : wr.cell? ⟨b1, o1 + k, none⟩ = some (.int .i64 (fn l1 k)) := by obtain ⟨m0, e⟩ := hD.out; rw [e]; exact q1
      have r2 : wr.cell? ⟨b2, o2 + k, none⟩ = some (.int .i64 (fn l2 k)) := by obtain ⟨m0, e⟩ := hD.out; rw [e]; exact q2
      have r3 : wr.cell? ⟨b3, o3 + k, none⟩ = some (.int .i64 (fn l3 k)) := by obtain ⟨m0, e⟩ := hD.out; rw [e]; exact q3
      have hD' : Hid (∀ j, ∃ m, wr.drewN j = w.drewN m) := fun j => by obtain ⟨m0, e⟩ := hD.out; exact ⟨_, by rw [e, drewN_drewN]⟩
      obtain ⟨g1, g2, g3, g4, g5⟩ := HG.out k hlt
      clear q1 q2 q3 hD H1 H2 H3
      have hlt' : (k : Int) < (l1.length : Int) := by omega
      generalize fn l1 k = x at r1 g1 g2
      generalize fn l2 k = y at r2 g3 g4
      generalize fn l3 k = z at r3 g4 g5
      have d1 : decide (x < 0) = false := by simp; omega
      have d2 : decide (1000000000 < x) = false := by simp; omega
      have d3 : decide (y < 0) = false := by simp; omega
      have d4 : decide (z < y) = false := by simp; omega
      have d5 : decide (5000 < z) = false := by simp; omega
      clear HG
      go_wp2
      go_quiet (fail)
      go_wp2
      go_roundw
      case rel => exact ⟨k + 1, by omega, by go_num, hD'.out _⟩
      case measure => simp [intOf]; omega
    · obtain rfl : k = l1.length := by omega
      have t2 : Calls Try.prog 23 #[.slice a2 l1.length c2] wr fun e w' => e = .returned (.int .i64 S) ∧ wr = w' := by
        have h := total_c a2 c2 l2 wr (by obtain ⟨m, e⟩ := hD.out; rw [e]; exact H2.out.drewN m) HS.out
        rw [HSS.out] at h
        rw [E2.out]
        exact h
      have t3 : Calls Try.prog 23 #[.slice a3 l1.length c3] wr fun e w' => e = .returned (.int .i64 P) ∧ wr = w' := by
        have h := total_c a3 c3 l3 wr (by obtain ⟨m, e⟩ := hD.out; rw [e]; exact H3.out.drewN m) HS3.out
        rw [HPP.out] at h
        rw [E3.out]
        exact h
      have T2 := Lib.hid t2
      have T3 := Lib.hid t3
      clear t2 t3
      have d : decide (T < S) = false := by simp; omega
      go_wp2_with fail
      refine T2.out.mono ?_
      rintro e w' ⟨rfl, rfl⟩
      go_wp2_with fail
      refine T3.out.mono ?_
      rintro e w' ⟨rfl, rfl⟩
      go_wp2
      go_ret2
      exact ⟨rfl, hD.out⟩
set_option maxRecDepth 100000 in
set_option maxHeartbeats 4000000 in
theorem RAllocate_yes (a1 a2 a3 : Option Addr) (c1 c2 c3 : Nat) (l1 l2 l3 : List Int) (T : Int) (w : World) (h1 : Rd w a1 l1) (h2 : Rd w a2 l2) (h3 : Rd w a3 l3) (e2 : l1.length = l2.length) (e3 : l1.length = l3.length) (hn : l1.length ≤ 40)
    (hgood : ∀ j, j < l1.length → good (fn l1) (fn l2) (fn l3) j) (hs2 : Sums l2) (hs3 : Sums l3) (hT : Sm.pre (fn l2) l2.length ≤ T) (hT2 : T ≤ Sm.pre (fn l3) l3.length) :
    Calls Try.prog 9 #[.slice a1 l1.length c1, .slice a2 l2.length c2, .slice a3 l3.length c3, .int .i64 T] w (ListPost (tab (Sm.alc (fn l1) (fn l2) (fn l3) l1.length (T - Sm.pre (fn l2) l2.length).toNat) l1.length) w) := by
  have H1 := Lib.hid h1
  have H2 := Lib.hid h2
  have H3 := Lib.hid h3
  have HG := Lib.hid hgood
  have HS := Lib.hid hs2
  have HS3 := Lib.hid hs3
  have E2 := Lib.hid e2
  have E3 := Lib.hid e3
  have S0 := hs2 l2.length (Nat.le_refl _)
  have S3 := hs3 l3.length (Nat.le_refl _)
  generalize hS : Sm.pre (fn l2) l2.length = S at *
  have HSS := Lib.hid hS
  generalize hP : Sm.pre (fn l3) l3.length = P at *
  have HPP := Lib.hid hP
  clear hS hP
  clear h1 h2 h3 hgood hs2 hs3
  rw [← e2, ← e3]
  clear e2 e3
  go_enter Try.func9, Try.ntmps9
  go_wp2
  go_loopw [10, 11, 35] (fun _ _ i wr => ∃ k : Nat, k ≤ l1.length ∧ i = .int .i64 k ∧ Hid (∃ m, wr = w.drewN m)) (fun _ _ i _ => l1.length - (intOf i).toNat)
  case atStart => exact ⟨0, Nat.zero_le _, rfl, 0, rfl⟩
  case round =>
    obtain ⟨k, hk, rfl, hD⟩ := hrel
    by_cases hlt : k < l1.length
    · obtain ⟨b1, o1, rfl, q1⟩ := H1.out.at_ hlt
      obtain ⟨b2, o2, rfl, q2⟩ := H2.out.at_ (show k < l2.length by rw [← E2.out]; exact hlt)
      obtain ⟨b3, o3, rfl, q3⟩ := H3.out.at_ (show k < l3.length by rw [← E3.out]; exact hlt)
      have r1 : wr.cell? ⟨b1, o1 + k, none⟩ = some (.int .i64 (fn l1 k)) := by obtain ⟨m0, e⟩ := hD.out; rw [e]; exact q1
      have r2 : wr.cell? ⟨b2, o2 + k, none⟩ = some (.int .i64 (fn l2 k)) := by obtain ⟨m0, e⟩ := hD.out; rw [e]; exact q2
      have r3 : wr.cell? ⟨b3, o3 + k, none⟩ = some (.int .i64 (fn l3 k)) := by obtain ⟨m0, e⟩ := hD.out; rw [e]; exact q3
      have hD' : Hid (∀ j, ∃ m, wr.drewN j = w.drewN m) := fun j => by obtain ⟨m0, e⟩ := hD.out; exact ⟨_, by rw [e, drewN_drewN]⟩
      obtain ⟨g1, g2, g3, g4, g5⟩ := HG.out k hlt
      clear q1 q2 q3 hD H1 H2 H3
      have hlt' : (k : Int) < (l1.length : Int) := by omega
      generalize fn l1 k = x at r1 g1 g2
      generalize fn l2 k = y at r2 g3 g4
      generalize fn l3 k = z at r3 g4 g5
      have d1 : decide (x < 0) = false := by simp; omega
      have d2 : decide (1000000000 < x) = false := by simp; omega
      have d3 : decide (y < 0) = false := by simp; omega
      have d4 : decide (z < y) = false := by simp; omega
      have d5 : decide (5000 < z) = false := by simp; omega
      clear HG
      go_wp2
      go_quiet (fail)
      go_wp2
      go_roundw
      case rel => exact ⟨k + 1, by omega, by go_num, hD'.out _⟩
      case measure => simp [intOf]; omega
    · obtain rfl : k = l1.length := by omega
      have t2 : Calls Try.prog 23 #[.slice a2 l1.length c2] wr fun e w' => e = .returned (.int .i64 S) ∧ wr = w' := by
        have h := total_c a2 c2 l2 wr (by obtain ⟨m, e⟩ := hD.out; rw [e]; exact H2.out.drewN m) HS.out
        rw [HSS.out] at h
        rw [E2.out]
        exact h
      have t3 : Calls Try.prog 23 #[.slice a3 l1.length c3] wr fun e w' => e = .returned (.int .i64 P) ∧ wr = w' := by
        have h := total_c a3 c3 l3 wr (by obtain ⟨m, e⟩ := hD.out; rw [e]; exact H3.out.drewN m) HS3.out
        rw [HPP.out] at h
        rw [E3.out]
        exact h
      have T2 := Lib.hid t2
      have T3 := Lib.hid t3
      clear t2 t3
      have d : decide (T < S) = false := by simp; omega
      have d9 : decide (P < T) = false := by simp; omega
      go_wp2_with fail
      refine T2.out.mono ?_
      rintro e w' ⟨rfl, rfl⟩
      go_wp2_with fail
      refine T3.out.mono ?_
      rintro e w' ⟨rfl, rfl⟩
      have hcl : Calls Try.prog 21 #[.slice a2 l1.length c2] wr (ClonePost wr l2) := by
        rw [E2.out]
        exact clone_c a2 c2 l2 wr (by obtain ⟨m, e⟩ := hD.out; rw [e]; exact H2.out.drewN m) (by rw [← E2.out]; omega)
      have HCL := Lib.hid hcl
      clear hcl
      go_wp2_with fail
      refine HCL.out.mono ?_
      rintro e w1 ⟨a4, c4, rfl, hb, hrow⟩
      have HB : Hid (Below w.heap.size w w1) := by obtain ⟨m, e⟩ := hD.out; rw [e] at hb; exact (below_drew w m).trans hb
      have HR : Hid (0 < l1.length → ∃ g, a4 = some ⟨g, 0, none⟩ ∧ w.heap.size ≤ g ∧ g < w1.heap.size ∧ RowF w1 g l1.length (fn l2)) := fun h => by
        have h := hrow (by rw [← E2.out]; exact h)
        rw [← E2.out] at h
        obtain ⟨m, e⟩ := hD.out
        rw [e] at h
        exact h
      have t4 : Calls Try.prog 23 #[.slice a2 l1.length c2] w1 fun e w' => e = .returned (.int .i64 S) ∧ w1 = w' := by
        have h := total_c a2 c2 l2 w1 (H2.out.below HB.out) HS.out
        rw [HSS.out] at h
        rw [E2.out]
        exact h
      have T4 := Lib.hid t4
      clear t4 hb hrow T2 T3 HCL hD
      rw [← E2.out]
      go_wp2_with fail
      refine T4.out.mono ?_
      rintro e w' ⟨rfl, rfl⟩
      go_wp2_with fail
      clear d d9 T4
      go_loopw [13, 14, 15, 86] (fun _ _ _ i wr => ∃ r : Nat, (r : Int) ≤ T - S ∧ i = .int .i64 r ∧ Hid (InA w a4 l1.length (Sm.alc (fn l1) (fn l2) (fn l3) l1.length r) wr)) (fun _ _ _ i _ => (T - S - intOf i).toNat)
      case atStart => exact ⟨0, by omega, rfl, HB.out, HR.out⟩
      case round =>
        obtain ⟨r, hr, rfl, hI⟩ := hrel
        by_cases hlt : (r : Int) < T - S
        · have hsum : Sm.pre (fn l2) l1.length + r < Sm.pre (fn l3) l1.length := by
            have e1 := HSS.out
            have e2 := HPP.out
            rw [← E2.out] at e1
            rw [← E3.out] at e2
            omega
          have hn0 : 0 < l1.length := by
            rcases Nat.eq_zero_or_pos l1.length with h | h
            · rw [h] at hsum; simp [Sm.pre] at hsum; omega
            · exact h
          obtain ⟨hfair, hpre⟩ := Sm.alc_ok (fn l1) (fn l2) (fn l3) l1.length (fun j hj => (HG.out j hj).1) (fun j hj => (HG.out j hj).2.2.1) (fun j hj => (HG.out j hj).2.2.2.1) r (by omega)
          have hbst := Sm.bst_there (W := fn l1) hfair.hi (by omega)
          have hNB : Hid (∀ j, j < l1.length → 0 ≤ Sm.alc (fn l1) (fn l2) (fn l3) l1.length r j ∧ Sm.alc (fn l1) (fn l2) (fn l3) l1.length r j ≤ 5000) := fun j hj => by
            have a := HG.out j hj
            unfold good at a
            have b := hfair.lo j hj
            have c := hfair.hi j hj
            omega
          have hstep : Hid (Sm.alc (fn l1) (fn l2) (fn l3) l1.length (r + 1) = fun j => if j = (Sm.bst (fn l1) (Sm.alc (fn l1) (fn l2) (fn l3) l1.length r) (fn l3) l1.length).toNat then Sm.alc (fn l1) (fn l2) (fn l3) l1.length r (Sm.bst (fn l1) (Sm.alc (fn l1) (fn l2) (fn l3) l1.length r) (fn l3) l1.length).toNat + 1 else Sm.alc (fn l1) (fn l2) (fn l3) l1.length r j) := rfl
          obtain ⟨g, rfl, g1, g2, hrow⟩ := hI.out.row hn0
          have bel := Lib.hid hI.out.bel
          have HROW := Lib.hid hrow
          have r1' := Lib.hid (H1.out.below hI.out.bel)
          have r3' := Lib.hid (H3.out.below hI.out.bel)
          obtain ⟨fN, hfN⟩ : ∃ fN, fN = Sm.alc (fn l1) (fn l2) (fn l3) l1.length r := ⟨_, rfl⟩
          rw [← hfN] at hNB hstep HROW hbst
          have G2 := Lib.hid g2
          have HBST := Lib.hid hbst
          clear hI hrow hfair hpre hsum HR HB hfN g2 hbst
          obtain ⟨b1, o1, rfl, _, q1⟩ := r1'.out.2 (by omega)
          obtain ⟨b3, o3, rfl, _, q3⟩ := r3'.out.2 (show 0 < l3.length by rw [← E3.out]; omega)
          have Q1 : Hid (∀ m j, j < l1.length → (wr.drewN m).cell? ⟨b1, o1 + j, none⟩ = some (.int .i64 (fn l1 j))) := fun m j hj => q1 j hj
          have Q3 : Hid (∀ m j, j < l1.length → (wr.drewN m).cell? ⟨b3, o3 + j, none⟩ = some (.int .i64 (fn l3 j))) := fun m j hj => q3 j (by rw [← E3.out]; exact hj)
          have Q2 : Hid (∀ m j, j < l1.length → (wr.drewN m).cell? ⟨g, j, none⟩ = some (.int .i64 (fN j)) ∧ (wr.drewN m).frozen? ⟨g, j, none⟩ = false) := fun m j hj => HROW.out j hj
          clear q1 q3 r1' r3' H1 H2 H3
          go_wp2_with fail
          obtain ⟨wo, hwo⟩ : ∃ wo : World, wo = wr := ⟨_, rfl⟩
          rw [← hwo] at bel HROW Q1 Q2 Q3 G2
          have HWO := Lib.hid hwo
          clear hwo
          go_loopw [13, 14, 15, 90] (fun b _ _ ix wk => ∃ k : Nat, k ≤ l1.length ∧ ix = .int .i64 k ∧ b = .int .i64 (Sm.bst (fn l1) fN (fn l3) k) ∧ Hid (∃ m, wk = wo.drewN m)) (fun _ _ _ ix _ => l1.length - (intOf ix).toNat)
          case atStart => exact ⟨0, Nat.zero_le _, rfl, rfl, 0, HWO.out.symm⟩
          case round =>
            clear HWO
            obtain ⟨k, hk, rfl, rfl, hD⟩ := hrel
            have hD2 : Hid (∀ j, ∃ m, wr.drewN j = wo.drewN m) := fun j => by obtain ⟨m0, e⟩ := hD.out; exact ⟨_, by rw [e, drewN_drewN]⟩
            by_cases hltk : k < l1.length
            · have q1' : Hid (∀ j, j < l1.length → wr.cell? ⟨b1, o1 + j, none⟩ = some (.int .i64 (fn l1 j))) := fun j hj => by obtain ⟨m0, e⟩ := hD.out; rw [e]; exact Q1.out m0 j hj
              have q2' : Hid (∀ j, j < l1.length → wr.cell? ⟨g, j, none⟩ = some (.int .i64 (fN j))) := fun j hj => by obtain ⟨m0, e⟩ := hD.out; rw [e]; exact (Q2.out m0 j hj).1
              have r2 := q2'.out k hltk
              have r1 := q1'.out k hltk
              have r3 : wr.cell? ⟨b3, o3 + k, none⟩ = some (.int .i64 (fn l3 k)) := by obtain ⟨m0, e⟩ := hD.out; rw [e]; exact Q3.out m0 k hltk
              have hltk' : (k : Int) < (l1.length : Int) := by omega
              have lo := Sm.bst_lo (fn l1) fN (fn l3) k
              have hY := Lib.hid (Sm.bst_yes (fn l1) fN (fn l3) k)
              have hX := Lib.hid (Sm.bst_no (fn l1) fN (fn l3) k)
              clear hD bel HROW Q1 Q2 Q3 hstep G2 HBST
              by_cases c1 : fN k < fn l3 k
              · by_cases c2 : Sm.bst (fn l1) fN (fn l3) k < 0
                · have hE := Lib.hid (hY.out c1 (.inl c2))
                  clear hX hY q1' q2'
                  generalize Sm.bst (fn l1) fN (fn l3) k = B at lo c2
                  generalize fn l1 k = x at r1
                  generalize fN k = p at r2 c1
                  generalize fn l3 k = q at r3 c1
                  have d1 : decide (p < q) = true := by simp; omega
                  have d2 : decide (B < 0) = true := by simp; omega
                  go_wp2
                  go_quiet (fail)
                  go_wp2
                  go_roundw
                  case rel => exact ⟨k + 1, by omega, by go_num, by rw [hE.out], hD2.out _⟩
                  case measure => simp [intOf]; omega
                · obtain ⟨jb, hjb⟩ : ∃ jb : Nat, Sm.bst (fn l1) fN (fn l3) k = (jb : Int) := ⟨(Sm.bst (fn l1) fN (fn l3) k).toNat, by omega⟩
                  have r4 := q1'.out jb (by omega)
                  have r5 := q2'.out jb (by omega)
                  obtain ⟨w1, w2, _⟩ := HG.out k hltk
                  obtain ⟨w3, w4, _⟩ := HG.out jb (by omega)
                  obtain ⟨n1, n2⟩ := hNB.out k hltk
                  obtain ⟨n3, n4⟩ := hNB.out jb (by omega)
                  have hjl : (jb : Int) < (l1.length : Int) := by omega
                  rw [hjb] at hX hY
                  simp only [Int.toNat_natCast] at hX hY
                  by_cases c3 : fn l1 jb * (2 * fN k + 1) < fn l1 k * (2 * fN jb + 1)
                  · have hE := Lib.hid (hY.out c1 (.inr c3))
                    rw [hjb]
                    clear hX hY q1' q2' HG hNB lo c2 hjb
                    generalize fn l1 jb = u at *
                    generalize fN jb = v at *
                    generalize fn l1 k = x at *
                    generalize fN k = p at *
                    generalize fn l3 k = q at *
                    have m1 := mul_bd w1 w2 (show (0 : Int) ≤ 2 * v + 1 by omega) (show 2 * v + 1 ≤ 10001 by omega)
                    have m2 := mul_bd w3 w4 (show (0 : Int) ≤ 2 * p + 1 by omega) (show 2 * p + 1 ≤ 10001 by omega)
                    have z1 := wrap_in (2 * v) (by omega) (by omega)
                    have z2 := wrap_in (2 * v + 1) (by omega) (by omega)
                    have z3 := wrap_in (x * (2 * v + 1)) (by omega) (by omega)
                    have z4 := wrap_in (2 * p) (by omega) (by omega)
                    have z5 := wrap_in (2 * p + 1) (by omega) (by omega)
                    have z6 := wrap_in (u * (2 * p + 1)) (by omega) (by omega)
                    have d1 : decide (p < q) = true := by simp; omega
                    have d2 : decide ((jb : Int) < 0) = false := by simp
                    have d3 : decide (u * (2 * p + 1) < x * (2 * v + 1)) = true := by simp only [decide_eq_true_eq]; exact c3
                    clear c3 m1 m2
                    go_wp2
                    go_quiet (fail)
                    go_wp2
                    go_roundw
                    case rel => exact ⟨k + 1, by omega, by go_num, by rw [hE.out], hD2.out _⟩
                    case measure => simp [intOf]; omega
                  · have hE := Lib.hid (hX.out (by omega))
                    rw [hjb]
                    clear hX hY q1' q2' HG hNB lo c2 hjb
                    generalize fn l1 jb = u at *
                    generalize fN jb = v at *
                    generalize fn l1 k = x at *
                    generalize fN k = p at *
                    generalize fn l3 k = q at *
                    have m1 := mul_bd w1 w2 (show (0 : Int) ≤ 2 * v + 1 by omega) (show 2 * v + 1 ≤ 10001 by omega)
                    have m2 := mul_bd w3 w4 (show (0 : Int) ≤ 2 * p + 1 by omega) (show 2 * p + 1 ≤ 10001 by omega)
                    have z1 := wrap_in (2 * v) (by omega) (by omega)
                    have z2 := wrap_in (2 * v + 1) (by omega) (by omega)
                    have z3 := wrap_in (x * (2 * v + 1)) (by omega) (by omega)
                    have z4 := wrap_in (2 * p) (by omega) (by omega)
                    have z5 := wrap_in (2 * p + 1) (by omega) (by omega)
                    have z6 := wrap_in (u * (2 * p + 1)) (by omega) (by omega)
                    have d1 : decide (p < q) = true := by simp; omega
                    have d2 : decide ((jb : Int) < 0) = false := by simp
                    have d3 : decide (u * (2 * p + 1) < x * (2 * v + 1)) = false := by simp only [decide_eq_false_iff_not]; exact c3
                    clear c3 m1 m2
                    go_wp2
                    go_quiet (fail)
                    go_wp2
                    go_roundw
                    case rel => exact ⟨k + 1, by omega, by go_num, by rw [hE.out], hD2.out _⟩
                    case measure => simp [intOf]; omega
              · have hE := Lib.hid (hX.out (fun h => c1 h.1))
                clear hX hY q1' q2'
                generalize Sm.bst (fn l1) fN (fn l3) k = B at *
                generalize fn l1 k = x at *
                generalize fN k = p at *
                generalize fn l3 k = q at *
                have d1 : decide (p < q) = false := by simp; omega
                go_wp2
                go_quiet (fail)
                go_wp2
                go_roundw
                case rel => exact ⟨k + 1, by omega, by go_num, by rw [hE.out], hD2.out _⟩
                case measure => simp [intOf]; omega
            · obtain rfl : k = l1.length := by omega
              have hlo := Sm.bst_lo (fn l1) fN (fn l3) l1.length
              obtain ⟨jb, hjb⟩ : ∃ jb : Nat, Sm.bst (fn l1) fN (fn l3) l1.length = (jb : Int) := ⟨_, (Int.toNat_of_nonneg HBST.out).symm⟩
              have hjl : jb < l1.length := by omega
              have q1 : wr.cell? ⟨g, jb, none⟩ = some (.int .i64 (fN jb)) := by obtain ⟨m0, e⟩ := hD.out; rw [e]; exact (Q2.out m0 jb hjl).1
              have q2 : wr.frozen? ⟨g, jb, none⟩ = false := by obtain ⟨m0, e⟩ := hD.out; rw [e]; exact (Q2.out m0 jb hjl).2
              have b1' := hNB.out jb hjl
              have hN : Hid (InA w (some ⟨g, 0, none⟩) l1.length (Sm.alc (fn l1) (fn l2) (fn l3) l1.length (r + 1)) (wr.setCell ⟨g, jb, none⟩ (.int .i64 (fN jb + 1)))) := by
                obtain ⟨m0, e⟩ := hD.out
                rw [e]
                exact ⟨(below_drewN bel.out m0).setCell (p := ⟨g, jb, none⟩) g1 _, fun _ => ⟨g, rfl, g1, by simpa using G2.out, ((HROW.out.drewN m0).set jb _).congr fun j hj => by rw [hstep.out, hjb]; simp⟩⟩
              rw [hjb]
              clear hD bel HROW Q1 Q2 Q3 hstep G2 HBST hlo hjb HG hNB hD2
              generalize fN jb = p at q1 b1' hN
              have hjl' : (jb : Int) < (l1.length : Int) := by omega
              go_wp2
              go_roundw
              case rel => exact ⟨r + 1, by omega, by go_num, hN.out⟩
              case measure => simp [intOf]; omega
        · have hd : decide ((r : Int) < T - S) = false := by simp; omega
          go_wp2
          go_ret2
          refine ⟨a4, c4, ?_, ?_, hI.out.bel⟩
          · rw [tab_len]; rfl
          · have h := hI.out.rd (by omega)
            rw [show (T - S).toNat = r by omega]
            exact h
end Go.Proofs.Ytaiiobojlipbeaa
