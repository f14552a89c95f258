/-
  Numbers of one digit to the base 10^9 in the reference: trim, order, short.
-/
import Derived.Test.YtecbkfmdpgkdiaaGreatDoorRatRSmall
namespace Go.Proofs.YtecbkfmdpgkdiaaGreatDoor
open Go.RowKit

/-- A row of one digit, that may be 0, before its zeros go. -/
theorem rtrim_c (b o c n : Nat) (w : World) (h1 : 1 ≤ c) (hc9 : c ≤ 9223372036854775807) (hn : n < 1000000000) (hb : b < w.heap.size) (hc : w.cell? ⟨b, o, none⟩ = some (.int .i64 n)) :
    Calls Tryz.prog 46 #[.slice (some ⟨b, o, none⟩) 1 c] w (SmPost n w) := by
  have HB := Lib.hid hb
  have HN := Lib.hid hn
  clear hb hn
  by_cases h0 : n = 0
  · subst h0
    go_enter Tryz.func46, Tryz.ntmps46
    go_wp2
    go_loop [3] (fun i => ∃ k : Nat, k ≤ 1 ∧ i = .int .i64 k) (fun i => (intOf i).toNat)
    case atStart => exact ⟨1, Nat.le_refl _, rfl⟩
    case round =>
      obtain ⟨k, hk, rfl⟩ := hrel
      rcases Nat.eq_zero_or_pos k with h | h
      · subst h
        go_wp2
        go_ret
        exact ⟨_, 0, c, rfl, Sm.zero _ _, Below.refl _ _⟩
      · obtain rfl : k = 1 := by omega
        go_wp2
        go_round
        case rel => exact ⟨0, by omega, rfl⟩
        case measure => simp [intOf]
  · have d : ((n : Int) == 0) = false := by rw [beq_eq_false_iff_ne]; omega
    have d' : (n == 0) = false := by rw [beq_eq_false_iff_ne]; omega
    have HP := Lib.hid (Nat.pos_of_ne_zero h0)
    have HC := Lib.hid hc
    clear h0
    go_enter Tryz.func46, Tryz.ntmps46
    go_wp2
    go_loop [3] (fun i => i = .int .i64 1) (fun _ => 0)
    case atStart => rfl
    case round =>
      obtain rfl := hrel
      go_wp2
      go_ret
      exact ⟨_, 1, c, rfl, .inr ⟨rfl, HP.out, HN.out, b, o, rfl, HB.out, HC.out⟩, Below.refl _ _⟩
theorem rtrim_zero (a : Option Addr) (c : Nat) (w : World) : Calls Tryz.prog 46 #[.slice a 0 c] w (SmPost 0 w) := by
  go_enter Tryz.func46, Tryz.ntmps46
  go_wp2
  go_loop [3] (fun i => i = .int .i64 0) (fun _ => 0)
  case atStart => rfl
  case round =>
    obtain rfl := hrel
    go_wp2
    go_ret
    exact ⟨_, 0, _, rfl, Sm.zero _ _, Below.refl _ _⟩
theorem rorder_c (a1 a2 : Option Addr) (c1 c2 k1 k2 n1 n2 : Nat) (w : World) (h1 : Sm w a1 k1 n1) (h2 : Sm w a2 k2 n2) :
    Calls Tryz.prog 33 #[.slice a1 k1 c1, .slice a2 k2 c2] w fun e w' => e = .returned (.int .i64 (sgn n1 n2)) ∧ ∃ q, w' = w.drewN q := by
  rcases h1 with ⟨rfl, rfl⟩ | ⟨rfl, p1, m1, b1, o1, rfl, _, g1⟩
  · rcases h2 with ⟨rfl, rfl⟩ | ⟨rfl, p2, m2, b2, o2, rfl, _, g2⟩
    · go_enter Tryz.func33, Tryz.ntmps33
      go_wp2
      go_loop [5] (fun i => i = .int .i64 (-1)) (fun _ => 0)
      case atStart => rfl
      case round =>
        obtain rfl := hrel
        go_wp2
        go_ret
        exact ⟨rfl, 0, rfl⟩
    · have e : sgn 0 n2 = -1 := by unfold sgn; rw [if_pos p2]
      rw [e]
      clear e
      go_enter Tryz.func33, Tryz.ntmps33
      go_wp2
      go_ret
      exact ⟨rfl, 0, rfl⟩
  · rcases h2 with ⟨rfl, rfl⟩ | ⟨rfl, p2, m2, b2, o2, rfl, _, g2⟩
    · have e : sgn n1 0 = 1 := by unfold sgn; rw [if_neg (by omega), if_pos p1]
      rw [e]
      clear e
      go_enter Tryz.func33, Tryz.ntmps33
      go_wp2
      go_ret
      exact ⟨rfl, 0, rfl⟩
    · rcases Nat.lt_trichotomy n1 n2 with h | h | h
      · have e : sgn n1 n2 = -1 := by unfold sgn; rw [if_pos h]
        have h2 : (n1 : Int) < (n2 : Int) := by omega
        have hb : ((n1 : Int) == (n2 : Int)) = false := by simp; omega
        have hb' : (n1 == n2) = false := by simp; omega
        rw [e]
        clear e m1 m2 p1 p2 h
        go_enter Tryz.func33, Tryz.ntmps33
        go_wp2
        go_loop [5] (fun i => i = .int .i64 0) (fun _ => 0)
        case atStart => rfl
        case round =>
          obtain rfl := hrel
          go_wp2
          go_quiet (fail)
          go_wp2
          go_quiet (fail)
          go_wp2
          go_ret
          exact ⟨rfl, _, drewN_drewN _ _ _⟩
      · subst h
        have e : sgn n1 n1 = 0 := by unfold sgn; rw [if_neg (by omega), if_neg (by omega)]
        rw [e]
        clear e m1 m2 p1 p2
        go_enter Tryz.func33, Tryz.ntmps33
        go_wp2
        go_loopw [5] (fun i wr => (i = .int .i64 0 ∧ wr = w) ∨ (i = .int .i64 (-1) ∧ ∃ q, wr = w.drewN q)) (fun i _ => (intOf i + 1).toNat)
        case atStart => exact .inl ⟨rfl, rfl⟩
        case round =>
          rcases hrel with ⟨rfl, rfl⟩ | ⟨rfl, hq⟩
          · go_wp2
            go_quiet (fail)
            go_wp2
            go_roundw
            case rel => exact .inr ⟨rfl, _, rfl⟩
            case measure => simp [intOf]
          · have HQ := Lib.hid hq
            clear hq
            go_wp2
            go_ret
            exact ⟨rfl, HQ.out⟩
      · have e : sgn n1 n2 = 1 := by unfold sgn; rw [if_neg (by omega), if_pos h]
        have h2 : ¬ (n1 : Int) < (n2 : Int) := by omega
        have hb : ((n1 : Int) == (n2 : Int)) = false := by simp; omega
        have hb' : (n1 == n2) = false := by simp; omega
        rw [e]
        clear e m1 m2 p1 p2 h
        go_enter Tryz.func33, Tryz.ntmps33
        go_wp2
        go_loop [5] (fun i => i = .int .i64 0) (fun _ => 0)
        case atStart => rfl
        case round =>
          obtain rfl := hrel
          go_wp2
          go_quiet (fail)
          go_wp2
          go_quiet (fail)
          go_wp2
          go_ret
          exact ⟨rfl, _, drewN_drewN _ _ _⟩
/-- A number of one digit, divided: the quotient's digits and the rest. -/
def ShPost (q r : Nat) (w : World) (e : Ending) (w' : World) : Prop := ∃ a k c, e = .returned (.tuple #[.slice a k c, .int .i64 r]) ∧ Sm w' a k q ∧ Below w.heap.size w w'
theorem rshort_zero (a : Option Addr) (c d : Nat) (w : World) (hd : 0 < d) :
    Calls Tryz.prog 52 #[.slice a 0 c, .int .i64 d] w (ShPost (0 / d) (0 % d) w) := by
  have hmk := run_make_row' (P := Tryz.prog) 43 3 (.int .i64 0) 8 Tryz.underlying43 infoI rfl .i64 .i64 0 (by omega) (by omega)
  have hmk' : ∀ w : World, (Instr.makeSlice 43 (.int .i64 0) (.int .i64 0)).run Tryz.prog w = .ok (.slice (some ⟨w.heap.size, 0, none⟩) 0 0) (w.alloc (.cells (madeCells #[.int .i64 0] 0) 3)) := fun w => by simpa using hmk w
  clear hmk hd
  go_enter Tryz.func52, Tryz.ntmps52
  go_wp2_with fail
  have hB := Lib.hid (show Below w.heap.size w (w.alloc (.cells (madeCells #[.int .i64 0] 0) 3)) from (Below.refl _ _).alloc (Nat.le_refl _) _)
  generalize w.alloc (.cells (madeCells #[.int .i64 0] 0) 3) = w1 at hB
  clear hmk'
  go_loop [7, 8] (fun r i => r = .int .i64 0 ∧ i = .int .i64 (-1)) (fun _ _ => 0)
  case atStart => exact ⟨rfl, rfl⟩
  case round =>
    obtain ⟨rfl, rfl⟩ := hrel
    go_wp2_with fail
    refine (rtrim_zero _ _ _).mono ?_
    rintro e w2 ⟨a2, k2, c2, rfl, hl, b2⟩
    have HL := Lib.hid hl
    have HB := Lib.hid (hB.out.trans (b2.mono hB.out.size))
    clear hl b2
    go_wp2
    go_ret2
    exact ⟨a2, k2, c2, by simp, by simpa using HL.out, HB.out⟩
set_option maxRecDepth 100000 in
set_option maxHeartbeats 1000000 in
theorem rshort_c (a : Option Addr) (k c n d : Nat) (w : World) (h : Sm w a k n) (hd : 0 < d) :
    Calls Tryz.prog 52 #[.slice a k c, .int .i64 d] w (ShPost (n / d) (n % d) w) := by
  rcases h with ⟨rfl, rfl⟩ | ⟨rfl, p1, m1, b1, o1, rfl, hb, g1⟩
  · exact rshort_zero a c d w hd
  · have hmk := run_make_row' (P := Tryz.prog) 43 3 (.int .i64 0) 8 Tryz.underlying43 infoI rfl .i64 .i64 1 (by omega) (by omega)
    have hmk' : ∀ w : World, (Instr.makeSlice 43 (.int .i64 1) (.int .i64 1)).run Tryz.prog w = .ok (.slice (some ⟨w.heap.size, 0, none⟩) 1 1) (w.alloc (.cells (madeCells #[.int .i64 0] 1) 3)) := fun w => by simpa using hmk w
    clear hmk
    have hn9 : Hid (n / d < 1000000000) := Nat.lt_of_le_of_lt (Nat.div_le_self n d) m1
    have hq : (n : Int).tdiv (d : Int) = ((n / d : Nat) : Int) := by rw [Int.tdiv_eq_ediv_of_nonneg (by omega)]; exact (Int.natCast_ediv n d).symm
    have hr : (n : Int).tmod (d : Int) = ((n % d : Nat) : Int) := by rw [Int.tmod_eq_emod_of_nonneg (by omega)]; exact (Int.natCast_emod n d).symm
    have hd' : (0 : Int) < (d : Int) := by omega
    have hm1 : (n : Int) < 1000000000 := by omega
    have HQ : Hid (n / d = n / d) := rfl
    have hqle : n / d ≤ n := Nat.div_le_self n d
    generalize hqq : n / d = q at *
    generalize hrr : n % d = r at *
    clear hqq hrr HQ
    go_enter Tryz.func52, Tryz.ntmps52
    go_wp2_with fail
    have hB := Lib.hid (show Below w.heap.size w (w.alloc (.cells (madeCells #[.int .i64 0] 1) 3)) from (Below.refl _ _).alloc (Nat.le_refl _) _)
    have hC : Hid ((w.alloc (.cells (madeCells #[.int .i64 0] 1) 3)).cell? ⟨w.heap.size, 0, none⟩ = some (.int .i64 0)) := by
      unfold Hid; rw [World.cell?_alloc_new]; rw [← Array.getElem?_toList, toList_madeCells_one]; simp
    have hF : Hid ((w.alloc (.cells (madeCells #[.int .i64 0] 1) 3)).frozen? ⟨w.heap.size, 0, none⟩ = false) := by unfold Hid; simp
    have hS : Hid (w.heap.size < (w.alloc (.cells (madeCells #[.int .i64 0] 1) 3)).heap.size) := by unfold Hid; simp
    have hg : Hid ((w.alloc (.cells (madeCells #[.int .i64 0] 1) 3)).cell? ⟨b1, o1, none⟩ = some (.int .i64 n)) := by unfold Hid; rw [World.cell?_alloc_lt _ _ _ hb]; exact g1
    generalize w.alloc (.cells (madeCells #[.int .i64 0] 1) 3) = w1 at *
    clear hmk' g1 hb
    go_loopw [7, 8] (fun x i wr => (x = .int .i64 0 ∧ i = .int .i64 0 ∧ Hid (wr = w1)) ∨ (x = .int .i64 r ∧ i = .int .i64 (-1) ∧ Hid (wr = w1.setCell ⟨w.heap.size, 0, none⟩ (.int .i64 q)))) (fun _ i _ => (intOf i + 1).toNat)
    case atStart => exact .inl ⟨rfl, rfl, rfl⟩
    case round =>
      rcases hrel with ⟨rfl, rfl, hw⟩ | ⟨rfl, rfl, hw⟩
      · have c1 : wr.cell? ⟨w.heap.size, 0, none⟩ = some (.int .i64 0) := by rw [hw.out]; exact hC.out
        have c2 : wr.cell? ⟨b1, o1, none⟩ = some (.int .i64 n) := by rw [hw.out]; exact hg.out
        have c3 : wr.frozen? ⟨w.heap.size, 0, none⟩ = false := by rw [hw.out]; exact hF.out
        go_wp2
        go_roundw
        case rel => exact .inr ⟨by first | rfl | simp, rfl, by rw [hw.out]; rfl⟩
        case measure => simp [intOf]
      · have hb2 : Hid (Below w.heap.size w wr) := by unfold Hid; rw [hw.out]; exact hB.out.setCell (p := ⟨w.heap.size, 0, none⟩) (Nat.le_refl _) _
        have hc2 : wr.cell? ⟨w.heap.size, 0, none⟩ = some (.int .i64 q) := by
          rw [hw.out]; exact World.cell?_setCell_same _ _ _ hC.out
        have hs2 : Hid (w.heap.size < wr.heap.size) := by unfold Hid; rw [hw.out]; simpa using hS.out
        have HC2 := Lib.hid hc2
        clear hc2 hw
        go_wp2_with fail
        refine (rtrim_c w.heap.size 0 1 q wr (Nat.le_refl _) (by omega) hn9.out hs2.out HC2.out).mono ?_
        rintro e w2 ⟨a2, k2, c2, rfl, hl, b2⟩
        have HL := Lib.hid hl
        have HB := Lib.hid (hb2.out.trans (b2.mono hb2.out.size))
        clear hl b2
        go_wp2
        go_ret2
        exact ⟨a2, k2, c2, rfl, HL.out, HB.out⟩
end Go.Proofs.YtecbkfmdpgkdiaaGreatDoor
