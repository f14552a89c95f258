/-
  Numbers of one limb in package whole: order, division, the greatest common divisor.
-/
import Derived.Test.YtecbkfmdpgkdiaaGreatDoorRows
import Derived.Test.YtecbkfmdpgkdiaaGreatDoorShelf
import Derived.WalkKit
import Derived.WalkSpells
import Derived.Deep.QuietTactic
import Derived.BigQuiet
import Derived.RegionTactic
import Derived.OneCell
import Derived.Deep.OwnRows
import Derived.Lib.Hide
import Derived.IntWalk
import Derived.Below
import Derived.WalkSmall
namespace Go.Proofs.YtecbkfmdpgkdiaaGreatDoor
open Go.RowKit

theorem ret_int {k : IntKind} {a b : Int} (h : a = b) : Ending.returned (.int k a) = .returned (.int k b) := by rw [h]
theorem drewN_drewN (w : World) (a b : Nat) : (w.drewN a).drewN b = w.drewN (a + b) := by simp [World.drewN, Nat.add_assoc]
theorem below_drew (w : World) (m : Nat) : Below w.heap.size w (w.drewN m) := below_drewN (Below.refl _ _) _
theorem infoU : (Tryz.prog.info? 87).map (fun i => (i.zero, i.size, i.bytes)) = some (some (.int .u64 0), 1, 8) := by kernel_rfl

/-- A row of limbs that reads as a number of at most one limb, less than 2^63. -/
def Lm (w : World) (a : Option Addr) (k n : Nat) : Prop :=
  (k = 0 ∧ n = 0) ∨ (k = 1 ∧ 0 < n ∧ n ≤ 9223372036854775807 ∧ ∃ b off, a = some ⟨b, off, none⟩ ∧ b < w.heap.size ∧ w.cell? ⟨b, off, none⟩ = some (.int .u64 n))
theorem Lm.below {w w' : World} {a : Option Addr} {k n : Nat} (h : Lm w a k n) (hb : Below w.heap.size w w') : Lm w' a k n := by
  rcases h with h | ⟨h1, h2, h3, b, off, e, hl, hc⟩
  · exact .inl h
  · exact .inr ⟨h1, h2, h3, b, off, e, Nat.lt_of_lt_of_le hl hb.size, by rw [hb.cell (p := ⟨b, off, none⟩) hl]; exact hc⟩
theorem Lm.zero (w : World) (a : Option Addr) : Lm w a 0 0 := .inl ⟨rfl, rfl⟩
/-- The order of two numbers. -/
def sgn (x y : Nat) : Int := if x < y then -1 else if y < x then 1 else 0

theorem isNaN_c (x : Int) (w : World) : Calls Tryz.prog 114 #[.int .u64 x] w fun e w' => e = .returned (.bool false) ∧ w = w' := by
  go_enter Tryz.func114, Tryz.ntmps114
  go_wp2
  go_ret
  exact ⟨rfl, rfl⟩
theorem cmpU_c (x y : Nat) (w : World) : Calls Tryz.prog 98 #[.int .u64 x, .int .u64 y] w fun e w' => e = .returned (.int .i64 (sgn x y)) ∧ w = w' := by
  rcases Nat.lt_trichotomy x y with h | h | h
  · have e : sgn x y = -1 := by unfold sgn; rw [if_pos h]
    have d : decide (x < y) = true := by simp; omega
    rw [e]
    clear e
    go_enter Tryz.func98, Tryz.ntmps98
    go_wp2_with (go_at_call 114; refine (isNaN_c _ _).mono ?_; rintro e w' ⟨rfl, rfl⟩)
    go_ret
    exact ⟨rfl, rfl⟩
  · subst h
    have e : sgn x x = 0 := by unfold sgn; rw [if_neg (by omega), if_neg (by omega)]
    rw [e]
    clear e
    go_enter Tryz.func98, Tryz.ntmps98
    go_wp2_with (go_at_call 114; refine (isNaN_c _ _).mono ?_; rintro e w' ⟨rfl, rfl⟩)
    go_ret
    exact ⟨rfl, rfl⟩
  · have e : sgn x y = 1 := by unfold sgn; rw [if_neg (by omega), if_pos h]
    have d : decide (x < y) = false := by simp; omega
    have d2 : decide (y < x) = true := by simp; omega
    rw [e]
    clear e
    go_enter Tryz.func98, Tryz.ntmps98
    go_wp2_with (go_at_call 114; refine (isNaN_c _ _).mono ?_; rintro e w' ⟨rfl, rfl⟩)
    go_ret
    exact ⟨rfl, rfl⟩

set_option maxHeartbeats 1000000 in
theorem compare_c (a1 a2 : Option Addr) (c1 c2 k1 k2 n1 n2 : Nat) (w : World) (h1 : Lm w a1 k1 n1) (h2 : Lm w a2 k2 n2) :
    Calls Tryz.prog 82 #[.slice a1 k1 c1, .slice a2 k2 c2] w fun e w' => e = .returned (.int .i64 (sgn n1 n2)) ∧ ∃ q, w' = w.drewN q := by
  rcases h1 with ⟨rfl, rfl⟩ | ⟨rfl, p1, m1, b1, o1, rfl, _, g1⟩
  · rcases h2 with ⟨rfl, rfl⟩ | ⟨rfl, p2, m2, b2, o2, rfl, _, g2⟩
    · go_enter Tryz.func82, Tryz.ntmps82
      go_wp2
      go_loop [5] (fun i => i = .int .i64 (-1)) (fun _ => 0)
      case atStart => rfl
      case round =>
        obtain rfl := hrel
        go_wp2
        go_ret
        exact ⟨rfl, 0, rfl⟩
    · have e : sgn 0 n2 = -1 := by unfold sgn; rw [if_pos p2]
      have ec : Lib.compareInt (0 : Int) 1 = -1 := by decide
      rw [e]
      clear e
      go_enter Tryz.func82, Tryz.ntmps82
      go_wp2_with (go_at_call 97; refine (Tryz.cmp_Compare_int _ _ _).mono ?_; rintro e w' ⟨rfl, rfl⟩)
      go_ret
      exact ⟨ret_int ec, 0, rfl⟩
  · rcases h2 with ⟨rfl, rfl⟩ | ⟨rfl, p2, m2, b2, o2, rfl, _, g2⟩
    · have e : sgn n1 0 = 1 := by unfold sgn; rw [if_neg (by omega), if_pos p1]
      have ec : Lib.compareInt (1 : Int) 0 = 1 := by decide
      rw [e]
      clear e
      go_enter Tryz.func82, Tryz.ntmps82
      go_wp2_with (go_at_call 97; refine (Tryz.cmp_Compare_int _ _ _).mono ?_; rintro e w' ⟨rfl, rfl⟩)
      go_ret
      exact ⟨ret_int ec, 0, rfl⟩
    · by_cases hn : n1 = n2
      · subst hn
        have e : sgn n1 n1 = 0 := by unfold sgn; rw [if_neg (by omega), if_neg (by omega)]
        rw [e]
        clear e
        go_enter Tryz.func82, Tryz.ntmps82
        go_wp2_with fail
        go_loopw [5] (fun i wr => (i = .int .i64 0 ∧ wr = w) ∨ (i = .int .i64 (-1) ∧ ∃ q, wr = w.drewN q)) (fun i _ => (intOf i + 1).toNat)
        case atStart => exact .inl ⟨rfl, rfl⟩
        case round =>
          rcases hrel with ⟨rfl, rfl⟩ | ⟨rfl, hq⟩
          · go_wp2
            go_quiet (fail)
            go_wp2
            go_roundw
            case rel => exact .inr ⟨rfl, _, rfl⟩
            case measure => simp [intOf]
          · have HQ := Lib.hid hq
            clear hq
            go_wp2
            go_ret
            exact ⟨rfl, HQ.out⟩
      · have hb : ((n1 : Int) == (n2 : Int)) = false := by simp; omega
        have hb' : (n1 == n2) = false := by simp; omega
        have hc := Lib.hid (fun w => cmpU_c n1 n2 w)
        clear hn
        go_enter Tryz.func82, Tryz.ntmps82
        go_wp2_with fail
        go_loop [5] (fun i => i = .int .i64 0) (fun _ => 0)
        case atStart => rfl
        case round =>
          obtain rfl := hrel
          go_wp2
          go_quiet (fail)
          go_wp2_with fail
          generalize hw1 : w.drewN _ = w1
          have g1' : w1.cell? ⟨b1, o1, none⟩ = some (.int .u64 n1) := by rw [← hw1]; exact g1
          have g2' : w1.cell? ⟨b2, o2, none⟩ = some (.int .u64 n2) := by rw [← hw1]; exact g2
          have HW := Lib.hid hw1
          clear hw1 g1 g2
          go_quiet ((go_at_call 98; exact Calls.quiet_of_same ((hc.out _).mono fun e w' h => ⟨h.1, h.2.symm⟩)))
          go_wp2
          go_ret
          exact ⟨rfl, by rw [← HW.out]; exact ⟨_, drewN_drewN _ _ _⟩⟩
/-- A number of one limb, divided: the quotient's limbs and the rest. -/
def DivPost (q r : Nat) (w : World) (e : Ending) (w' : World) : Prop := ∃ a k c, e = .returned (.tuple #[.slice a k c, .int .u64 r]) ∧ Lm w' a k q ∧ Below w.heap.size w w'
def LmPost (n : Nat) (w : World) (e : Ending) (w' : World) : Prop := ∃ a k c, e = .returned (.slice a k c) ∧ Lm w' a k n ∧ Below w.heap.size w w'
/-- A row of one cell, that may be 0, before its zeros go. -/
theorem trim_c (b o c n : Nat) (w : World) (h1 : 1 ≤ c) (hc9 : c ≤ 9223372036854775807) (hn : n ≤ 9223372036854775807) (hb : b < w.heap.size) (hc : w.cell? ⟨b, o, none⟩ = some (.int .u64 n)) :
    Calls Tryz.prog 77 #[.slice (some ⟨b, o, none⟩) 1 c] w (LmPost n w) := by
  have HB := Lib.hid hb
  clear hb
  by_cases h0 : n = 0
  · subst h0
    go_enter Tryz.func77, Tryz.ntmps77
    go_wp2
    go_loop [0] (fun s => ∃ k : Nat, k ≤ 1 ∧ s = .slice (some ⟨b, o, none⟩) k c) (fun s => match s with | .slice _ k _ => k | _ => 0)
    case atStart => exact ⟨1, Nat.le_refl _, rfl⟩
    case round =>
      obtain ⟨k, hk, rfl⟩ := hrel
      rcases Nat.eq_zero_or_pos k with h | h
      · subst h
        go_wp2
        go_ret
        exact ⟨_, 0, c, rfl, Lm.zero _ _, Below.refl _ _⟩
      · obtain rfl : k = 1 := by omega
        go_wp2
        go_round
        case rel => exact ⟨0, by omega, rfl⟩
        case measure => simp
  · have d : ((n : Int) == 0) = false := by rw [beq_eq_false_iff_ne]; omega
    have d' : (n == 0) = false := by rw [beq_eq_false_iff_ne]; omega
    have p := Nat.pos_of_ne_zero h0
    have HP := Lib.hid p
    have HC := Lib.hid hc
    clear h0 p
    go_enter Tryz.func77, Tryz.ntmps77
    go_wp2
    go_loop [0] (fun s => s = .slice (some ⟨b, o, none⟩) 1 c) (fun _ => 0)
    case atStart => rfl
    case round =>
      obtain rfl := hrel
      go_wp2
      go_ret
      exact ⟨_, 1, c, rfl, .inr ⟨rfl, HP.out, hn, b, o, rfl, HB.out, HC.out⟩, Below.refl _ _⟩
theorem trim_zero (a : Option Addr) (c : Nat) (w : World) : Calls Tryz.prog 77 #[.slice a 0 c] w (LmPost 0 w) := by
  go_enter Tryz.func77, Tryz.ntmps77
  go_wp2
  go_loop [0] (fun s => s = .slice a 0 c) (fun _ => 0)
  case atStart => rfl
  case round =>
    obtain rfl := hrel
    go_wp2
    go_ret
    exact ⟨a, 0, c, rfl, Lm.zero _ _, Below.refl _ _⟩
theorem quo_u (x y : Nat) (hx : x ≤ 9223372036854775807) : IntKind.u64.wrap ((x : Int) / (y : Int)) = ((x / y : Nat) : Int) := by
  have h := Nat.div_le_self x y
  rw [IntKind.wrap_u64, ← Int.natCast_ediv]
  generalize x / y = z at *
  omega
theorem rem_u (x y : Nat) : (x : Int) % (y : Int) = ((x % y : Nat) : Int) := (Int.natCast_emod x y).symm
theorem div64_c (x y : Nat) (w : World) (hy : 0 < y) (hx : x ≤ 9223372036854775807) : Calls Tryz.prog 76 #[.int .u64 0, .int .u64 x, .int .u64 y] w fun e w' => e = .returned (.tuple #[.int .u64 (x / y : Nat), .int .u64 (x % y : Nat)]) ∧ ∃ q, w' = w.drewN q := by
  have h1 : ((y : Int) == 0) = false := by rw [beq_eq_false_iff_ne]; omega
  have h1' : (y == 0) = false := by rw [beq_eq_false_iff_ne]; omega
  have h2 : decide ((y : Int) ≤ 0) = false := by rw [decide_eq_false_iff_not]; omega
  have h2' : decide (y ≤ 0) = false := by rw [decide_eq_false_iff_not]; omega
  have hq := Lib.hid (quo_u x y hx)
  have hr := Lib.hid (rem_u x y)
  go_enter Tryz.func76, Tryz.ntmps76
  go_wp2
  go_quiet (fail)
  go_wp2
  go_ret2
  refine ⟨?_, _, rfl⟩
  rw [← hq.out, ← hr.out]
  rfl

set_option maxHeartbeats 1000000 in
theorem divideShort_c (a : Option Addr) (k c n d : Nat) (w : World) (h : Lm w a k n) (hd : 0 < d) :
    Calls Tryz.prog 63 #[.slice a k c, .int .u64 d] w (DivPost (n / d) (n % d) w) := by
  rcases h with ⟨rfl, rfl⟩ | ⟨rfl, p1, m1, b1, o1, rfl, hb, g1⟩
  · have hmk := run_make_row' (P := Tryz.prog) 61 87 (.int .u64 0) 8 Tryz.underlying61 infoU rfl .i64 .i64 0 (by omega) (by omega)
    have hmk' : ∀ w : World, (Instr.makeSlice 61 (.int .i64 0) (.int .i64 0)).run Tryz.prog w = .ok (.slice (some ⟨w.heap.size, 0, none⟩) 0 0) (w.alloc (.cells (madeCells #[.int .u64 0] 0) 87)) := fun w => by simpa using hmk w
    clear hmk
    go_enter Tryz.func63, Tryz.ntmps63
    go_wp2_with fail
    have hB := Lib.hid (show Below w.heap.size w (w.alloc (.cells (madeCells #[.int .u64 0] 0) 87)) from (Below.refl _ _).alloc (Nat.le_refl _) _)
    generalize w.alloc (.cells (madeCells #[.int .u64 0] 0) 87) = w1 at hB
    clear hmk'
    go_loop [7, 8] (fun r i => r = .int .u64 0 ∧ i = .int .i64 (-1)) (fun _ _ => 0)
    case atStart => exact ⟨rfl, rfl⟩
    case round =>
      obtain ⟨rfl, rfl⟩ := hrel
      go_wp2_with fail
      refine (trim_zero _ _ _).mono ?_
      rintro e w2 ⟨a2, k2, c2, rfl, hl, b2⟩
      have HL := Lib.hid hl
      have HB := Lib.hid (hB.out.trans (b2.mono hB.out.size))
      clear hl b2
      go_wp2
      go_ret2
      exact ⟨a2, k2, c2, by simp, by simpa using HL.out, HB.out⟩
  · have hmk := run_make_row' (P := Tryz.prog) 61 87 (.int .u64 0) 8 Tryz.underlying61 infoU rfl .i64 .i64 1 (by omega) (by omega)
    have hmk' : ∀ w : World, (Instr.makeSlice 61 (.int .i64 1) (.int .i64 1)).run Tryz.prog w = .ok (.slice (some ⟨w.heap.size, 0, none⟩) 1 1) (w.alloc (.cells (madeCells #[.int .u64 0] 1) 87)) := fun w => by simpa using hmk w
    clear hmk
    have HD := Lib.hid (fun w => div64_c n d w hd m1)
    have HN : Hid (n / d ≤ 9223372036854775807) := Nat.le_trans (Nat.div_le_self n d) m1
    clear hd
    go_enter Tryz.func63, Tryz.ntmps63
    go_wp2_with fail
    have hB := Lib.hid (show Below w.heap.size w (w.alloc (.cells (madeCells #[.int .u64 0] 1) 87)) from (Below.refl _ _).alloc (Nat.le_refl _) _)
    have hC : Hid ((w.alloc (.cells (madeCells #[.int .u64 0] 1) 87)).cell? ⟨w.heap.size, 0, none⟩ = some (.int .u64 0)) := by
      unfold Hid; rw [World.cell?_alloc_new]; rw [← Array.getElem?_toList, toList_madeCells_one]; simp
    have hF : Hid ((w.alloc (.cells (madeCells #[.int .u64 0] 1) 87)).frozen? ⟨w.heap.size, 0, none⟩ = false) := by unfold Hid; simp
    have hS : Hid (w.heap.size < (w.alloc (.cells (madeCells #[.int .u64 0] 1) 87)).heap.size) := by unfold Hid; simp
    have hg : Hid ((w.alloc (.cells (madeCells #[.int .u64 0] 1) 87)).cell? ⟨b1, o1, none⟩ = some (.int .u64 n)) := by unfold Hid; rw [World.cell?_alloc_lt _ _ _ hb]; exact g1
    generalize w.alloc (.cells (madeCells #[.int .u64 0] 1) 87) = w1 at *
    clear hmk' g1
    go_loopw [7, 8] (fun r i wr => (r = .int .u64 0 ∧ i = .int .i64 0 ∧ Hid (wr = w1)) ∨ (r = .int .u64 (n % d : Nat) ∧ i = .int .i64 (-1) ∧ ∃ q, Hid (wr = (w1.drewN q).setCell ⟨w.heap.size, 0, none⟩ (.int .u64 (n / d : Nat))))) (fun _ i _ => (intOf i + 1).toNat)
    case atStart => exact .inl ⟨rfl, rfl, rfl⟩
    case round =>
      rcases hrel with ⟨rfl, rfl, hw⟩ | ⟨rfl, rfl, q, hw⟩
      · have c1 : wr.cell? ⟨w.heap.size, 0, none⟩ = some (.int .u64 0) := by rw [hw.out]; exact hC.out
        have c2 : wr.cell? ⟨b1, o1, none⟩ = some (.int .u64 n) := by rw [hw.out]; exact hg.out
        have c3 : wr.frozen? ⟨w.heap.size, 0, none⟩ = false := by rw [hw.out]; exact hF.out
        go_wp2_with (go_at_call 76; refine (HD.out _).mono ?_; rintro e w' ⟨rfl, q, rfl⟩)
        go_roundw
        case rel => exact .inr ⟨rfl, rfl, q, by rw [hw.out]; rfl⟩
        case measure => simp [intOf]
      · have hb2 : Hid (Below w.heap.size w wr) := by unfold Hid; rw [hw.out]; exact (below_drewN hB.out q).setCell (p := ⟨w.heap.size, 0, none⟩) (Nat.le_refl _) _
        have hc2 : wr.cell? ⟨w.heap.size, 0, none⟩ = some (.int .u64 (n / d : Nat)) := by
          rw [hw.out]; exact World.cell?_setCell_same _ _ _ (show (w1.drewN q).cell? _ = some (.int .u64 0) from hC.out)
        have hs2 : w.heap.size < wr.heap.size := by rw [hw.out]; simpa using hS.out
        have HT := Lib.hid (trim_c w.heap.size 0 1 (n / d) wr (Nat.le_refl _) (by omega) HN.out hs2 hc2)
        clear hc2 hs2
        go_wp2_with fail
        refine HT.out.mono ?_
        rintro e w2 ⟨a2, k2, c2, rfl, hl, b2⟩
        have HL := Lib.hid hl
        have HB := Lib.hid (hb2.out.trans (b2.mono hb2.out.size))
        clear hl b2
        go_wp2
        go_ret2
        exact ⟨a2, k2, c2, rfl, HL.out, HB.out⟩

theorem commonLimb_c (x y : Nat) (w : World) (hx : x ≤ 9223372036854775807) (hy : y ≤ 9223372036854775807) :
    Calls Tryz.prog 86 #[.int .u64 x, .int .u64 y] w fun e w' => e = .returned (.int .u64 (Nat.gcd x y)) ∧ ∃ q, w' = w.drewN q := by
  obtain ⟨G, hG⟩ : ∃ G, G = Nat.gcd x y := ⟨_, rfl⟩
  rw [← hG]
  have HG := Lib.hid hG
  clear hG
  go_enter Tryz.func86, Tryz.ntmps86
  go_wp2
  go_loopw [0, 1] (fun a b wr => ∃ p q : Nat, p ≤ 9223372036854775807 ∧ q ≤ 9223372036854775807 ∧ a = .int .u64 p ∧ b = .int .u64 q ∧ Hid (G = Nat.gcd p q) ∧ Hid (∃ m, wr = w.drewN m)) (fun _ b _ => (intOf b).toNat)
  case atStart => exact ⟨x, y, hx, hy, rfl, rfl, HG.out, 0, rfl⟩
  case round =>
    obtain ⟨p, q, hp, hq, rfl, rfl, hE, hD⟩ := hrel
    clear HG
    have hD' : Hid (∀ j, ∃ m, wr.drewN j = w.drewN m) := fun j => by obtain ⟨m0, e⟩ := hD.out; exact ⟨_, by rw [e, drewN_drewN]⟩
    by_cases h0 : 0 < q
    · have d1 : decide (0 < (q : Int)) = true := by rw [decide_eq_true_eq]; omega
      have d1' : decide (0 < q) = true := by rw [decide_eq_true_eq]; omega
      have hne : ((q : Int) == 0) = false := by rw [beq_eq_false_iff_ne]; omega
      have hm := Nat.mod_lt p h0
      have hr := Lib.hid (rem_u p q)
      have hE' : Hid (G = Nat.gcd q (p % q)) := by unfold Hid; rw [hE.out, Nat.gcd_comm, Nat.gcd_rec, Nat.gcd_comm]
      clear hE hD
      go_wp2
      go_quiet (fail)
      go_wp2
      go_roundw
      case rel => exact ⟨q, p % q, hq, by omega, rfl, by rw [hr.out], hE'.out, hD'.out _⟩
      case measure => simp [intOf]; rw [hr.out]; omega
    · obtain rfl : q = 0 := by omega
      have hE' : Hid (p = G) := by unfold Hid; rw [hE.out]; simp
      clear h0 hE
      go_wp2
      go_ret
      exact ⟨by rw [← hE'.out]; rfl, hD.out⟩
end Go.Proofs.YtecbkfmdpgkdiaaGreatDoor
