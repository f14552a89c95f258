/-
  Numbers of any size: a row times a limb.
  Numbers of any size: their order.
  Numbers of the reference: needless zeros go; the order.
-/
import Derived.Test.YtdkphfafcmogmaaGreatDoorMo03
import Derived.Shelf.Spec.BitsCarry
namespace Go.Proofs.YtdkphfafcmogmaaGreatDoor
open Go.RowKit

theorem add64 (x y c : Nat) (hx : x < 18446744073709551616) (hy : y < 18446744073709551616) (hc : c ≤ 1) (w : World) :
    (callFunc 115 #[.int .u64 x, .int .u64 y, .int .u64 c]).run Tryz.prog w = .ok (.value (.tuple #[.int .u64 (((x + y + c) % 18446744073709551616 : Nat) : Int), .int .u64 (((x + y + c) / 18446744073709551616 : Nat) : Int)])) w := by
  rw [run_callFunc_extern Tryz.func115 (by kernel_rfl) (by kernel_rfl) (by kernel_rfl) (e := add64Entry) (by kernel_rfl), run_add64 x y c (by omega) (by omega) (by omega) (by omega)]
  simp only [Result.andThen]
  congr 5 <;> omega
theorem sub64 (x y b : Nat) (hb : b ≤ 1) (w : World) :
    (callFunc 128 #[.int .u64 x, .int .u64 y, .int .u64 b]).run Tryz.prog w = .ok (.value (.tuple #[.int .u64 (((x + 18446744073709551616 - y - b) % 18446744073709551616 : Nat) : Int), .int .u64 ((if x < y + b then 1 else 0 : Nat) : Int)])) w := by
  rw [run_callFunc_extern Tryz.func128 (by kernel_rfl) (by kernel_rfl) (by kernel_rfl) (e := sub64Entry) (by kernel_rfl), run_sub64 x y b hb]
  rfl
/-- A sum with a carry, as the walk meets it. -/
theorem adds {zx zy zc : Int} (x y c : Nat) (ex : zx = (x : Int)) (ey : zy = (y : Int)) (ec : zc = (c : Int)) (hx : x < 18446744073709551616) (hy : y < 18446744073709551616) (hc : c ≤ 1) : ∃ s d : Nat,
    (∀ w, (callFunc 115 #[.int .u64 zx, .int .u64 zy, .int .u64 zc]).run Tryz.prog w = .ok (.value (.tuple #[.int .u64 (s : Int), .int .u64 (d : Int)])) w) ∧
    x + y + c = s + d * 18446744073709551616 ∧ s < 18446744073709551616 ∧ d ≤ 1 := by
  subst ex ey ec
  exact ⟨(x + y + c) % 18446744073709551616, (x + y + c) / 18446744073709551616, add64 x y c hx hy hc, by have := Nat.div_add_mod (x + y + c) 18446744073709551616; omega, Nat.mod_lt _ (by decide), by omega⟩
/-- A difference with a borrow. -/
theorem subs {zx zy zb : Int} (x y b : Nat) (ex : zx = (x : Int)) (ey : zy = (y : Int)) (eb : zb = (b : Int)) (hx : x < 18446744073709551616) (hy : y < 18446744073709551616) (hb : b ≤ 1) : ∃ s d : Nat,
    (∀ w, (callFunc 128 #[.int .u64 zx, .int .u64 zy, .int .u64 zb]).run Tryz.prog w = .ok (.value (.tuple #[.int .u64 (s : Int), .int .u64 (d : Int)])) w) ∧
    s + (y + b) = x + d * 18446744073709551616 ∧ s < 18446744073709551616 ∧ d ≤ 1 := by
  subst ex ey eb
  refine ⟨(x + 18446744073709551616 - y - b) % 18446744073709551616, if x < y + b then 1 else 0, sub64 x y b hb, ?_, Nat.mod_lt _ (by decide), ?_⟩
  · split <;> omega
  · split <;> omega
theorem mul64_c (x y : Nat) (hx : x < 18446744073709551616) (hy : y < 18446744073709551616) (w : World) :
    Calls Tryz.prog 107 #[.int .u64 x, .int .u64 y] w fun e w' => e = .returned (.tuple #[.int .u64 ((x * y / 18446744073709551616 : Nat) : Int), .int .u64 ((x * y % 18446744073709551616 : Nat) : Int)]) ∧ w' = w := Tryz.bits_Mul64 x y hx hy w
theorem muls (x y : Nat) (hx : x < 18446744073709551616) (hy : y < 18446744073709551616) : ∃ h l : Nat, (∀ w, Calls Tryz.prog 107 #[.int .u64 x, .int .u64 y] w fun e w' => e = .returned (.tuple #[.int .u64 (h : Int), .int .u64 (l : Int)]) ∧ w' = w) ∧
    x * y = l + h * 18446744073709551616 ∧ l < 18446744073709551616 ∧ h ≤ 18446744073709551614 := by
  refine ⟨_, _, mul64_c x y hx hy, by have := Nat.div_add_mod (x * y) 18446744073709551616; omega, Nat.mod_lt _ (by decide), ?_⟩
  have a : x * y ≤ 18446744073709551615 * 18446744073709551615 := Nat.mul_le_mul (by omega) (by omega)
  generalize x * y = z at *
  omega
set_option maxRecDepth 100000 in
set_option maxHeartbeats 2000000 in
theorem timesPlus_c (a : Option Addr) (k c n t m : Nat) (w : World) (h : Nm w a k c n) (ht : t < 18446744073709551616) (hm : m < 18446744073709551616) (hn : n < bp 2000) :
    Calls Tryz.prog 89 #[.slice a k c, .int .u64 t, .int .u64 m] w (NmPost (n * t + m) w) := by
  have hk2 := h.len hn
  obtain ⟨f, hr, hkc, hc, htop, hs, _⟩ := h
  have hmk := fun w => mk_limbsI ((k : Int) + 1) (k + 1) (by omega) (by omega) w
  have H := Lib.hid hr
  have HS := Lib.hid hs
  clear hr hs htop hn
  go_enter Tryz.func89, Tryz.ntmps89
  go_wp2_with fail
  have B0 := Lib.hid (Bf.made w (k + 1) 81)
  have BL : Hid (Below w.heap.size w (w.alloc (.cells (madeCells #[.int .u64 0] (k + 1)) 81))) := bel_one _ _
  generalize hW1 : w.alloc (.cells (madeCells #[.int .u64 0] (k + 1)) 81) = W1 at *
  clear hW1 hmk
  go_loopw [2, 19] (fun v i wr => ∃ (j y : Nat) (g : Nat → Nat), j ≤ k ∧ i = .int .i64 j ∧ v = .int .u64 y ∧ y < 18446744073709551616 ∧ Hid (Bf wr w.heap.size (k + 1) g ∧ Below w.heap.size w wr ∧ S g j + y * bp j = t * S f j + m)) (fun _ i _ => k - (intOf i).toNat)
  case atStart => exact ⟨0, m, fun _ => 0, Nat.zero_le _, rfl, rfl, hm, B0.out, BL.out, by rw [S_zero, S_zero, bp_zero]; omega⟩
  case round =>
    obtain ⟨j, y, g, hj, rfl, rfl, hy, hR⟩ := hrel
    by_cases hlt : j < k
    · have hlt' : (j : Int) < (k : Int) := by omega
      obtain ⟨b, off, rfl, hb, hc1⟩ := (H.out.below hR.out.2.1).at_ hlt
      have hx := H.out.2.1 j hlt
      obtain ⟨hi, lo, hmul, hm1, hm2, hm3⟩ := muls (f j) t hx ht
      have HMUL := Lib.hid hmul
      obtain ⟨s, d, hadd, ha1, ha2, ha3⟩ := adds lo y 0 rfl rfl (show (0 : Int) = ((0 : Nat) : Int) from rfl) hm2 hy (by omega)
      have hBj := hR.out.1.2.2 j (by omega)
      have hc2 := hBj.1
      have hf2 := hBj.2
      have NB := Lib.hid (hR.out.1.put (i := j) (x := s) (by omega) ha2)
      have NX : Hid (Bf (wr.setCell ⟨w.heap.size, j, none⟩ (.int .u64 s)) w.heap.size (k + 1) (put g j s) ∧ Below w.heap.size w (wr.setCell ⟨w.heap.size, j, none⟩ (.int .u64 s)) ∧ S (put g j s) (j + 1) + (hi + d) * bp (j + 1) = t * S f (j + 1) + m) := by
        refine ⟨NB.out, hR.out.2.1.setCell (p := ⟨w.heap.size, j, none⟩) (Nat.le_refl _) _, ?_⟩
        rw [S_put, bp_succ, S_succ]
        exact step_mul hR.out.2.2 (by omega)
      have hy' : hi + d < 18446744073709551616 := by omega
      clear hBj hmul NB hm1 ha1
      generalize f j = x at *
      go_wp2_with (first | (go_at_call 107; refine (HMUL.out _).mono ?_; rintro e w' ⟨rfl, rfl⟩) | (rw [hadd]))
      go_roundw
      case rel => exact ⟨j + 1, hi + d, put g j s, by omega, by go_num, by go_num, hy', NX.out⟩
      case measure => simp [intOf]; omega
    · obtain rfl : j = k := by omega
      have hBj := hR.out.1.2.2 j (by omega)
      have hc2 := hBj.1
      have hf2 := hBj.2
      have NB := Lib.hid (hR.out.1.put (i := j) (x := y) (by omega) hy)
      have BL2 : Hid (Below w.heap.size w (wr.setCell ⟨w.heap.size, j, none⟩ (.int .u64 y))) := hR.out.2.1.setCell (p := ⟨w.heap.size, j, none⟩) (Nat.le_refl _) _
      have E : Hid (S (put g j y) (j + 1) = n * t + m) := by unfold Hid; rw [S_put, hR.out.2.2, HS.out, Nat.mul_comm]
      clear hBj hlt
      go_wp2_with fail
      generalize wr.setCell ⟨w.heap.size, j, none⟩ (.int .u64 y) = W3 at *
      refine (trim_c (some ⟨w.heap.size, 0, none⟩) (j + 1) (j + 1) (put g j y) W3 (NB.out.rl0 (Nat.le_refl _) (by omega)) (Nat.le_refl _) (by omega) (Pl.some_ _ _)).mono ?_
      rintro e w4 ⟨a', k', c', rfl, hN, b4⟩
      rw [E.out] at hN
      have R := Lib.hid (show NmPost (n * t + m) w (.returned (.slice a' k' c')) w4 from ⟨a', k', c', rfl, hN, BL2.out.trans (b4.mono BL2.out.size)⟩)
      clear hN b4
      go_wp2
      go_ret
      exact R.out
end Go.Proofs.YtdkphfafcmogmaaGreatDoor
namespace Go.Proofs.YtdkphfafcmogmaaGreatDoor
open Go.RowKit

/-- The order of two numbers. -/
def sgn (x y : Nat) : Int := if x < y then -1 else if y < x then 1 else 0
theorem sgn_lt {x y : Nat} (h : x < y) : sgn x y = -1 := by unfold sgn; rw [if_pos h]
theorem sgn_gt {x y : Nat} (h : y < x) : sgn x y = 1 := by unfold sgn; rw [if_neg (by omega), if_pos h]
theorem sgn_eq (x : Nat) : sgn x x = 0 := by unfold sgn; rw [if_neg (by omega), if_neg (by omega)]
theorem drewN_drewN (w : World) (a b : Nat) : (w.drewN a).drewN b = w.drewN (a + b) := by simp [World.drewN, Nat.add_assoc]
theorem isNaN_c (x : Int) (w : World) : Calls Tryz.prog 148 #[.int .u64 x] w fun e w' => e = .returned (.bool false) ∧ w = w' := by
  go_enter Tryz.func148, Tryz.ntmps148
  go_wp2
  go_ret
  exact ⟨rfl, rfl⟩
theorem cmpU_c (x y : Nat) (w : World) : Calls Tryz.prog 126 #[.int .u64 x, .int .u64 y] w fun e w' => e = .returned (.int .i64 (sgn x y)) ∧ w = w' := by
  rcases Nat.lt_trichotomy x y with h | h | h
  · have e := sgn_lt h
    have d : decide (x < y) = true := by simp; omega
    rw [e]
    clear e
    go_enter Tryz.func126, Tryz.ntmps126
    go_wp2_with (go_at_call 148; refine (isNaN_c _ _).mono ?_; rintro e w' ⟨rfl, rfl⟩)
    go_ret
    exact ⟨rfl, rfl⟩
  · subst h
    rw [sgn_eq]
    go_enter Tryz.func126, Tryz.ntmps126
    go_wp2_with (go_at_call 148; refine (isNaN_c _ _).mono ?_; rintro e w' ⟨rfl, rfl⟩)
    go_ret
    exact ⟨rfl, rfl⟩
  · have e := sgn_gt h
    have d : decide (x < y) = false := by simp; omega
    have d2 : decide (y < x) = true := by simp; omega
    rw [e]
    clear e
    go_enter Tryz.func126, Tryz.ntmps126
    go_wp2_with (go_at_call 148; refine (isNaN_c _ _).mono ?_; rintro e w' ⟨rfl, rfl⟩)
    go_ret
    exact ⟨rfl, rfl⟩
set_option maxRecDepth 100000 in
set_option maxHeartbeats 2000000 in
theorem compare_c (a1 a2 : Option Addr) (k1 k2 c1 c2 n1 n2 : Nat) (w : World) (h1 : Nm w a1 k1 c1 n1) (h2 : Nm w a2 k2 c2 n2) :
    Calls Tryz.prog 98 #[.slice a1 k1 c1, .slice a2 k2 c2] w fun e w' => e = .returned (.int .i64 (sgn n1 n2)) ∧ ∃ q, w' = w.drewN q := by
  obtain ⟨f, r1, _, _, t1, s1, _⟩ := h1
  obtain ⟨g, r2, _, _, t2, s2, _⟩ := h2
  have hk1 := r1.1
  have hk2 := r2.1
  by_cases hk : k1 = k2
  · subst hk
    have H1 := Lib.hid r1
    have H2 := Lib.hid r2
    have S1 := Lib.hid s1
    have S2 := Lib.hid s2
    clear r1 r2 t1 t2 s1 s2
    go_enter Tryz.func98, Tryz.ntmps98
    go_wp2
    go_loopw [5] (fun i wr => ∃ m : Nat, m ≤ k1 ∧ i = .int .i64 ((m : Int) - 1) ∧ Hid ((∀ j, m ≤ j → j < k1 → f j = g j) ∧ ∃ q, wr = w.drewN q)) (fun i _ => (intOf i + 1).toNat)
    case atStart => exact ⟨k1, Nat.le_refl _, rfl, fun j h1 h2 => by omega, 0, rfl⟩
    case round =>
      obtain ⟨m, hm, rfl, hR⟩ := hrel
      rcases Nat.eq_zero_or_pos m with e | e
      · subst e
        have E : Hid (n1 = n2) := by unfold Hid; rw [← S1.out, ← S2.out]; exact S_congr (fun j hj => hR.out.1 j (Nat.zero_le _) hj)
        go_wp2
        go_ret
        exact ⟨ret_int (by rw [E.out, sgn_eq]), hR.out.2⟩
      · obtain ⟨p, rfl⟩ : ∃ p, m = p + 1 := ⟨m - 1, by omega⟩
        obtain ⟨q, hq⟩ := hR.out.2
        have HB : Hid (Below w.heap.size w wr) := by unfold Hid; rw [hq]; exact bel_drewN _ _
        obtain ⟨b1, o1, rfl, _, g1⟩ := (H1.out.below HB.out).at_ (show p < k1 by omega)
        obtain ⟨b2, o2, rfl, _, g2⟩ := (H2.out.below HB.out).at_ (show p < k1 by omega)
        have hp : (p : Int) < (k1 : Int) := by omega
        have ei : ((p + 1 : Nat) : Int) - 1 = (p : Int) := by omega
        rw [ei]
        have HQ := Lib.hid hq
        clear hq
        by_cases hE : f p = g p
        · have NE : Hid (∀ j, p ≤ j → j < k1 → f j = g j) := fun j h1 h2 => by
            by_cases e : j = p
            · rw [e, hE]
            · exact hR.out.1 j (by omega) h2
          rw [← hE] at g2
          generalize f p = x at *
          go_wp2_with fail
          go_quiet (fail)
          have NX : Hid ((∀ j, p ≤ j → j < k1 → f j = g j) ∧ ∃ q, wr.drewN nq = w.drewN q) := ⟨NE.out, q + nq, by rw [HQ.out, drewN_drewN]⟩
          clear g1 g2
          go_wp2
          go_roundw
          case rel => exact ⟨p, by omega, by go_num, NX.out⟩
          case measure => simp [intOf]
        · have E : Hid (sgn n1 n2 = sgn (f p) (g p)) := by
            unfold Hid
            rw [← S1.out, ← S2.out]
            rcases Nat.lt_trichotomy (f p) (g p) with l | l | l
            · rw [sgn_lt l, sgn_lt (cmp_lt H1.out.2.1 (by omega) l (fun j h1 h2 => hR.out.1 j (by omega) h2))]
            · exact absurd l hE
            · rw [sgn_gt l, sgn_gt (cmp_lt H2.out.2.1 (by omega) l (fun j h1 h2 => (hR.out.1 j (by omega) h2).symm))]
          have hb : ((f p : Int) == (g p : Int)) = false := by rw [beq_eq_false_iff_ne]; omega
          have hb' : (f p == g p) = false := by rw [beq_eq_false_iff_ne]; exact hE
          have hc := Lib.hid (fun w => cmpU_c (f p) (g p) w)
          generalize f p = x at *
          generalize g p = y at *
          clear hE
          go_wp2_with fail
          go_quiet (fail)
          go_wp2_with fail
          generalize hw1 : wr.drewN _ = w1
          have g1' : w1.cell? ⟨b1, o1 + p, none⟩ = some (.int .u64 x) := by rw [← hw1]; exact g1
          have g2' : w1.cell? ⟨b2, o2 + p, none⟩ = some (.int .u64 y) := by rw [← hw1]; exact g2
          have HW := Lib.hid hw1
          clear hw1 g1 g2
          go_quiet ((go_at_call 126; exact Calls.quiet_of_same ((hc.out _).mono fun e w' h => ⟨h.1, h.2.symm⟩)))
          go_wp2
          go_ret
          exact ⟨ret_int E.out.symm, by rw [← HW.out, HQ.out]; exact ⟨_, by rw [drewN_drewN, drewN_drewN]⟩⟩
  · have hne : ((k1 : Int) == (k2 : Int)) = false := by rw [beq_eq_false_iff_ne]; omega
    have hne' : (k1 == k2) = false := by rw [beq_eq_false_iff_ne]; exact hk
    have E : Hid (sgn n1 n2 = Lib.compareInt (k1 : Int) k2) := by
      unfold Hid
      rw [← s1, ← s2]
      rcases Nat.lt_or_ge k1 k2 with l | l
      · rw [sgn_lt (len_lt r1.2.1 t2 l)]
        unfold Lib.compareInt
        simp; omega
      · rw [sgn_gt (len_lt r2.2.1 t1 (by omega))]
        unfold Lib.compareInt
        simp; omega
    clear r1 r2 t1 t2 s1 s2 hk
    go_enter Tryz.func98, Tryz.ntmps98
    go_wp2_with (go_at_call 125; refine (Tryz.cmp_Compare_int _ _ _).mono ?_; rintro e w' ⟨rfl, rfl⟩)
    go_ret
    exact ⟨ret_int E.out.symm, 0, rfl⟩
end Go.Proofs.YtdkphfafcmogmaaGreatDoor
namespace Go.Proofs.YtdkphfafcmogmaaGreatDoor
open Go.RowKit

def NtTrim (a : Option Addr) (c n : Nat) (w : World) (e : Ending) (w' : World) : Prop := ∃ m, e = .returned (.slice a m c) ∧ Nt w' a m c n ∧ w = w'
set_option maxHeartbeats 1000000 in
theorem ntrim_c (a : Option Addr) (k c : Nat) (f : Nat → Nat) (w : World) (h : Rj w a k f) (hk : k ≤ c) (hc : c ≤ 9223372036854775807) (ha : Pl a c) :
    Calls Tryz.prog 64 #[.slice a k c] w (NtTrim a c (Tn f k) w) := by
  have H := Lib.hid h
  have hk2 := h.1
  clear h
  go_enter Tryz.func64, Tryz.ntmps64
  go_wp2
  go_loop [3] (fun i => ∃ m : Nat, m ≤ k ∧ i = .int .i64 m ∧ Hid (Tn f m = Tn f k)) (fun i => (intOf i).toNat)
  case atStart => exact ⟨k, Nat.le_refl _, rfl, rfl⟩
  case round =>
    obtain ⟨m, hm, rfl, hS⟩ := hrel
    rcases Nat.eq_zero_or_pos m with e | e
    · subst e
      go_wp2
      go_ret
      exact ⟨0, rfl, by rw [← hS.out]; exact Nt.zero _ _ _ hc ha, rfl⟩
    · obtain ⟨p, rfl⟩ : ∃ p, m = p + 1 := ⟨m - 1, by omega⟩
      obtain ⟨b, off, rfl, hb, hcell⟩ := H.out.at_ (show p < k by omega)
      have e1 : ((p + 1 : Nat) : Int) - 1 = (p : Int) := by omega
      have hpk : (p : Int) < (k : Int) := by omega
      have HS := Lib.hid (Tn_succ f p)
      by_cases h0 : f p = 0
      · rw [h0] at hcell HS
        have HS2 : Hid (Tn f p = Tn f k) := by unfold Hid; rw [← hS.out, HS.out]; omega
        go_wp2
        go_round
        case rel => exact ⟨p, by omega, by go_num, HS2⟩
        case measure => simp [intOf]; try omega
      · have HT : Hid (Tod f (p + 1)) := .inr (by simpa using h0)
        have d : ((f p : Int) == 0) = false := by rw [beq_eq_false_iff_ne]; omega
        have d' : (f p == 0) = false := by rw [beq_eq_false_iff_ne]; exact h0
        generalize f p = x at *
        go_wp2
        go_ret
        exact ⟨p + 1, rfl, ⟨f, H.out.low hm, by omega, hc, HT.out, hS.out, ha⟩, rfl⟩
set_option maxRecDepth 100000 in
set_option maxHeartbeats 2000000 in
theorem norder_c (a1 a2 : Option Addr) (k1 k2 c1 c2 n1 n2 : Nat) (w : World) (h1 : Nt w a1 k1 c1 n1) (h2 : Nt w a2 k2 c2 n2) :
    Calls Tryz.prog 40 #[.slice a1 k1 c1, .slice a2 k2 c2] w fun e w' => e = .returned (.int .i64 (sgn n1 n2)) ∧ ∃ q, w' = w.drewN q := by
  obtain ⟨f, r1, _, _, t1, s1, _⟩ := h1
  obtain ⟨g, r2, _, _, t2, s2, _⟩ := h2
  have hk1 := r1.1
  have hk2 := r2.1
  by_cases hk : k1 = k2
  · subst hk
    have H1 := Lib.hid r1
    have H2 := Lib.hid r2
    have S1 := Lib.hid s1
    have S2 := Lib.hid s2
    clear r1 r2 t1 t2 s1 s2
    go_enter Tryz.func40, Tryz.ntmps40
    go_wp2
    go_loopw [5] (fun i wr => ∃ m : Nat, m ≤ k1 ∧ i = .int .i64 ((m : Int) - 1) ∧ Hid ((∀ j, m ≤ j → j < k1 → f j = g j) ∧ ∃ q, wr = w.drewN q)) (fun i _ => (intOf i + 1).toNat)
    case atStart => exact ⟨k1, Nat.le_refl _, rfl, fun j h1 h2 => by omega, 0, rfl⟩
    case round =>
      obtain ⟨m, hm, rfl, hR⟩ := hrel
      rcases Nat.eq_zero_or_pos m with e | e
      · subst e
        have E : Hid (n1 = n2) := by unfold Hid; rw [← S1.out, ← S2.out]; exact Tn_congr (fun j hj => hR.out.1 j (Nat.zero_le _) hj)
        go_wp2
        go_ret
        exact ⟨ret_int (by rw [E.out, sgn_eq]), hR.out.2⟩
      · obtain ⟨p, rfl⟩ : ∃ p, m = p + 1 := ⟨m - 1, by omega⟩
        obtain ⟨q, hq⟩ := hR.out.2
        have HB : Hid (Below w.heap.size w wr) := by unfold Hid; rw [hq]; exact bel_drewN _ _
        obtain ⟨b1, o1, rfl, _, g1⟩ := (H1.out.below HB.out).at_ (show p < k1 by omega)
        obtain ⟨b2, o2, rfl, _, g2⟩ := (H2.out.below HB.out).at_ (show p < k1 by omega)
        have hp : (p : Int) < (k1 : Int) := by omega
        have ei : ((p + 1 : Nat) : Int) - 1 = (p : Int) := by omega
        rw [ei]
        have HQ := Lib.hid hq
        clear hq
        by_cases hE : f p = g p
        · have NE : Hid (∀ j, p ≤ j → j < k1 → f j = g j) := fun j h1 h2 => by
            by_cases e : j = p
            · rw [e, hE]
            · exact hR.out.1 j (by omega) h2
          rw [← hE] at g2
          generalize f p = x at *
          go_wp2_with fail
          go_quiet (fail)
          have NX : Hid ((∀ j, p ≤ j → j < k1 → f j = g j) ∧ ∃ q, wr.drewN nq = w.drewN q) := ⟨NE.out, q + nq, by rw [HQ.out, drewN_drewN]⟩
          clear g1 g2
          go_wp2
          go_roundw
          case rel => exact ⟨p, by omega, by go_num, NX.out⟩
          case measure => simp [intOf]
        · have E : Hid (sgn n1 n2 = sgn (f p) (g p)) := by
            unfold Hid
            rw [← S1.out, ← S2.out]
            rcases Nat.lt_trichotomy (f p) (g p) with l | l | l
            · rw [sgn_lt l, sgn_lt (dcmp_lt H1.out.2.1 (by omega) l (fun j h1 h2 => hR.out.1 j (by omega) h2))]
            · exact absurd l hE
            · rw [sgn_gt l, sgn_gt (dcmp_lt H2.out.2.1 (by omega) l (fun j h1 h2 => (hR.out.1 j (by omega) h2).symm))]
          have hb : ((f p : Int) == (g p : Int)) = false := by rw [beq_eq_false_iff_ne]; omega
          have hb' : (f p == g p) = false := by rw [beq_eq_false_iff_ne]; exact hE
          generalize f p = x at *
          generalize g p = y at *
          rcases Nat.lt_or_ge x y with l | l
          · have l2 : (x : Int) < (y : Int) := by omega
            have F : Hid (sgn n1 n2 = -1) := by rw [E.out, sgn_lt l]; rfl
            clear hE l E
            go_wp2_with fail
            go_quiet (fail)
            go_wp2_with fail
            generalize hw1 : wr.drewN _ = w1
            have g1' : w1.cell? ⟨b1, o1 + p, none⟩ = some (.int .i64 x) := by rw [← hw1]; exact g1
            have g2' : w1.cell? ⟨b2, o2 + p, none⟩ = some (.int .i64 y) := by rw [← hw1]; exact g2
            have HW := Lib.hid hw1
            clear hw1 g1 g2
            go_quiet (fail)
            go_wp2
            go_ret
            exact ⟨ret_int F.out.symm, by rw [← HW.out, HQ.out]; exact ⟨_, by rw [drewN_drewN, drewN_drewN]⟩⟩
          · have l2 : ¬ (x : Int) < (y : Int) := by omega
            have F : Hid (sgn n1 n2 = 1) := by rw [E.out, sgn_gt (by omega)]; rfl
            clear hE l E
            go_wp2_with fail
            go_quiet (fail)
            go_wp2_with fail
            generalize hw1 : wr.drewN _ = w1
            have g1' : w1.cell? ⟨b1, o1 + p, none⟩ = some (.int .i64 x) := by rw [← hw1]; exact g1
            have g2' : w1.cell? ⟨b2, o2 + p, none⟩ = some (.int .i64 y) := by rw [← hw1]; exact g2
            have HW := Lib.hid hw1
            clear hw1 g1 g2
            go_quiet (fail)
            go_wp2
            go_ret
            exact ⟨ret_int F.out.symm, by rw [← HW.out, HQ.out]; exact ⟨_, by rw [drewN_drewN, drewN_drewN]⟩⟩
  · have hne : ((k1 : Int) == (k2 : Int)) = false := by rw [beq_eq_false_iff_ne]; omega
    have hne' : (k1 == k2) = false := by rw [beq_eq_false_iff_ne]; exact hk
    rcases Nat.lt_or_ge k1 k2 with l | l
    · have E : Hid (sgn n1 n2 = -1) := by unfold Hid; rw [← s1, ← s2]; exact sgn_lt (dlen_lt r1.2.1 t2 l)
      have l2 : (k1 : Int) < (k2 : Int) := by omega
      clear r1 r2 t1 t2 s1 s2 hk
      go_enter Tryz.func40, Tryz.ntmps40
      go_wp2
      go_ret
      exact ⟨ret_int E.out.symm, 0, rfl⟩
    · have E : Hid (sgn n1 n2 = 1) := by unfold Hid; rw [← s1, ← s2]; exact sgn_gt (dlen_lt r2.2.1 t1 (by omega))
      have l2 : ¬ (k1 : Int) < (k2 : Int) := by omega
      clear r1 r2 t1 t2 s1 s2 hk
      go_enter Tryz.func40, Tryz.ntmps40
      go_wp2
      go_ret
      exact ⟨ret_int E.out.symm, 0, rfl⟩
end Go.Proofs.YtdkphfafcmogmaaGreatDoor
