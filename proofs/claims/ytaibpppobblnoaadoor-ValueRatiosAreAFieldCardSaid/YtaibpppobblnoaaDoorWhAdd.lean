/-
  Numbers of any size: a row times a limb.
-/
import Derived.Test.YtaibpppobblnoaaDoorWhBase
import Derived.Shelf.Spec.BitsCarry
namespace Go.Proofs.YtaibpppobblnoaaDoor
open Go.RowKit

theorem add64 (x y c : Nat) (hx : x < 18446744073709551616) (hy : y < 18446744073709551616) (hc : c ≤ 1) (w : World) :
    (callFunc 47 #[.int .u64 x, .int .u64 y, .int .u64 c]).run Tryd.prog w = .ok (.value (.tuple #[.int .u64 (((x + y + c) % 18446744073709551616 : Nat) : Int), .int .u64 (((x + y + c) / 18446744073709551616 : Nat) : Int)])) w := by
  rw [run_callFunc_extern Tryd.func47 (by kernel_rfl) (by kernel_rfl) (by kernel_rfl) (e := add64Entry) (by kernel_rfl), run_add64 x y c (by omega) (by omega) (by omega) (by omega)]
  simp only [Result.andThen]
  congr 5 <;> omega
theorem sub64 (x y b : Nat) (hb : b ≤ 1) (w : World) :
    (callFunc 64 #[.int .u64 x, .int .u64 y, .int .u64 b]).run Tryd.prog w = .ok (.value (.tuple #[.int .u64 (((x + 18446744073709551616 - y - b) % 18446744073709551616 : Nat) : Int), .int .u64 ((if x < y + b then 1 else 0 : Nat) : Int)])) w := by
  rw [run_callFunc_extern Tryd.func64 (by kernel_rfl) (by kernel_rfl) (by kernel_rfl) (e := sub64Entry) (by kernel_rfl), run_sub64 x y b hb]
  rfl
/-- A sum with a carry, as the walk meets it. -/
theorem adds {zx zy zc : Int} (x y c : Nat) (ex : zx = (x : Int)) (ey : zy = (y : Int)) (ec : zc = (c : Int)) (hx : x < 18446744073709551616) (hy : y < 18446744073709551616) (hc : c ≤ 1) : ∃ s d : Nat,
    (∀ w, (callFunc 47 #[.int .u64 zx, .int .u64 zy, .int .u64 zc]).run Tryd.prog w = .ok (.value (.tuple #[.int .u64 (s : Int), .int .u64 (d : Int)])) w) ∧
    x + y + c = s + d * 18446744073709551616 ∧ s < 18446744073709551616 ∧ d ≤ 1 := by
  subst ex ey ec
  exact ⟨(x + y + c) % 18446744073709551616, (x + y + c) / 18446744073709551616, add64 x y c hx hy hc, by have := Nat.div_add_mod (x + y + c) 18446744073709551616; omega, Nat.mod_lt _ (by decide), by omega⟩
/-- A difference with a borrow. -/
theorem subs {zx zy zb : Int} (x y b : Nat) (ex : zx = (x : Int)) (ey : zy = (y : Int)) (eb : zb = (b : Int)) (hx : x < 18446744073709551616) (hy : y < 18446744073709551616) (hb : b ≤ 1) : ∃ s d : Nat,
    (∀ w, (callFunc 64 #[.int .u64 zx, .int .u64 zy, .int .u64 zb]).run Tryd.prog w = .ok (.value (.tuple #[.int .u64 (s : Int), .int .u64 (d : Int)])) w) ∧
    s + (y + b) = x + d * 18446744073709551616 ∧ s < 18446744073709551616 ∧ d ≤ 1 := by
  subst ex ey eb
  refine ⟨(x + 18446744073709551616 - y - b) % 18446744073709551616, if x < y + b then 1 else 0, sub64 x y b hb, ?_, Nat.mod_lt _ (by decide), ?_⟩
  · split <;> omega
  · split <;> omega
theorem mul64_c (x y : Nat) (hx : x < 18446744073709551616) (hy : y < 18446744073709551616) (w : World) :
    Calls Tryd.prog 46 #[.int .u64 x, .int .u64 y] w fun e w' => e = .returned (.tuple #[.int .u64 ((x * y / 18446744073709551616 : Nat) : Int), .int .u64 ((x * y % 18446744073709551616 : Nat) : Int)]) ∧ w' = w := Tryd.bits_Mul64 x y hx hy w
theorem muls (x y : Nat) (hx : x < 18446744073709551616) (hy : y < 18446744073709551616) : ∃ h l : Nat, (∀ w, Calls Tryd.prog 46 #[.int .u64 x, .int .u64 y] w fun e w' => e = .returned (.tuple #[.int .u64 (h : Int), .int .u64 (l : Int)]) ∧ w' = w) ∧
    x * y = l + h * 18446744073709551616 ∧ l < 18446744073709551616 ∧ h ≤ 18446744073709551614 := by
  refine ⟨_, _, mul64_c x y hx hy, by have := Nat.div_add_mod (x * y) 18446744073709551616; omega, Nat.mod_lt _ (by decide), ?_⟩
  have a : x * y ≤ 18446744073709551615 * 18446744073709551615 := Nat.mul_le_mul (by omega) (by omega)
  generalize x * y = z at *
  omega
set_option maxRecDepth 100000 in
set_option maxHeartbeats 2000000 in
theorem timesPlus_c (a : Option Addr) (k c n t m : Nat) (w : World) (h : Nm w a k c n) (ht : t < 18446744073709551616) (hm : m < 18446744073709551616) (hn : n < bp 2000) :
    Calls Tryd.prog 32 #[.slice a k c, .int .u64 t, .int .u64 m] w (NmPost (n * t + m) w) := by
  have hk2 := h.len hn
  obtain ⟨f, hr, hkc, hc, htop, hs, _⟩ := h
  have hmk := fun w => mk_limbsI ((k : Int) + 1) (k + 1) (by omega) (by omega) w
  have H := Lib.hid hr
  have HS := Lib.hid hs
  clear hr hs htop hn
  go_enter Tryd.func32, Tryd.ntmps32
  go_wp2_with fail
  have B0 := Lib.hid (Bf.made w (k + 1) 59)
  have BL : Hid (Below w.heap.size w (w.alloc (.cells (madeCells #[.int .u64 0] (k + 1)) 59))) := bel_one _ _
  generalize hW1 : w.alloc (.cells (madeCells #[.int .u64 0] (k + 1)) 59) = W1 at *
  clear hW1 hmk
  go_loopw [2, 19] (fun v i wr => ∃ (j y : Nat) (g : Nat → Nat), j ≤ k ∧ i = .int .i64 j ∧ v = .int .u64 y ∧ y < 18446744073709551616 ∧ Hid (Bf wr w.heap.size (k + 1) g ∧ Below w.heap.size w wr ∧ S g j + y * bp j = t * S f j + m)) (fun _ i _ => k - (intOf i).toNat)
  case atStart => exact ⟨0, m, fun _ => 0, Nat.zero_le _, rfl, rfl, hm, B0.out, BL.out, by rw [S_zero, S_zero, bp_zero]; omega⟩
  case round =>
    obtain ⟨j, y, g, hj, rfl, rfl, hy, hR⟩ := hrel
    by_cases hlt : j < k
    · have hlt' : (j : Int) < (k : Int) := by omega
      obtain ⟨b, off, rfl, hb, hc1⟩ := (H.out.below hR.out.2.1).at_ hlt
      have hx := H.out.2.1 j hlt
      obtain ⟨hi, lo, hmul, hm1, hm2, hm3⟩ := muls (f j) t hx ht
      have HMUL := Lib.hid hmul
      obtain ⟨s, d, hadd, ha1, ha2, ha3⟩ := adds lo y 0 rfl rfl (show (0 : Int) = ((0 : Nat) : Int) from rfl) hm2 hy (by omega)
      have hBj := hR.out.1.2.2 j (by omega)
      have hc2 := hBj.1
      have hf2 := hBj.2
      have NB := Lib.hid (hR.out.1.put (i := j) (x := s) (by omega) ha2)
      have NX : Hid (Bf (wr.setCell ⟨w.heap.size, j, none⟩ (.int .u64 s)) w.heap.size (k + 1) (put g j s) ∧ Below w.heap.size w (wr.setCell ⟨w.heap.size, j, none⟩ (.int .u64 s)) ∧ S (put g j s) (j + 1) + (hi + d) * bp (j + 1) = t * S f (j + 1) + m) := by
        refine ⟨NB.out, hR.out.2.1.setCell (p := ⟨w.heap.size, j, none⟩) (Nat.le_refl _) _, ?_⟩
        rw [S_put, bp_succ, S_succ]
        exact step_mul hR.out.2.2 (by omega)
      have hy' : hi + d < 18446744073709551616 := by omega
      clear hBj hmul NB hm1 ha1
      generalize f j = x at *
      go_wp2_with (first | (go_at_call 46; refine (HMUL.out _).mono ?_; rintro e w' ⟨rfl, rfl⟩) | (rw [hadd]))
      go_roundw
      case rel => exact ⟨j + 1, hi + d, put g j s, by omega, by go_num, by go_num, hy', NX.out⟩
      case measure => simp [intOf]; omega
    · obtain rfl : j = k := by omega
      have hBj := hR.out.1.2.2 j (by omega)
      have hc2 := hBj.1
      have hf2 := hBj.2
      have NB := Lib.hid (hR.out.1.put (i := j) (x := y) (by omega) hy)
      have BL2 : Hid (Below w.heap.size w (wr.setCell ⟨w.heap.size, j, none⟩ (.int .u64 y))) := hR.out.2.1.setCell (p := ⟨w.heap.size, j, none⟩) (Nat.le_refl _) _
      have E : Hid (S (put g j y) (j + 1) = n * t + m) := by unfold Hid; rw [S_put, hR.out.2.2, HS.out, Nat.mul_comm]
      clear hBj hlt
      go_wp2_with fail
      generalize wr.setCell ⟨w.heap.size, j, none⟩ (.int .u64 y) = W3 at *
      refine (trim_c (some ⟨w.heap.size, 0, none⟩) (j + 1) (j + 1) (put g j y) W3 (NB.out.rl0 (Nat.le_refl _) (by omega)) (Nat.le_refl _) (by omega) (Pl.some_ _ _)).mono ?_
      rintro e w4 ⟨a', k', c', rfl, hN, b4⟩
      rw [E.out] at hN
      have R := Lib.hid (show NmPost (n * t + m) w (.returned (.slice a' k' c')) w4 from ⟨a', k', c', rfl, hN, BL2.out.trans (b4.mono BL2.out.size)⟩)
      clear hN b4
      go_wp2
      go_ret
      exact R.out
end Go.Proofs.YtaibpppobblnoaaDoor
