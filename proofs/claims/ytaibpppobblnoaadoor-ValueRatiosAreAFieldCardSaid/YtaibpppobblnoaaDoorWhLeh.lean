/-
  Numbers of any size: the highest bits of a number, and steps at once.
-/
import Derived.Test.YtaibpppobblnoaaDoorWhDivide
namespace Go.Proofs.YtaibpppobblnoaaDoor
open Go.RowKit

theorem zshl (s : Nat) (_ : s < 64) : IntKind.u64.wrap 0 = 0 := by decide
def WinPost (h l s : Nat) (w : World) (e : Ending) (w' : World) : Prop := ∃ v : Nat, e = .returned (.int .u64 (v : Int)) ∧ v = (h * 2 ^ s ||| l / 2 ^ (64 - s)) ∧ ∃ q, w' = w.drewN q
set_option maxRecDepth 100000 in
set_option maxHeartbeats 2000000 in
theorem window_c (a : Option Addr) (k c z s : Nat) (f : Nat → Nat) (w : World) (h : Rl w a k f) (hk : k ≤ z + 2) (hz : z < 50000) (hs : s < 64) (hh : ext f k (z + 1) * 2 ^ s < 18446744073709551616) :
    Calls Tryd.prog 66 #[.slice a k c, .int .i64 ((z : Int) + 2), .int .i64 s] w (WinPost (ext f k (z + 1)) (ext f k z) s w) := by
  have hw1 : IntKind.i64.wrap ((z : Int) + 1) = (z : Int) + 1 := by rw [IntKind.wrap_i64]; omega
  have hw0 : IntKind.i64.wrap (z : Int) = (z : Int) := by rw [IntKind.wrap_i64]; omega
  have hw64 : IntKind.i64.wrap (64 - (s : Int)) = 64 - (s : Int) := by rw [IntKind.wrap_i64]; omega
  have hp : 0 < 2 ^ s := Nat.pow_pos (by decide)
  have hl : ext f k z < 18446744073709551616 := by
    by_cases e : z < k
    · rw [ext_in e]; exact h.2.1 z e
    · rw [ext_out (by omega)]; decide
  obtain ⟨x, hx⟩ : ∃ x, ext f k (z + 1) * 2 ^ s = x := ⟨_, rfl⟩
  obtain ⟨y, hy⟩ : ∃ y, ext f k z / 2 ^ (64 - s) = y := ⟨_, rfl⟩
  have hxb : x < 18446744073709551616 := by rw [← hx]; exact hh
  have hyb : y < 18446744073709551616 := by rw [← hy]; have := Nat.div_le_self (ext f k z) (2 ^ (64 - s)); omega
  obtain ⟨v, hv⟩ : ∃ v, x ||| y = v := ⟨_, rfl⟩
  have e1 : IntKind.u64.wrap ((ext f k (z + 1) : Int) * 2 ^ s) = (x : Int) := wrap_shl (by rw [hx]; exact Nat.mod_eq_of_lt hxb)
  have e2 : (ext f k z : Int) / 2 ^ (64 - s) = (y : Int) := shr_cast hy
  have e3 := or_cast hxb hyb hv
  have HV : Hid (v = (ext f k (z + 1) * 2 ^ s ||| ext f k z / 2 ^ (64 - s))) := by unfold Hid; rw [hx, hy, hv]
  clear hx hy hv hh hp
  by_cases c1 : k = z + 2
  · subst c1
    obtain ⟨b, o, rfl, _, g1⟩ := h.at_ (show z + 1 < z + 2 by omega)
    obtain ⟨b', o', e, _, g0⟩ := h.at_ (show z < z + 2 by omega)
    injection e with e
    injection e with e4 e5
    subst e4 e5
    have t1 := ext_in (f := f) (show z + 1 < z + 2 by omega)
    have t0 := ext_in (f := f) (show z < z + 2 by omega)
    rw [← t1] at g1
    rw [← t0] at g0
    clear t1 t0 h
    generalize ext f (z + 2) (z + 1) = hi at *
    generalize ext f (z + 2) z = lo at *
    have d1 : (z : Int) + 1 < (z : Int) + 2 := by omega
    have d2 : (z : Int) < (z : Int) + 2 := by omega
    have d3 : z + 1 < z + 2 := by omega
    have d4 : z < z + 2 := by omega
    go_enter Tryd.func66, Tryd.ntmps66
    go_wp2_with fail
    go_quiet (fail)
    go_wp2
    go_ret
    exact ⟨v, rfl, HV.out, _, rfl⟩
  · by_cases c2 : k = z + 1
    · subst c2
      obtain ⟨b, o, rfl, _, g0⟩ := h.at_ (show z < z + 1 by omega)
      have t1 := ext_out (f := f) (show z + 1 ≤ z + 1 by omega)
      have t0 := ext_in (f := f) (show z < z + 1 by omega)
      rw [← t0] at g0
      rw [t1] at e1
      have e1' : (x : Int) = 0 := by rw [← e1, Int.natCast_zero, Int.zero_mul]; decide
      clear t0 h e1
      generalize ext f (z + 1) (z + 1) = hi at *
      generalize ext f (z + 1) z = lo at *
      have ex : x = 0 := by omega
      subst ex
      have e3' : bits .or .u64 (0 : Int) (y : Int) = (v : Int) := e3
      clear e1' t1 e3
      have d1 : ¬ (z : Int) + 2 ≤ (z : Int) + 1 := by omega
      have d4 : z < z + 1 := by omega
      have d2 : (z : Int) < (z : Int) + 1 := by omega
      have ez := zshl s hs
      go_enter Tryd.func66, Tryd.ntmps66
      go_wp2_with fail
      go_quiet (fail)
      go_wp2
      go_ret
      exact ⟨v, rfl, HV.out, _, rfl⟩
    · have hkz : k ≤ z := by omega
      have t1 := ext_out (f := f) (show k ≤ z + 1 by omega)
      have t0 := ext_out (f := f) hkz
      have H := Lib.hid h
      rw [t1] at e1
      rw [t0] at e2
      have e1' : (x : Int) = 0 := by rw [← e1, Int.natCast_zero, Int.zero_mul]; decide
      have e2' : (y : Int) = 0 := by rw [← e2, Int.natCast_zero, Int.zero_ediv]
      clear h e1 e2 hl
      generalize ext f k (z + 1) = hi at *
      generalize ext f k z = lo at *
      have ex : x = 0 := by omega
      have ey : y = 0 := by omega
      subst ex ey
      have e3' : bits .or .u64 (0 : Int) (0 : Int) = (v : Int) := e3
      clear e1' e2' t1 t0 e3
      have d1 : ¬ (z : Int) + 2 ≤ (k : Int) := by omega
      have d2 : ¬ (z : Int) + 1 ≤ (k : Int) := by omega
      have ez := zshl s hs
      go_enter Tryd.func66, Tryd.ntmps66
      go_wp2_with fail
      go_quiet (fail)
      go_wp2
      go_ret
      exact ⟨v, rfl, HV.out, _, rfl⟩
/-- A step's six cells, as a value. -/
abbrev stepV (a0 b0 a1 b1 : Nat) (odd made : Bool) : Value := .agg #[.int .u64 (a0 : Int), .int .u64 (b0 : Int), .int .u64 (a1 : Int), .int .u64 (b1 : Int), .bool odd, .bool made]
set_option maxRecDepth 100000 in
set_option maxHeartbeats 2000000 in
theorem combine_c (odd : Bool) (a0 b0 a1 b1 : Nat) (made : Bool) (p1 p2 : Option Addr) (k1 k2 c1 c2 n1 n2 x y r : Nat) (w : World) (h1 : Nm w p1 k1 c1 n1) (h2 : Nm w p2 k2 c2 n2) (hn1 : n1 < bp 2000) (hn2 : n2 < bp 2000)
    (hx : x < 18446744073709551616) (hy : y < 18446744073709551616) (hr : if odd then y * n2 = x * n1 + r else x * n1 = y * n2 + r) :
    Calls Tryd.prog 67 #[stepV a0 b0 a1 b1 odd made, .slice p1 k1 c1, .int .u64 x, .slice p2 k2 c2, .int .u64 y] w (NmPost r w) := by
  have H1 := Lib.hid h1
  have H2 := Lib.hid h2
  have N1 := Lib.hid hn1
  have N2 := Lib.hid hn2
  obtain ⟨W1, hW1⟩ : ∃ W1, w.alloc (.cells #[.int .u64 (a0 : Int), .int .u64 (b0 : Int), .int .u64 (a1 : Int), .int .u64 (b1 : Int), .bool odd, .bool made] 80) = W1 := ⟨_, rfl⟩
  have B1 : Hid (Below w.heap.size w W1) := by rw [← hW1]; exact bel_one _ _
  have S1 : Hid (w.heap.size < W1.heap.size) := by rw [← hW1]; simp [Hid]
  have D4 : Hid (W1.cell? ⟨w.heap.size, 4, none⟩ = some (.bool odd)) := by unfold Hid; rw [← hW1, World.cell?_alloc_at _ _ _ _ rfl]; rfl
  clear h1 h2 hn1 hn2
  go_enter Tryd.func67, Tryd.ntmps67
  go_wp2_with fail
  clear hW1
  refine (timesPlus_c p1 k1 c1 n1 x 0 W1 (H1.out.below B1.out) hx (by decide) N1.out).mono ?_
  rintro e w2 ⟨pa, ka, ca, rfl, la, b2⟩
  have LA := Lib.hid la
  have B2 := Lib.hid b2
  clear la b2
  go_wp2_with fail
  refine (timesPlus_c p2 k2 c2 n2 y 0 w2 ((H2.out.below B1.out).below B2.out) hy (by decide) N2.out).mono ?_
  rintro e w3 ⟨pb, kb, cb, rfl, lb, b3⟩
  have LB := Lib.hid lb
  have LA3 := Lib.hid (LA.out.below b3)
  have B3 := Lib.hid (B1.out.trans ((B2.out.trans (b3.mono B2.out.size)).mono B1.out.size))
  have D3 : w3.cell? ⟨w.heap.size, 4, none⟩ = some (.bool odd) := by
    rw [b3.cell (p := ⟨w.heap.size, 4, none⟩) (Nat.lt_of_lt_of_le S1.out B2.out.size), B2.out.cell (p := ⟨w.heap.size, 4, none⟩) S1.out]
    exact D4.out
  clear lb b3 LA B1 B2 D4
  cases odd
  · have HR : Hid (n1 * x + 0 - (n2 * y + 0) = r ∧ n2 * y + 0 ≤ n1 * x + 0) := by
      simp only [Bool.false_eq_true, if_false] at hr
      rw [Nat.mul_comm n1, Nat.mul_comm n2]
      unfold Hid
      omega
    clear hr
    go_wp2_with fail
    refine (difference_c pa pb ka kb ca cb _ _ w3 LA3.out LB.out HR.out.2).mono ?_
    rintro e w4 ⟨pr, kr, cr, rfl, lr, b4⟩
    rw [HR.out.1] at lr
    have R := Lib.hid (show NmPost r w (.returned (.slice pr kr cr)) w4 from ⟨_, _, _, rfl, lr, B3.out.trans (b4.mono B3.out.size)⟩)
    clear lr b4
    go_wp2
    go_ret
    exact R.out
  · have HR : Hid (n2 * y + 0 - (n1 * x + 0) = r ∧ n1 * x + 0 ≤ n2 * y + 0) := by
      simp only [if_true] at hr
      rw [Nat.mul_comm n1, Nat.mul_comm n2]
      unfold Hid
      omega
    clear hr
    go_wp2_with fail
    refine (difference_c pb pa kb ka cb ca _ _ w3 LB.out LA3.out HR.out.2).mono ?_
    rintro e w4 ⟨pr, kr, cr, rfl, lr, b4⟩
    rw [HR.out.1] at lr
    have R := Lib.hid (show NmPost r w (.returned (.slice pr kr cr)) w4 from ⟨_, _, _, rfl, lr, B3.out.trans (b4.mono B3.out.size)⟩)
    clear lr b4
    go_wp2
    go_ret
    exact R.out
set_option maxRecDepth 100000 in
set_option maxHeartbeats 2000000 in
theorem first_c (odd : Bool) (a0 b0 a1 b1 : Nat) (made : Bool) (p1 p2 : Option Addr) (k1 k2 c1 c2 n1 n2 r : Nat) (w : World) (h1 : Nm w p1 k1 c1 n1) (h2 : Nm w p2 k2 c2 n2) (hn1 : n1 < bp 2000) (hn2 : n2 < bp 2000)
    (hx : a0 < 18446744073709551616) (hy : b0 < 18446744073709551616) (hr : if odd then b0 * n2 = a0 * n1 + r else a0 * n1 = b0 * n2 + r) :
    Calls Tryd.prog 50 #[stepV a0 b0 a1 b1 odd made, .slice p1 k1 c1, .slice p2 k2 c2] w (NmPost r w) := by
  obtain ⟨W1, hW1⟩ : ∃ W1, w.alloc (.cells #[.int .u64 (a0 : Int), .int .u64 (b0 : Int), .int .u64 (a1 : Int), .int .u64 (b1 : Int), .bool odd, .bool made] 80) = W1 := ⟨_, rfl⟩
  have B1 : Hid (Below w.heap.size w W1) := by rw [← hW1]; exact bel_one _ _
  have D0 : W1.cell? ⟨w.heap.size, 0, none⟩ = some (.int .u64 (a0 : Int)) := by rw [← hW1, World.cell?_alloc_at _ _ _ _ rfl]; rfl
  have D1 : W1.cell? ⟨w.heap.size, 1, none⟩ = some (.int .u64 (b0 : Int)) := by rw [← hW1, World.cell?_alloc_at _ _ _ _ rfl]; rfl
  have D2 : W1.cell? ⟨w.heap.size, 2, none⟩ = some (.int .u64 (a1 : Int)) := by rw [← hW1, World.cell?_alloc_at _ _ _ _ rfl]; rfl
  have D3 : W1.cell? ⟨w.heap.size, 3, none⟩ = some (.int .u64 (b1 : Int)) := by rw [← hW1, World.cell?_alloc_at _ _ _ _ rfl]; rfl
  have D4 : W1.cell? ⟨w.heap.size, 4, none⟩ = some (.bool odd) := by rw [← hW1, World.cell?_alloc_at _ _ _ _ rfl]; rfl
  have D5 : W1.cell? ⟨w.heap.size, 5, none⟩ = some (.bool made) := by rw [← hW1, World.cell?_alloc_at _ _ _ _ rfl]; rfl
  have HC := Lib.hid (combine_c odd a0 b0 a1 b1 made p1 p2 k1 k2 c1 c2 n1 n2 a0 b0 r W1 (h1.below B1.out) (h2.below B1.out) hn1 hn2 hx hy hr)
  clear h1 h2 hn1 hn2 hr
  go_enter Tryd.func50, Tryd.ntmps50
  go_wp2_with fail
  (with_reducible refine HC.out.mono ?_)
  rintro e w4 ⟨pr, kr, cr, rfl, lr, b4⟩
  have R := Lib.hid (show NmPost r w (.returned (.slice pr kr cr)) w4 from ⟨_, _, _, rfl, lr, B1.out.trans (b4.mono B1.out.size)⟩)
  clear lr b4 hW1 D0 D1 D2 D3 D4 D5
  go_wp2
  go_ret
  exact R.out
set_option maxRecDepth 100000 in
set_option maxHeartbeats 2000000 in
theorem second_c (odd : Bool) (a0 b0 a1 b1 : Nat) (made : Bool) (p1 p2 : Option Addr) (k1 k2 c1 c2 n1 n2 r : Nat) (w : World) (h1 : Nm w p1 k1 c1 n1) (h2 : Nm w p2 k2 c2 n2) (hn1 : n1 < bp 2000) (hn2 : n2 < bp 2000)
    (hx : a1 < 18446744073709551616) (hy : b1 < 18446744073709551616) (hr : if odd then a1 * n1 = b1 * n2 + r else b1 * n2 = a1 * n1 + r) :
    Calls Tryd.prog 51 #[stepV a0 b0 a1 b1 odd made, .slice p1 k1 c1, .slice p2 k2 c2] w (NmPost r w) := by
  obtain ⟨W1, hW1⟩ : ∃ W1, w.alloc (.cells #[.int .u64 (a0 : Int), .int .u64 (b0 : Int), .int .u64 (a1 : Int), .int .u64 (b1 : Int), .bool odd, .bool made] 80) = W1 := ⟨_, rfl⟩
  have B1 : Hid (Below w.heap.size w W1) := by rw [← hW1]; exact bel_one _ _
  have D0 : W1.cell? ⟨w.heap.size, 0, none⟩ = some (.int .u64 (a0 : Int)) := by rw [← hW1, World.cell?_alloc_at _ _ _ _ rfl]; rfl
  have D1 : W1.cell? ⟨w.heap.size, 1, none⟩ = some (.int .u64 (b0 : Int)) := by rw [← hW1, World.cell?_alloc_at _ _ _ _ rfl]; rfl
  have D2 : W1.cell? ⟨w.heap.size, 2, none⟩ = some (.int .u64 (a1 : Int)) := by rw [← hW1, World.cell?_alloc_at _ _ _ _ rfl]; rfl
  have D3 : W1.cell? ⟨w.heap.size, 3, none⟩ = some (.int .u64 (b1 : Int)) := by rw [← hW1, World.cell?_alloc_at _ _ _ _ rfl]; rfl
  have D4 : W1.cell? ⟨w.heap.size, 4, none⟩ = some (.bool odd) := by rw [← hW1, World.cell?_alloc_at _ _ _ _ rfl]; rfl
  have D5 : W1.cell? ⟨w.heap.size, 5, none⟩ = some (.bool made) := by rw [← hW1, World.cell?_alloc_at _ _ _ _ rfl]; rfl
  have HC := Lib.hid (combine_c odd a0 b0 a1 b1 made p2 p1 k2 k1 c2 c1 n2 n1 b1 a1 r W1 (h2.below B1.out) (h1.below B1.out) hn2 hn1 hy hx hr)
  clear h1 h2 hn1 hn2 hr
  go_enter Tryd.func51, Tryd.ntmps51
  go_wp2_with fail
  (with_reducible refine HC.out.mono ?_)
  rintro e w4 ⟨pr, kr, cr, rfl, lr, b4⟩
  have R := Lib.hid (show NmPost r w (.returned (.slice pr kr cr)) w4 from ⟨_, _, _, rfl, lr, B1.out.trans (b4.mono B1.out.size)⟩)
  clear lr b4 hW1 D0 D1 D2 D3 D4 D5
  go_wp2
  go_ret
  exact R.out
end Go.Proofs.YtaibpppobblnoaaDoor
