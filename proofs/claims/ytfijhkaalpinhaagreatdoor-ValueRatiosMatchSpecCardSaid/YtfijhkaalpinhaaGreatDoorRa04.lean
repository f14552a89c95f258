/-
  Numbers of any size: the arithmetic of Lehmer's steps, and of windows of bits.
  Numbers of any size: division by one limb.
  Numbers of any size: a copy of a row, differences.
  Numbers of any size: differences.
-/
import Derived.Test.YtfijhkaalpinhaaGreatDoorRa03
import Derived.Laws.OwnMore
import Derived.Laws.Cover3
namespace Go.Proofs.YtfijhkaalpinhaaGreatDoor

/-- Some steps of Euclid's algorithm with the highest bits. -/
structure Stp (odd : Bool) (a0 b0 a1 b1 HA HB hA hB : Nat) : Prop where
  cmb : Cmb odd a0 b0 a1 b1 HA HB hA hB
  bak : Bak a0 b0 a1 b1 HA HB hA hB
  det : Det odd a0 b0 a1 b1
  le : hB ≤ hA
  i1 : a1 ≤ b1
  i2 : a0 + a1 ≤ b0 + b1
  i3 : 1 ≤ b1
  i4 : 1 ≤ a0 + a1
/-- The condition of Collins. -/
structure Coll (a0 b0 a1 b1 hA hB : Nat) : Prop where
  c0 : a0 ≤ b0
  c1 : 1 ≤ b0
  c2 : 1 ≤ a1
  c3 : b1 ≤ hB
  c4 : b0 + b1 + hB ≤ hA
theorem Stp.start {HA HB : Nat} (h : HB ≤ HA) : Stp false 1 0 0 1 HA HB HA HB :=
  ⟨by simp [Cmb], by simp [Bak], by simp [Det], h, by omega, by omega, by omega, by omega⟩
theorem Stp.next {odd : Bool} {a0 b0 a1 b1 HA HB hA hB : Nat} (h : Stp odd a0 b0 a1 b1 HA HB hA hB) (hp : 0 < hB) :
    Stp (!odd) a1 b1 (a0 + hA / hB * a1) (b0 + hA / hB * b1) HA HB hB (hA % hB) ∧ a1 ≤ b1 ∧ 1 ≤ b1 ∧ 1 ≤ a0 + hA / hB * a1 := by
  have hq : 1 ≤ hA / hB := (Nat.le_div_iff_mul_le hp).2 (by have := h.le; omega)
  have hr := Nat.mod_lt hA hp
  have x1 := h.i1
  have x2 := h.i2
  have x3 := h.i3
  have x4 := h.i4
  obtain ⟨q, hq'⟩ : ∃ q, hA / hB = q + 1 := ⟨hA / hB - 1, by omega⟩
  have e1 := cmb_step h.cmb
  have e2 := bak_step h.bak
  have e3 := det_step (hA / hB) h.det
  rw [hq'] at e1 e2 e3 ⊢
  have m1 : q * a1 ≤ q * b1 := Nat.mul_le_mul_left _ x1
  have m2 : (q + 1) * a1 = q * a1 + a1 := by rw [Nat.add_mul, Nat.one_mul]
  have m3 : (q + 1) * b1 = q * b1 + b1 := by rw [Nat.add_mul, Nat.one_mul]
  exact ⟨⟨e1, e2, e3, by omega, by omega, by omega, by omega, by omega⟩, x1, x3, by omega⟩
theorem Stp.bound {odd : Bool} {a0 b0 a1 b1 HA HB hA hB : Nat} (h : Stp odd a0 b0 a1 b1 HA HB hA hB) (hA0 : 0 < hA) : b1 ≤ HA ∧ a1 ≤ HB ∧ (0 < hB → b0 + b1 ≤ HA ∧ a0 ≤ HB) := by
  obtain ⟨e1, e2⟩ := h.bak
  have m1 : b1 * 1 ≤ b1 * hA := Nat.mul_le_mul_left _ hA0
  have m2 : a1 * 1 ≤ a1 * hA := Nat.mul_le_mul_left _ hA0
  refine ⟨by omega, by omega, fun hp => ?_⟩
  have m3 : b0 * 1 ≤ b0 * hB := Nat.mul_le_mul_left _ hp
  have m4 : a0 * 1 ≤ a0 * hB := Nat.mul_le_mul_left _ hp
  exact ⟨by omega, by omega⟩
/-- What the steps do to the numbers themselves. -/
theorem Stp.all {odd : Bool} {a0 b0 a1 b1 HA HB hA hB P la lb : Nat} (h : Stp odd a0 b0 a1 b1 HA HB hA hB) (hc : Coll a0 b0 a1 b1 hA hB) (hla : la < P) (hlb : lb < P) :
    ∃ a' b', Cmb odd a0 b0 a1 b1 (HA * P + la) (HB * P + lb) a' b' ∧ b' < a' ∧ a' ≤ HB * P + lb ∧ Nat.gcd a' b' = Nat.gcd (HA * P + la) (HB * P + lb) := by
  obtain ⟨a', b', hcm, hle⟩ := cmb_all h.cmb hla hlb hc.c0 h.i1 hc.c3 hc.c4
  have hg := gcd_of h.det hcm
  have hbk := bak_of h.det hcm
  have m1 : 1 * a' ≤ a1 * a' := Nat.mul_le_mul_right _ hc.c2
  refine ⟨a', b', hcm, ?_, by rw [hbk.2]; omega, hg⟩
  have c1 := hc.c1
  have c4 := hc.c4
  have n2 : b0 * lb + b0 ≤ b0 * P := by rw [← Nat.mul_succ]; exact Nat.mul_le_mul_left _ hlb
  have n2' : b1 * lb ≤ b1 * P := Nat.mul_le_mul_left _ (by omega)
  have n3 : a0 * la ≤ b0 * la := Nat.mul_le_mul_right _ hc.c0
  have n4 : b0 * la + b0 ≤ b0 * P := by rw [← Nat.mul_succ]; exact Nat.mul_le_mul_left _ hla
  have n5 : a1 * la ≤ b1 * la := Nat.mul_le_mul_right _ h.i1
  have n6 : b1 * la ≤ b1 * P := Nat.mul_le_mul_left _ (by omega)
  have m8 : (b0 + b1 + hB) * P ≤ hA * P := Nat.mul_le_mul_right _ c4
  rw [Nat.add_mul, Nat.add_mul] at m8
  have hcb := h.cmb
  cases odd
  · simp only [Cmb, Bool.false_eq_true, if_false] at hcb hcm
    obtain ⟨e1, e2⟩ := hcb
    obtain ⟨g1, g2⟩ := hcm
    have f1 : a0 * (HA * P + la) = b0 * (HB * P) + hA * P + a0 * la := by grind
    have f2 : b1 * (HB * P + lb) = a1 * (HA * P) + hB * P + b1 * lb := by grind
    rw [f1, Nat.mul_add] at g1
    rw [f2, Nat.mul_add] at g2
    omega
  · simp only [Cmb, if_true] at hcb hcm
    obtain ⟨e1, e2⟩ := hcb
    obtain ⟨g1, g2⟩ := hcm
    have f1 : b0 * (HB * P + lb) = a0 * (HA * P) + hA * P + b0 * lb := by grind
    have f2 : a1 * (HA * P + la) = b1 * (HB * P) + hB * P + a1 * la := by grind
    rw [f1, Nat.mul_add] at g1
    rw [f2, Nat.mul_add] at g2
    omega
/-- The highest 64 bits from a place on. -/
theorem win_bits {n h l r p s : Nat} (hn : n = (h * 18446744073709551616 + l) * p + r) (hr : r < p) (hs : s < 64) (hl : l < 18446744073709551616) (hh : h * 2 ^ s < 18446744073709551616) :
    (h * 2 ^ s ||| l / 2 ^ (64 - s)) = n / (p * 2 ^ (64 - s)) ∧ n / (p * 2 ^ (64 - s)) < 18446744073709551616 := by
  have hp2 : 0 < 2 ^ (64 - s) := Nat.pow_pos (by decide)
  have hp : 0 < p := by omega
  have e1 : l / 2 ^ (64 - s) = l * 2 ^ s / 18446744073709551616 := (shr_is hs).symm
  have e2 : l * 2 ^ s / 18446744073709551616 < 2 ^ s := shl_high hl
  have a1 : (h * 2 ^ s ||| l / 2 ^ (64 - s)) = h * 2 ^ s + l / 2 ^ (64 - s) := by
    rw [e1, Nat.or_comm, Nat.mul_comm h, or_add e2]; omega
  have a2 : n / p = h * 18446744073709551616 + l := by
    rw [hn, Nat.mul_comm _ p, Nat.mul_add_div hp, Nat.div_eq_of_lt hr, Nat.add_zero]
  have a3 : n / (p * 2 ^ (64 - s)) = h * 2 ^ s + l / 2 ^ (64 - s) := by
    rw [← Nat.div_div_eq_div_mul, a2, ← pow_split hs, show h * (2 ^ (64 - s) * 2 ^ s) + l = 2 ^ (64 - s) * (h * 2 ^ s) + l by grind, Nat.mul_add_div hp2]
  refine ⟨by rw [a1, a3], ?_⟩
  rw [a3, e1]
  have hd : h * 2 ^ s + 2 ^ s ≤ 18446744073709551616 := by
    rw [← pow_split hs] at hh ⊢
    have : h < 2 ^ (64 - s) := Nat.lt_of_mul_lt_mul_right hh
    have := Nat.mul_le_mul_right (2 ^ s) (show h + 1 ≤ 2 ^ (64 - s) from this)
    rw [Nat.add_mul, Nat.one_mul] at this
    exact this
  omega
end Go.Proofs.YtfijhkaalpinhaaGreatDoor
namespace Go.Proofs.YtfijhkaalpinhaaGreatDoor
open Go.RowKit

theorem bitLen_ex : ∀ y : Nat, 0 < y → y < 18446744073709551616 → ∃ b, Lib.bitLen y = b + 1 ∧ 2 ^ b ≤ y ∧ y < 2 ^ (b + 1) := by
  intro y
  induction y using Nat.strongRecOn with
  | _ y ih =>
    intro h0 hy
    have e := Lib.bitLen_half y (by omega) hy
    by_cases h1 : y = 1
    · subst h1; exact ⟨0, by decide, by decide, by decide⟩
    · obtain ⟨b, e1, e2, e3⟩ := ih (y / 2) (by omega) (by omega) (by omega)
      exact ⟨b + 1, by omega, by rw [Nat.pow_succ]; omega, by rw [Nat.pow_succ]; omega⟩
/-- How far a limb is from having its highest bit set. -/
theorem lead_ex (y : Nat) (h0 : 0 < y) (hy : y < 18446744073709551616) : ∃ s : Nat, s < 64 ∧ 9223372036854775808 ≤ y * 2 ^ s ∧ y * 2 ^ s < 18446744073709551616 ∧
    ∀ w, Calls Tryz.prog 130 #[.int .u64 y] w fun e w' => e = .returned (.int .i64 (s : Int)) ∧ w = w' := by
  obtain ⟨b, hb1, h1, h2⟩ := bitLen_ex y h0 hy
  have hb64 : b < 64 := by
    rcases Nat.lt_or_ge b 64 with l | l
    · exact l
    · have : 2 ^ 64 ≤ 2 ^ b := Nat.pow_le_pow_right (by decide) l
      omega
  have hl := lead h1 h2 hb64
  refine ⟨63 - b, by omega, hl.1, hl.2, fun w => (Tryz.bits_LeadingZeros64 (y : Int) w (by omega) (by omega)).mono ?_⟩
  rintro e w' ⟨rfl, rfl⟩
  refine ⟨?_, rfl⟩
  have e : ((y : Int)).toNat = y := by omega
  rw [e, hb1]
  exact ret_int (by omega)
def Div64Post (n y : Nat) (w : World) (e : Ending) (w' : World) : Prop := ∃ q r : Nat, e = .returned (.tuple #[.int .u64 (q : Int), .int .u64 (r : Int)]) ∧ q = n / y ∧ r = n % y ∧ ∃ m, w' = w.drewN m
set_option maxRecDepth 100000 in
theorem div64_lo (l y : Nat) (w : World) (hl : l < 18446744073709551616) (h0 : 0 < y) (hy : y < 18446744073709551616) : Calls Tryz.prog 101 #[.int .u64 0, .int .u64 l, .int .u64 y] w (Div64Post l y w) := by
  have hz : ((y : Int) == 0) = false := by rw [beq_eq_false_iff_ne]; omega
  have hz3 : decide ((y : Int) ≤ 0) = false := by rw [decide_eq_false_iff_not]; omega
  obtain ⟨q, hq⟩ : ∃ q, l / y = q := ⟨_, rfl⟩
  have e1 : (l : Int) / (y : Int) = (q : Int) := div_cast hq
  have hqb : q < 18446744073709551616 := by rw [← hq]; have := Nat.div_le_self l y; omega
  have HQ := Lib.hid hq
  clear hq
  go_enter Tryz.func101, Tryz.ntmps101
  go_wp2_with fail
  go_quiet (fail)
  go_wp2
  go_ret2
  exact ⟨q, l % y, rfl, HQ.out.symm, rfl, _, rfl⟩
theorem div64_c (h l y : Nat) (w : World) (hl : l < 18446744073709551616) (hh : h < y) (hy : y < 18446744073709551616) :
    Calls Tryz.prog 101 #[.int .u64 h, .int .u64 l, .int .u64 y] w (Div64Post (h * 18446744073709551616 + l) y w) := by
  rcases Nat.eq_zero_or_pos h with e | h0
  · subst e
    rw [Nat.zero_mul, Nat.zero_add]
    exact div64_lo l y w hl hh hy
  · obtain ⟨s, hs, hY1, hY2, HZ⟩ := lead_ex y (by omega) hy
    obtain ⟨a1, a2, a3, a4⟩ := norm_hi hs hh hl hY2
    have hp : 0 < 2 ^ s := Nat.pow_pos (by decide)
    have hu := Nat.mod_lt (l * 2 ^ s) (show 0 < 18446744073709551616 by decide)
    have hls : l / 2 ^ (64 - s) < 18446744073709551616 := by have := Nat.div_le_self l (2 ^ (64 - s)); omega
    have e4 : h * 2 ^ s % 18446744073709551616 = h * 2 ^ s := Nat.mod_eq_of_lt a1
    have e1 : y * 2 ^ s % 18446744073709551616 = y * 2 ^ s := Nat.mod_eq_of_lt hY2
    have no := @norm_out (h * 18446744073709551616 + l) y s
    rw [← a4] at no
    generalize hY : y * 2 ^ s = Y at *
    generalize hhs : h * 2 ^ s = hsv at *
    generalize hlsv : l / 2 ^ (64 - s) = ls at *
    generalize hu10 : l * 2 ^ s % 18446744073709551616 = u10 at *
    have eu : (hsv + ls) * 18446744073709551616 + u10 = ((hsv + ls) * 4294967296 + u10 / 4294967296) * 4294967296 + u10 % 4294967296 := by omega
    rw [eu] at no
    have hv := @halves0 Y ((hsv + ls) * 4294967296 + u10 / 4294967296) 4294967296 (u10 % 4294967296) (by omega)
    rw [← hv.1, ← hv.2] at no
    refine (div64_hi h l y s Y (Y / 4294967296) (Y % 4294967296) hsv ls (hsv + ls) u10 (u10 / 4294967296) (u10 % 4294967296) _ _ _ _ _ w h0 hh hs (wrap_shl (by rw [hY]; exact e1)) (div_cast rfl) (and_mask hY2 rfl) (wrap_shl (by rw [hhs]; exact e4)) (wrap_shl hu10) (div_cast rfl) (and_mask hu rfl) (shr_cast hlsv) (or_cast a1 hls a2) (by omega) hY2 (by omega) (by omega) (by omega) (by omega) a3 rfl rfl rfl rfl rfl HZ).mono ?_
    rintro e w' ⟨rfl, rfl⟩
    exact ⟨_, _, rfl, no.1, no.2, 0, rfl⟩
/-- A number divided by a limb: the next limb. -/
theorem short_step {Q R D X P f r' q' : Nat} (h : Q * D + R = X) (h2 : R * 18446744073709551616 + f = q' * D + r') (hP : P = P) :
    (q' + 18446744073709551616 * Q) * D + r' = f + 18446744073709551616 * X := by
  have : 18446744073709551616 * X = 18446744073709551616 * (Q * D) + 18446744073709551616 * R := by rw [← h, Nat.mul_add]
  rw [Nat.add_mul, Nat.mul_assoc]
  omega
def ShortPost (n d : Nat) (w : World) (e : Ending) (w' : World) : Prop := ∃ a k c, ∃ r : Nat, e = .returned (.tuple #[.slice a k c, .int .u64 (r : Int)]) ∧ r = n % d ∧ Nm w' a k c (n / d) ∧ Below w.heap.size w w'
/-- The same, with the quotient in a new block. -/
def ShortPost2 (n d : Nat) (w : World) (e : Ending) (w' : World) : Prop := ∃ k c, ∃ r : Nat, e = .returned (.tuple #[.slice (some ⟨w.heap.size, 0, none⟩) k c, .int .u64 (r : Int)]) ∧ r = n % d ∧ Nm w' (some ⟨w.heap.size, 0, none⟩) k c (n / d) ∧ Below w.heap.size w w'
set_option maxRecDepth 100000 in
set_option maxHeartbeats 2000000 in
theorem divideShort_f (a : Option Addr) (k c n d : Nat) (w : World) (h : Nm w a k c n) (hd0 : 0 < d) (hd : d < 18446744073709551616) :
    Calls Tryz.prog 74 #[.slice a k c, .int .u64 d] w (ShortPost2 n d w) := by
  obtain ⟨f, hr, hkc, hc, htop, hs, _⟩ := h
  have hk2 := hr.1
  have hmk := fun w => mk_limbs k hk2 w
  have H := Lib.hid hr
  have HS := Lib.hid hs
  clear hr hs htop
  go_enter Tryz.func74, Tryz.ntmps74
  go_wp2_with fail
  have B0 := Lib.hid (Bf.made w k 80)
  have BL : Hid (Below w.heap.size w (w.alloc (.cells (madeCells #[.int .u64 0] k) 80))) := bel_one _ _
  generalize hW1 : w.alloc (.cells (madeCells #[.int .u64 0] k) 80) = W1 at *
  clear hW1 hmk
  go_loopw [7, 8] (fun v i wr => ∃ (m y : Nat) (g : Nat → Nat), m ≤ k ∧ i = .int .i64 ((m : Int) - 1) ∧ v = .int .u64 y ∧ y < d ∧ Hid (Bf wr w.heap.size k g ∧ Below w.heap.size w wr ∧ S (from_ g m) (k - m) * d + y = S (from_ f m) (k - m))) (fun _ i _ => (intOf i + 1).toNat)
  case atStart => exact ⟨k, 0, fun _ => 0, Nat.le_refl _, rfl, rfl, hd0, B0.out, BL.out, by rw [Nat.sub_self, S_zero, S_zero]; omega⟩
  case round =>
    obtain ⟨m, y, g, hm, rfl, rfl, hy, hR⟩ := hrel
    rcases Nat.eq_zero_or_pos m with e | e
    · subst e
      have E : Hid (S g k = n / d ∧ y = n % d) := by
        have h := hR.out.2.2
        have e1 : from_ g 0 = g := by funext j; unfold from_; rw [Nat.zero_add]
        have e2 : from_ f 0 = f := by funext j; unfold from_; rw [Nat.zero_add]
        rw [e1, e2, Nat.sub_zero, HS.out] at h
        have hd1 : (y + S g k * d) / d = S g k := by rw [Nat.add_mul_div_right _ _ hd0, Nat.div_eq_of_lt hy, Nat.zero_add]
        have hd2 : (y + S g k * d) % d = y := by rw [Nat.add_mul_mod_self_right, Nat.mod_eq_of_lt hy]
        rw [Nat.add_comm, h] at hd1 hd2
        exact ⟨hd1.symm, hd2.symm⟩
      have BB := Lib.hid hR.out.1
      have BL2 := Lib.hid hR.out.2.1
      clear hR
      go_wp2_with fail
      refine (trim_c2 (some ⟨w.heap.size, 0, none⟩) k k g wr (BB.out.rl0 (Nat.le_refl _) hk2) (Nat.le_refl _) (by omega) (Pl.some_ _ _)).mono ?_
      rintro e w5 ⟨k', rfl, hN, rfl⟩
      rw [E.out.1] at hN
      have R := Lib.hid (show ShortPost2 n d w (.returned (.tuple #[.slice (some ⟨w.heap.size, 0, none⟩) k' k, .int .u64 (y : Int)])) wr from ⟨k', k, y, rfl, E.out.2, hN, BL2.out⟩)
      clear hN
      go_wp2
      go_ret2
      exact R.out
    · obtain ⟨p, rfl⟩ : ∃ p, m = p + 1 := ⟨m - 1, by omega⟩
      obtain ⟨b, off, rfl, hb, hc1⟩ := (H.out.below hR.out.2.1).at_ (show p < k by omega)
      have hx := H.out.2.1 p (by omega)
      have hp : (p : Int) < (k : Int) := by omega
      have ei : ((p + 1 : Nat) : Int) - 1 = (p : Int) := by omega
      rw [ei]
      have HD := Lib.hid (fun w => div64_c y (f p) d w hx hy hd)
      have HF : Hid (S (from_ f p) (k - p) = f p + 18446744073709551616 * S (from_ f (p + 1)) (k - (p + 1))) := by
        unfold Hid
        rw [show k - p = (k - (p + 1)) + 1 by omega, S_cons]
      generalize f p = x at *
      go_wp2_with fail
      refine (HD.out _).mono ?_
      rintro e w2 ⟨q, r, rfl, hq, hr, nq, rfl⟩
      have hqr : y * 18446744073709551616 + x = q * d + r := by rw [hq, hr]; exact (Nat.div_add_mod' _ _).symm
      have hr2 : r < d := by rw [hr]; exact Nat.mod_lt _ hd0
      have hq2 : q < 18446744073709551616 := by
        rw [hq]
        refine Nat.div_lt_of_lt_mul ?_
        have : (y + 1) * 18446744073709551616 ≤ d * 18446744073709551616 := Nat.mul_le_mul_right _ hy
        omega
      have hrb : r < 18446744073709551616 := by omega
      have HB : Hid (Below wr.heap.size wr (wr.drewN nq)) := bel_drewN _ _
      have BB := Lib.hid (hR.out.1.below HB.out)
      have BL2 : Hid (Below w.heap.size w (wr.drewN nq)) := hR.out.2.1.trans (HB.out.mono hR.out.2.1.size)
      have hBj := BB.out.2.2 p (by omega)
      have hc2 := hBj.1
      have hf2 := hBj.2
      have NX : Hid (Bf ((wr.drewN nq).setCell ⟨w.heap.size, p, none⟩ (.int .u64 q)) w.heap.size k (put g p q) ∧ Below w.heap.size w ((wr.drewN nq).setCell ⟨w.heap.size, p, none⟩ (.int .u64 q)) ∧ S (from_ (put g p q) p) (k - p) * d + r = S (from_ f p) (k - p)) := by
        refine ⟨BB.out.put (by omega) hq2, BL2.out.setCell (p := ⟨w.heap.size, p, none⟩) (Nat.le_refl _) _, ?_⟩
        have e1 : S (from_ (put g p q) p) (k - p) = q + 18446744073709551616 * S (from_ g (p + 1)) (k - (p + 1)) := by
          rw [show k - p = (k - (p + 1)) + 1 by omega, S_cons, put_same]
          congr 2
          exact S_congr (fun j hj => put_ne (by omega))
        rw [e1, HF.out]
        exact short_step (P := 0) hR.out.2.2 hqr rfl
      clear hq hr hqr hBj HD HF
      generalize wr.drewN nq = W3 at *
      go_wp2
      go_roundw
      case rel => exact ⟨p, r, put g p q, by omega, by go_num, rfl, hr2, NX.out⟩
      case measure => simp [intOf]
theorem divideShort_c (a : Option Addr) (k c n d : Nat) (w : World) (h : Nm w a k c n) (hd0 : 0 < d) (hd : d < 18446744073709551616) :
    Calls Tryz.prog 74 #[.slice a k c, .int .u64 d] w (ShortPost n d w) :=
  (divideShort_f a k c n d w h hd0 hd).mono fun e w' ⟨k', c', r, he, hr, hn, hb⟩ => ⟨_, k', c', r, he, hr, hn, hb⟩
end Go.Proofs.YtfijhkaalpinhaaGreatDoor
namespace Go.Proofs.YtfijhkaalpinhaaGreatDoor
open Go.RowKit

theorem info_limb : ∃ i, Tryz.prog.info? 80 = some i ∧ i.zero = some (.int .u64 0) ∧ i.size = 1 ∧ i.bytes = 8 := by
  have h := infoL
  cases e : Tryz.prog.info? 80 with
  | none => rw [e] at h; cases h
  | some i => rw [e] at h; simp at h; exact ⟨i, rfl, h⟩
theorem nil_eq (a : Option Addr) (k c : Nat) (w : World) : (binOp .eql 42 (.slice a k c) (.slice none 0 0)).run Tryz.prog w = .ok (.bool a.isNone) w := by
  simp only [binOp]
  simp [run_equal_slice_nil w 42 80 a k c Tryz.underlying42]
/-- A copy of a row, the caller's own. -/
def CopyPost (k : Nat) (f : Nat → Nat) (w : World) (e : Ending) (w' : World) : Prop :=
  ∃ a c, e = .returned (.slice a k c) ∧ k ≤ c ∧ c ≤ 9223372036854775807 ∧ Pl a c ∧ Below w.heap.size w w' ∧ (0 < k → ∃ g, a = some ⟨g, 0, none⟩ ∧ w.heap.size ≤ g ∧ Bf w' g k f)
set_option maxRecDepth 100000 in
set_option maxHeartbeats 1000000 in
theorem clone_c (a : Option Addr) (k c : Nat) (f : Nat → Nat) (w : World) (h : Rl w a k f) (ha : Pl a c) :
    Calls Tryz.prog 128 #[.slice a k c] w (CopyPost k f w) := by
  rcases ha with ⟨rfl, rfl⟩ | ⟨b, off, rfl⟩
  · have hk : k = 0 := by
      rcases Nat.eq_zero_or_pos k with e | e
      · exact e
      · obtain ⟨b, off, he, _⟩ := h.2.2 e
        cases he
    subst hk
    have hnil := nil_eq none 0 0
    go_enter Tryz.func128, Tryz.ntmps128
    go_wp2
    go_ret
    exact ⟨_, _, rfl, by omega, by omega, Pl.none_, Below.refl _ _, fun h => by omega⟩
  · obtain ⟨i0, hi, hz0, hz1, hz2⟩ := info_limb
    have H := Lib.hid h
    have hk := h.1
    clear h
    have hnil := nil_eq (some ⟨b, off, none⟩) k c
    go_enter Tryz.func128, Tryz.ntmps128
    go_wp2_with (at_builtin; refine wpList_append_own _ rfl _ _ 42 rfl w.heap.size 80 i0 (.int .u64 0) 1 8 Tryz.underlying42 hi hz0 hz1 hz2 rfl (by decide) _ _ _ rfl (World.ownsRow_made w #[] 0 (Nat.le_refl _) (by decide) rfl) ⟨b, off, none⟩ k c (lcells f k) rfl ?c1 ?c2 ?c3 ?c4 ?c5 ?c6 ?_)
    case c1 => simp [lcells]
    case c2 =>
      intro j u hj
      have hjk : j < k := by
        have := (List.getElem?_eq_some_iff.1 hj).1
        simpa [lcells] using this
      rw [lcells_at hjk] at hj
      cases hj
      have hb : Below w.heap.size w (w.alloc (.cells #[] 80)) := bel_one _ _
      obtain ⟨b', off', e, _, hc⟩ := (H.out.below hb).at_ hjk
      injection e with e
      injection e with e1 e2
      subst e1 e2
      have e2 : (Addr.mk b off none).add j = ⟨b, off + j, none⟩ := by
        unfold Addr.add
        split
        · rename_i h; subst h; rfl
        · rfl
      rw [e2]; exact hc
    case c3 => intro u hu; unfold lcells at hu; obtain ⟨j, _, rfl⟩ := List.mem_map.1 hu; rfl
    case c4 => unfold maxLen; omega
    case c5 => omega
    case c6 => simp
    intro v' w1 hown hgrow _
    have hb : Below w.heap.size w w1 := (bel_one w (.cells #[] 80)).grown hgrow (by simp) (fun b hb => by simp [Value.ownBlock] at hb; omega)
    have hpost : Hid (CopyPost k f w (.returned v') w1) := by
      obtain ⟨hl, ⟨rfl, h0⟩ | ⟨g, cap, cur, rfl, hg, hobj, hnc, hm, hs, ht⟩⟩ := id hown
      · obtain rfl : k = 0 := by omega
        exact ⟨none, 0, rfl, by omega, by omega, Pl.none_, hb, fun h => by omega⟩
      · refine ⟨some ⟨g, 0, none⟩, cap, rfl, by omega, by unfold maxLen at hm; exact hm, Pl.some_ _ _, hb, fun hk0 => ⟨g, rfl, hg, lt_of_block hobj, H.out.2.1, fun j hj => ⟨?_, hown.frozenAt j⟩⟩⟩
        have t := World.ownsRow.cells hown rfl j (.int .u64 (f j : Int)) (lcells_at hj)
        by_cases h0 : j = 0 <;> simpa [Addr.add, h0] using t
    clear hown hgrow hb
    go_wp2
    go_ret
    exact hpost.out
end Go.Proofs.YtfijhkaalpinhaaGreatDoor
namespace Go.Proofs.YtfijhkaalpinhaaGreatDoor
open Go.RowKit

/-- A row with zeros behind it. -/
def ext (f : Nat → Nat) (k : Nat) : Nat → Nat := fun j => if j < k then f j else 0
theorem ext_in {f : Nat → Nat} {k j : Nat} (h : j < k) : ext f k j = f j := by unfold ext; rw [if_pos h]
theorem ext_out {f : Nat → Nat} {k j : Nat} (h : k ≤ j) : ext f k j = 0 := by unfold ext; rw [if_neg (by omega)]
theorem S_ext (f : Nat → Nat) {k m : Nat} (h : k ≤ m) : S (ext f k) m = S f k := by
  obtain ⟨d, rfl⟩ := Nat.exists_eq_add_of_le h
  have e : S (ext f k) k = S f k := S_congr (fun j hj => ext_in hj)
  rw [S_at, S_zeros (f := from_ (ext f k) k) (fun j _ => by unfold from_; exact ext_out (by omega)), e]
  omega
set_option maxRecDepth 100000 in
set_option maxHeartbeats 4000000 in
theorem difference_c (a1 a2 : Option Addr) (k1 k2 c1 c2 n1 n2 : Nat) (w : World) (h1 : Nm w a1 k1 c1 n1) (h2 : Nm w a2 k2 c2 n2) (hle : n2 ≤ n1) :
    Calls Tryz.prog 99 #[.slice a1 k1 c1, .slice a2 k2 c2] w (NmPost (n1 - n2) w) := by
  have hk12 : k2 ≤ k1 := by
    refine h2.len ?_
    have := h1.lt
    omega
  obtain ⟨f1, r1, hkc1, hcc1, t1, s1, p1⟩ := h1
  obtain ⟨f2, r2, hkc2, hcc2, t2, s2, p2⟩ := h2
  have hk1 := r1.1
  have HC := Lib.hid (clone_c a1 k1 c1 f1 w r1 p1)
  have S1 := Lib.hid s1
  have S2 : Hid (S (ext f2 k2) k1 = n2) := by unfold Hid; rw [S_ext f2 hk12, s2]
  have L1 := Lib.hid r1.2.1
  have H2 := Lib.hid r2
  clear r1 r2 s1 s2 t1 t2 p1 p2
  go_enter Tryz.func99, Tryz.ntmps99
  go_wp2_with fail
  refine HC.out.mono ?_
  rintro e w2 ⟨a, c, rfl, hkc, hcc, hpa, hB, hg⟩
  have PA := Lib.hid hpa
  have BL := Lib.hid hB
  have GG := Lib.hid hg
  clear hpa hB hg HC
  go_wp2_with fail
  rcases Nat.eq_zero_or_pos k1 with h0 | h0
  · subst h0
    have e0 : Hid (n1 - n2 = 0) := by unfold Hid; rw [← S1.out, S_zero]; omega
    go_loopw [6, 13] (fun v i wr => v = .int .u64 0 ∧ i = .int .i64 0 ∧ Hid (wr = w2)) (fun _ _ _ => 0)
    case atStart => exact ⟨rfl, rfl, rfl⟩
    case round =>
      obtain ⟨rfl, rfl, hw⟩ := hrel
      have hw := hw.out
      subst hw
      go_wp2_with fail
      refine (trim_c a 0 c f1 wr (Rl.nil _ _ _) (by omega) hcc PA.out).mono ?_
      rintro e w5 ⟨a', k', c', rfl, hN, b5⟩
      rw [S_zero, ← e0.out] at hN
      have R := Lib.hid (show NmPost (n1 - n2) w (.returned (.slice a' k' c')) w5 from ⟨a', k', c', rfl, hN, BL.out.trans (b5.mono BL.out.size)⟩)
      clear hN b5
      go_wp2
      go_ret
      exact R.out
  · obtain ⟨g, rfl, hg, hbf⟩ := GG.out h0
    have HG := Lib.hid hg
    have B0 := Lib.hid hbf
    clear hg hbf GG PA
    go_loopw [6, 13] (fun v i wr => ∃ (j y : Nat) (F : Nat → Nat), j ≤ k1 ∧ i = .int .i64 j ∧ v = .int .u64 y ∧ y ≤ 1 ∧ Hid (Bf wr g k1 F ∧ Below w.heap.size w wr ∧ (∀ i, j ≤ i → i < k1 → F i = f1 i) ∧ S F j + S (ext f2 k2) j = S f1 j + y * bp j)) (fun _ i _ => k1 - (intOf i).toNat)
    case atStart => exact ⟨0, 0, f1, Nat.zero_le _, rfl, rfl, by omega, B0.out, BL.out, fun _ _ _ => rfl, by simp only [S_zero]; omega⟩
    case round =>
      obtain ⟨j, y, F, hj, rfl, rfl, hy, hR⟩ := hrel
      by_cases hlt : j < k1
      · have hlt' : (j : Int) < (k1 : Int) := by omega
        have hBj := hR.out.1.2.2 j hlt
        have hz := L1.out j hlt
        have ez : F j = f1 j := hR.out.2.2.1 j (Nat.le_refl _) hlt
        have hc2 := hBj.1
        have hf2 := hBj.2
        rw [ez] at hc2
        by_cases hj2 : j < k2
        · obtain ⟨b, off, rfl, hbl, hc1⟩ := (H2.out.below hR.out.2.1).at_ hj2
          have hx := H2.out.2.1 j hj2
          have hj2' : (j : Int) < (k2 : Int) := by omega
          have ex : ext f2 k2 j = f2 j := ext_in hj2
          rw [← ex] at hc1 hx
          clear ex
          obtain ⟨s, d, hsub, hb1, hb2, hb3⟩ := subs (f1 j) (ext f2 k2 j) y rfl rfl rfl hz hx hy
          have hstep : S (put F j s) (j + 1) + S (ext f2 k2) (j + 1) = S f1 (j + 1) + d * bp (j + 1) := by
            rw [S_put, bp_succ, S_succ, S_succ]
            exact step_sub hR.out.2.2.2 hb1
          have NX : Hid (Bf (wr.setCell ⟨g, j, none⟩ (.int .u64 s)) g k1 (put F j s) ∧ Below w.heap.size w (wr.setCell ⟨g, j, none⟩ (.int .u64 s)) ∧ (∀ i, j + 1 ≤ i → i < k1 → put F j s i = f1 i) ∧ S (put F j s) (j + 1) + S (ext f2 k2) (j + 1) = S f1 (j + 1) + d * bp (j + 1)) := by
            refine ⟨hR.out.1.put (by omega) hb2, hR.out.2.1.setCell (p := ⟨g, j, none⟩) HG.out _, fun i hi hi2 => ?_, hstep⟩
            rw [put_ne (by omega)]; exact hR.out.2.2.1 i (by omega) hi2
          clear hBj hb1 hstep ez
          generalize ext f2 k2 j = x at *
          generalize f1 j = z at *
          go_wp2_with (rw [hsub])
          go_roundw
          case rel => exact ⟨j + 1, d, put F j s, by omega, by go_num, rfl, hb3, NX.out⟩
          case measure => simp [intOf]; omega
        · have hx : ext f2 k2 j < 18446744073709551616 := by rw [ext_out (by omega)]; decide
          have hj2' : ¬ (j : Int) < (k2 : Int) := by omega
          have ex : ext f2 k2 j = 0 := ext_out (by omega)
          obtain ⟨s, d, hsub, hb1, hb2, hb3⟩ := subs (f1 j) (ext f2 k2 j) y rfl (by rw [ex]; rfl : (0 : Int) = ((ext f2 k2 j : Nat) : Int)) rfl hz hx hy
          have hstep : S (put F j s) (j + 1) + S (ext f2 k2) (j + 1) = S f1 (j + 1) + d * bp (j + 1) := by
            rw [S_put, bp_succ, S_succ, S_succ]
            exact step_sub hR.out.2.2.2 hb1
          have NX : Hid (Bf (wr.setCell ⟨g, j, none⟩ (.int .u64 s)) g k1 (put F j s) ∧ Below w.heap.size w (wr.setCell ⟨g, j, none⟩ (.int .u64 s)) ∧ (∀ i, j + 1 ≤ i → i < k1 → put F j s i = f1 i) ∧ S (put F j s) (j + 1) + S (ext f2 k2) (j + 1) = S f1 (j + 1) + d * bp (j + 1)) := by
            refine ⟨hR.out.1.put (by omega) hb2, hR.out.2.1.setCell (p := ⟨g, j, none⟩) HG.out _, fun i hi hi2 => ?_, hstep⟩
            rw [put_ne (by omega)]; exact hR.out.2.2.1 i (by omega) hi2
          clear hBj hb1 hstep ez
          clear ex hx
          generalize f1 j = z at *
          go_wp2_with (rw [hsub])
          go_roundw
          case rel => exact ⟨j + 1, d, put F j s, by omega, by go_num, rfl, hb3, NX.out⟩
          case measure => simp [intOf]; omega
      · obtain rfl : j = k1 := by omega
        clear hlt
        have E : Hid (S F j = n1 - n2) := by
          have h := hR.out.2.2.2
          have hl := S_lt hR.out.1.2.1
          rw [S1.out, S2.out] at h
          unfold Hid
          rcases Nat.eq_zero_or_pos y with e | e
          · subst e; omega
          · obtain rfl : y = 1 := by omega
            rw [Nat.one_mul] at h
            omega
        have BB := Lib.hid hR.out.1
        have BL2 := Lib.hid hR.out.2.1
        clear hR
        go_wp2_with fail
        refine (trim_c (some ⟨g, 0, none⟩) j c F wr (BB.out.rl0 (Nat.le_refl _) hk1) hkc hcc (Pl.some_ _ _)).mono ?_
        rintro e w5 ⟨a', k', c', rfl, hN, b5⟩
        rw [E.out] at hN
        have R := Lib.hid (show NmPost (n1 - n2) w (.returned (.slice a' k' c')) w5 from ⟨a', k', c', rfl, hN, BL2.out.trans (b5.mono BL2.out.size)⟩)
        clear hN b5
        go_wp2
        go_ret
        exact R.out
end Go.Proofs.YtfijhkaalpinhaaGreatDoor
