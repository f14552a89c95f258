/-
  Numbers of any size: division by one limb.
-/
import Derived.Test.YtaibpppobblnoaaDoorWhDiv
import Derived.Test.YtaibpppobblnoaaDoorWhLehM
namespace Go.Proofs.YtaibpppobblnoaaDoor
open Go.RowKit

theorem bitLen_ex : ∀ y : Nat, 0 < y → y < 18446744073709551616 → ∃ b, Lib.bitLen y = b + 1 ∧ 2 ^ b ≤ y ∧ y < 2 ^ (b + 1) := by
  intro y
  induction y using Nat.strongRecOn with
  | _ y ih =>
    intro h0 hy
    have e := Lib.bitLen_half y (by omega) hy
    by_cases h1 : y = 1
    · subst h1; exact ⟨0, by decide, by decide, by decide⟩
    · obtain ⟨b, e1, e2, e3⟩ := ih (y / 2) (by omega) (by omega) (by omega)
      exact ⟨b + 1, by omega, by rw [Nat.pow_succ]; omega, by rw [Nat.pow_succ]; omega⟩
/-- How far a limb is from having its highest bit set. -/
theorem lead_ex (y : Nat) (h0 : 0 < y) (hy : y < 18446744073709551616) : ∃ s : Nat, s < 64 ∧ 9223372036854775808 ≤ y * 2 ^ s ∧ y * 2 ^ s < 18446744073709551616 ∧
    ∀ w, Calls Tryd.prog 65 #[.int .u64 y] w fun e w' => e = .returned (.int .i64 (s : Int)) ∧ w = w' := by
  obtain ⟨b, hb1, h1, h2⟩ := bitLen_ex y h0 hy
  have hb64 : b < 64 := by
    rcases Nat.lt_or_ge b 64 with l | l
    · exact l
    · have : 2 ^ 64 ≤ 2 ^ b := Nat.pow_le_pow_right (by decide) l
      omega
  have hl := lead h1 h2 hb64
  refine ⟨63 - b, by omega, hl.1, hl.2, fun w => (Tryd.bits_LeadingZeros64 (y : Int) w (by omega) (by omega)).mono ?_⟩
  rintro e w' ⟨rfl, rfl⟩
  refine ⟨?_, rfl⟩
  have e : ((y : Int)).toNat = y := by omega
  rw [e, hb1]
  exact ret_int (by omega)
def Div64Post (n y : Nat) (w : World) (e : Ending) (w' : World) : Prop := ∃ q r : Nat, e = .returned (.tuple #[.int .u64 (q : Int), .int .u64 (r : Int)]) ∧ q = n / y ∧ r = n % y ∧ ∃ m, w' = w.drewN m
set_option maxRecDepth 100000 in
theorem div64_lo (l y : Nat) (w : World) (hl : l < 18446744073709551616) (h0 : 0 < y) (hy : y < 18446744073709551616) : Calls Tryd.prog 54 #[.int .u64 0, .int .u64 l, .int .u64 y] w (Div64Post l y w) := by
  have hz : ((y : Int) == 0) = false := by rw [beq_eq_false_iff_ne]; omega
  have hz3 : decide ((y : Int) ≤ 0) = false := by rw [decide_eq_false_iff_not]; omega
  obtain ⟨q, hq⟩ : ∃ q, l / y = q := ⟨_, rfl⟩
  have e1 : (l : Int) / (y : Int) = (q : Int) := div_cast hq
  have hqb : q < 18446744073709551616 := by rw [← hq]; have := Nat.div_le_self l y; omega
  have HQ := Lib.hid hq
  clear hq
  go_enter Tryd.func54, Tryd.ntmps54
  go_wp2_with fail
  go_quiet (fail)
  go_wp2
  go_ret2
  exact ⟨q, l % y, rfl, HQ.out.symm, rfl, _, rfl⟩
theorem div64_c (h l y : Nat) (w : World) (hl : l < 18446744073709551616) (hh : h < y) (hy : y < 18446744073709551616) :
    Calls Tryd.prog 54 #[.int .u64 h, .int .u64 l, .int .u64 y] w (Div64Post (h * 18446744073709551616 + l) y w) := by
  rcases Nat.eq_zero_or_pos h with e | h0
  · subst e
    rw [Nat.zero_mul, Nat.zero_add]
    exact div64_lo l y w hl hh hy
  · obtain ⟨s, hs, hY1, hY2, HZ⟩ := lead_ex y (by omega) hy
    obtain ⟨a1, a2, a3, a4⟩ := norm_hi hs hh hl hY2
    have hp : 0 < 2 ^ s := Nat.pow_pos (by decide)
    have hu := Nat.mod_lt (l * 2 ^ s) (show 0 < 18446744073709551616 by decide)
    have hls : l / 2 ^ (64 - s) < 18446744073709551616 := by have := Nat.div_le_self l (2 ^ (64 - s)); omega
    have e4 : h * 2 ^ s % 18446744073709551616 = h * 2 ^ s := Nat.mod_eq_of_lt a1
    have e1 : y * 2 ^ s % 18446744073709551616 = y * 2 ^ s := Nat.mod_eq_of_lt hY2
    have no := @norm_out (h * 18446744073709551616 + l) y s
    rw [← a4] at no
    generalize hY : y * 2 ^ s = Y at *
    generalize hhs : h * 2 ^ s = hsv at *
    generalize hlsv : l / 2 ^ (64 - s) = ls at *
    generalize hu10 : l * 2 ^ s % 18446744073709551616 = u10 at *
    have eu : (hsv + ls) * 18446744073709551616 + u10 = ((hsv + ls) * 4294967296 + u10 / 4294967296) * 4294967296 + u10 % 4294967296 := by omega
    rw [eu] at no
    have hv := @halves0 Y ((hsv + ls) * 4294967296 + u10 / 4294967296) 4294967296 (u10 % 4294967296) (by omega)
    rw [← hv.1, ← hv.2] at no
    refine (div64_hi h l y s Y (Y / 4294967296) (Y % 4294967296) hsv ls (hsv + ls) u10 (u10 / 4294967296) (u10 % 4294967296) _ _ _ _ _ w h0 hh hs (wrap_shl (by rw [hY]; exact e1)) (div_cast rfl) (and_mask hY2 rfl) (wrap_shl (by rw [hhs]; exact e4)) (wrap_shl hu10) (div_cast rfl) (and_mask hu rfl) (shr_cast hlsv) (or_cast a1 hls a2) (by omega) hY2 (by omega) (by omega) (by omega) (by omega) a3 rfl rfl rfl rfl rfl HZ).mono ?_
    rintro e w' ⟨rfl, rfl⟩
    exact ⟨_, _, rfl, no.1, no.2, 0, rfl⟩
/-- A number divided by a limb: the next limb. -/
theorem short_step {Q R D X P f r' q' : Nat} (h : Q * D + R = X) (h2 : R * 18446744073709551616 + f = q' * D + r') (hP : P = P) :
    (q' + 18446744073709551616 * Q) * D + r' = f + 18446744073709551616 * X := by
  have : 18446744073709551616 * X = 18446744073709551616 * (Q * D) + 18446744073709551616 * R := by rw [← h, Nat.mul_add]
  rw [Nat.add_mul, Nat.mul_assoc]
  omega
def ShortPost (n d : Nat) (w : World) (e : Ending) (w' : World) : Prop := ∃ a k c, ∃ r : Nat, e = .returned (.tuple #[.slice a k c, .int .u64 (r : Int)]) ∧ r = n % d ∧ Nm w' a k c (n / d) ∧ Below w.heap.size w w'
/-- The same, with the quotient in a new block. -/
def ShortPost2 (n d : Nat) (w : World) (e : Ending) (w' : World) : Prop := ∃ k c, ∃ r : Nat, e = .returned (.tuple #[.slice (some ⟨w.heap.size, 0, none⟩) k c, .int .u64 (r : Int)]) ∧ r = n % d ∧ Nm w' (some ⟨w.heap.size, 0, none⟩) k c (n / d) ∧ Below w.heap.size w w'
set_option maxRecDepth 100000 in
set_option maxHeartbeats 2000000 in
theorem divideShort_f (a : Option Addr) (k c n d : Nat) (w : World) (h : Nm w a k c n) (hd0 : 0 < d) (hd : d < 18446744073709551616) :
    Calls Tryd.prog 36 #[.slice a k c, .int .u64 d] w (ShortPost2 n d w) := by
  obtain ⟨f, hr, hkc, hc, htop, hs, _⟩ := h
  have hk2 := hr.1
  have hmk := fun w => mk_limbs k hk2 w
  have H := Lib.hid hr
  have HS := Lib.hid hs
  clear hr hs htop
  go_enter Tryd.func36, Tryd.ntmps36
  go_wp2_with fail
  have B0 := Lib.hid (Bf.made w k 59)
  have BL : Hid (Below w.heap.size w (w.alloc (.cells (madeCells #[.int .u64 0] k) 59))) := bel_one _ _
  generalize hW1 : w.alloc (.cells (madeCells #[.int .u64 0] k) 59) = W1 at *
  clear hW1 hmk
  go_loopw [7, 8] (fun v i wr => ∃ (m y : Nat) (g : Nat → Nat), m ≤ k ∧ i = .int .i64 ((m : Int) - 1) ∧ v = .int .u64 y ∧ y < d ∧ Hid (Bf wr w.heap.size k g ∧ Below w.heap.size w wr ∧ S (from_ g m) (k - m) * d + y = S (from_ f m) (k - m))) (fun _ i _ => (intOf i + 1).toNat)
  case atStart => exact ⟨k, 0, fun _ => 0, Nat.le_refl _, rfl, rfl, hd0, B0.out, BL.out, by rw [Nat.sub_self, S_zero, S_zero]; omega⟩
  case round =>
    obtain ⟨m, y, g, hm, rfl, rfl, hy, hR⟩ := hrel
    rcases Nat.eq_zero_or_pos m with e | e
    · subst e
      have E : Hid (S g k = n / d ∧ y = n % d) := by
        have h := hR.out.2.2
        have e1 : from_ g 0 = g := by funext j; unfold from_; rw [Nat.zero_add]
        have e2 : from_ f 0 = f := by funext j; unfold from_; rw [Nat.zero_add]
        rw [e1, e2, Nat.sub_zero, HS.out] at h
        have hd1 : (y + S g k * d) / d = S g k := by rw [Nat.add_mul_div_right _ _ hd0, Nat.div_eq_of_lt hy, Nat.zero_add]
        have hd2 : (y + S g k * d) % d = y := by rw [Nat.add_mul_mod_self_right, Nat.mod_eq_of_lt hy]
        rw [Nat.add_comm, h] at hd1 hd2
        exact ⟨hd1.symm, hd2.symm⟩
      have BB := Lib.hid hR.out.1
      have BL2 := Lib.hid hR.out.2.1
      clear hR
      go_wp2_with fail
      refine (trim_c2 (some ⟨w.heap.size, 0, none⟩) k k g wr (BB.out.rl0 (Nat.le_refl _) hk2) (Nat.le_refl _) (by omega) (Pl.some_ _ _)).mono ?_
      rintro e w5 ⟨k', rfl, hN, rfl⟩
      rw [E.out.1] at hN
      have R := Lib.hid (show ShortPost2 n d w (.returned (.tuple #[.slice (some ⟨w.heap.size, 0, none⟩) k' k, .int .u64 (y : Int)])) wr from ⟨k', k, y, rfl, E.out.2, hN, BL2.out⟩)
      clear hN
      go_wp2
      go_ret2
      exact R.out
    · obtain ⟨p, rfl⟩ : ∃ p, m = p + 1 := ⟨m - 1, by omega⟩
      obtain ⟨b, off, rfl, hb, hc1⟩ := (H.out.below hR.out.2.1).at_ (show p < k by omega)
      have hx := H.out.2.1 p (by omega)
      have hp : (p : Int) < (k : Int) := by omega
      have ei : ((p + 1 : Nat) : Int) - 1 = (p : Int) := by omega
      rw [ei]
      have HD := Lib.hid (fun w => div64_c y (f p) d w hx hy hd)
      have HF : Hid (S (from_ f p) (k - p) = f p + 18446744073709551616 * S (from_ f (p + 1)) (k - (p + 1))) := by
        unfold Hid
        rw [show k - p = (k - (p + 1)) + 1 by omega, S_cons]
      generalize f p = x at *
      go_wp2_with fail
      refine (HD.out _).mono ?_
      rintro e w2 ⟨q, r, rfl, hq, hr, nq, rfl⟩
      have hqr : y * 18446744073709551616 + x = q * d + r := by rw [hq, hr]; exact (Nat.div_add_mod' _ _).symm
      have hr2 : r < d := by rw [hr]; exact Nat.mod_lt _ hd0
      have hq2 : q < 18446744073709551616 := by
        rw [hq]
        refine Nat.div_lt_of_lt_mul ?_
        have : (y + 1) * 18446744073709551616 ≤ d * 18446744073709551616 := Nat.mul_le_mul_right _ hy
        omega
      have hrb : r < 18446744073709551616 := by omega
      have HB : Hid (Below wr.heap.size wr (wr.drewN nq)) := bel_drewN _ _
      have BB := Lib.hid (hR.out.1.below HB.out)
      have BL2 : Hid (Below w.heap.size w (wr.drewN nq)) := hR.out.2.1.trans (HB.out.mono hR.out.2.1.size)
      have hBj := BB.out.2.2 p (by omega)
      have hc2 := hBj.1
      have hf2 := hBj.2
      have NX : Hid (Bf ((wr.drewN nq).setCell ⟨w.heap.size, p, none⟩ (.int .u64 q)) w.heap.size k (put g p q) ∧ Below w.heap.size w ((wr.drewN nq).setCell ⟨w.heap.size, p, none⟩ (.int .u64 q)) ∧ S (from_ (put g p q) p) (k - p) * d + r = S (from_ f p) (k - p)) := by
        refine ⟨BB.out.put (by omega) hq2, BL2.out.setCell (p := ⟨w.heap.size, p, none⟩) (Nat.le_refl _) _, ?_⟩
        have e1 : S (from_ (put g p q) p) (k - p) = q + 18446744073709551616 * S (from_ g (p + 1)) (k - (p + 1)) := by
          rw [show k - p = (k - (p + 1)) + 1 by omega, S_cons, put_same]
          congr 2
          exact S_congr (fun j hj => put_ne (by omega))
        rw [e1, HF.out]
        exact short_step (P := 0) hR.out.2.2 hqr rfl
      clear hq hr hqr hBj HD HF
      generalize wr.drewN nq = W3 at *
      go_wp2
      go_roundw
      case rel => exact ⟨p, r, put g p q, by omega, by go_num, rfl, hr2, NX.out⟩
      case measure => simp [intOf]
theorem divideShort_c (a : Option Addr) (k c n d : Nat) (w : World) (h : Nm w a k c n) (hd0 : 0 < d) (hd : d < 18446744073709551616) :
    Calls Tryd.prog 36 #[.slice a k c, .int .u64 d] w (ShortPost n d w) :=
  (divideShort_f a k c n d w h hd0 hd).mono fun e w' ⟨k', c', r, he, hr, hn, hb⟩ => ⟨_, k', c', r, he, hr, hn, hb⟩
end Go.Proofs.YtaibpppobblnoaaDoor
