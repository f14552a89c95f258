/-
  Numbers of any size: two limbs divided by one.
-/
import Derived.Test.YtaibpppobblnoaaDoorWhProd
import Derived.Test.YtaibpppobblnoaaDoorWhDivM
import Derived.Deep.CutBlock
import Derived.Deep.CutRange
namespace Go.Proofs.YtaibpppobblnoaaDoor
open Go.RowKit

theorem wrap_lt {x : Nat} (h : x < 18446744073709551616) : IntKind.u64.wrap (x : Int) = (x : Int) := by rw [IntKind.wrap_u64]; omega
theorem wrap_mod (x : Nat) : IntKind.u64.wrap (x : Int) = ((x % 18446744073709551616 : Nat) : Int) := by rw [IntKind.wrap_u64]; omega
theorem wrap_shl {x s y : Nat} (h : x * 2 ^ s % 18446744073709551616 = y) : IntKind.u64.wrap ((x : Int) * 2 ^ s) = (y : Int) := by
  have e : (x : Int) * 2 ^ s = ((x * 2 ^ s : Nat) : Int) := by rw [Int.natCast_mul, Int.natCast_pow]; rfl
  rw [e, wrap_mod, h]
theorem shr_cast {x s y : Nat} (h : x / 2 ^ s = y) : (x : Int) / 2 ^ s = (y : Int) := by
  have e : (2 : Int) ^ s = ((2 ^ s : Nat) : Int) := by rw [Int.natCast_pow]; rfl
  rw [e, ← Int.natCast_ediv, h]
theorem and_mask {x y : Nat} (hx : x < 18446744073709551616) (h : x % 4294967296 = y) : bits .and .u64 (x : Int) 4294967295 = (y : Int) := by
  have e : bits .and .u64 (x : Int) ((4294967295 : Nat) : Int) = (y : Int) := by
    rw [bits_and_u64_nat _ _ hx (by decide), show (4294967295 : Nat) = 2 ^ 32 - 1 from rfl, Nat.and_two_pow_sub_one_eq_mod, ← h]
  exact e
theorem or_cast {x y z : Nat} (hx : x < 18446744073709551616) (hy : y < 18446744073709551616) (h : x ||| y = z) : bits .or .u64 (x : Int) (y : Int) = (z : Int) := by
  rw [bits_or_u64_nat _ _ hx hy, h]
theorem div_cast {x y z : Nat} (h : x / y = z) : (x : Int) / (y : Int) = (z : Int) := by rw [← Int.natCast_ediv, h]
theorem mul_cast {x y z : Nat} (h : x * y = z) : (x : Int) * (y : Int) = (z : Int) := by rw [← Int.natCast_mul, h]
/-- Half a division ends: what is left. -/
theorem half_left {Y u v Q m : Nat} (hQ : u * 4294967296 + v = Q * Y + m) (hm : m < 18446744073709551616) :
    IntKind.u64.wrap (IntKind.u64.wrap (IntKind.u64.wrap ((u : Int) * 4294967296) + (v : Int)) - IntKind.u64.wrap ((Q : Int) * (Y : Int))) = (m : Int) := by
  have e : (Q : Int) * (Y : Int) = ((Q * Y : Nat) : Int) := by rw [Int.natCast_mul]
  rw [e]
  generalize Q * Y = z at *
  simp only [IntKind.wrap_u64]
  omega
theorem guess_gt {r u p y0 : Nat} (h : 4294967296 * r + u < (p + 1) * y0) (hr : r < 4294967296) (hu : u < 4294967296) (hp : p + 1 < 4294967296) (hy : y0 < 4294967296) : ∃ m k : Nat, ((p : Int) + 1) * (y0 : Int) = (m : Int) ∧ (4294967296 : Int) * (r : Int) = (k : Int) ∧ IntKind.u64.wrap (m : Int) = (m : Int) ∧ IntKind.u64.wrap (k : Int) = (k : Int) ∧ IntKind.u64.wrap ((k : Int) + (u : Int)) = (k : Int) + (u : Int) ∧ (k : Int) + (u : Int) < (m : Int) := by
  have : (p + 1) * y0 ≤ 4294967295 * 4294967295 := Nat.mul_le_mul (by omega) (by omega)
  have e1 : ((p : Int) + 1) * (y0 : Int) = (((p + 1) * y0 : Nat) : Int) := by rw [Int.natCast_mul]; rfl
  have e2 : (4294967296 : Int) * (r : Int) = ((4294967296 * r : Nat) : Int) := by rw [Int.natCast_mul]; rfl
  refine ⟨(p + 1) * y0, 4294967296 * r, e1, e2, wrap_lt (by omega), wrap_lt (by omega), ?_, by omega⟩
  have t := @wrap_lt (4294967296 * r + u) (by omega)
  rw [Int.natCast_add] at t
  exact t
theorem guess_le {r u q y0 : Nat} (h : q * y0 ≤ 4294967296 * r + u) (hr : r < 4294967296) (hu : u < 4294967296) (hq : q < 4294967296) (hy : y0 < 4294967296) : ∃ m k : Nat, (q : Int) * (y0 : Int) = (m : Int) ∧ (4294967296 : Int) * (r : Int) = (k : Int) ∧ IntKind.u64.wrap (m : Int) = (m : Int) ∧ IntKind.u64.wrap (k : Int) = (k : Int) ∧ IntKind.u64.wrap ((k : Int) + (u : Int)) = (k : Int) + (u : Int) ∧ ¬ (k : Int) + (u : Int) < (m : Int) := by
  have : q * y0 ≤ 4294967295 * 4294967295 := Nat.mul_le_mul (by omega) (by omega)
  have e2 : (4294967296 : Int) * (r : Int) = ((4294967296 * r : Nat) : Int) := by rw [Int.natCast_mul]; rfl
  refine ⟨q * y0, 4294967296 * r, by rw [Int.natCast_mul], e2, wrap_lt (by omega), wrap_lt (by omega), ?_, by omega⟩
  have t := @wrap_lt (4294967296 * r + u) (by omega)
  rw [Int.natCast_add] at t
  exact t
set_option maxRecDepth 100000 in
set_option maxHeartbeats 2000000 in
theorem div64_hi (h l y s Y yn1 yn0 hs ls u32 u10 u1 u0 Q1 U2 Q2 R0 R : Nat) (w : World) (h0 : 0 < h) (hh : h < y) (hs64 : s < 64)
    (e1 : IntKind.u64.wrap ((y : Int) * 2 ^ s) = (Y : Int)) (e2 : (Y : Int) / 4294967296 = (yn1 : Int)) (e3 : bits .and .u64 (Y : Int) 4294967295 = (yn0 : Int)) (e4 : IntKind.u64.wrap ((h : Int) * 2 ^ s) = (hs : Int))
    (e5 : IntKind.u64.wrap ((l : Int) * 2 ^ s) = (u10 : Int)) (e6 : (u10 : Int) / 4294967296 = (u1 : Int)) (e7 : bits .and .u64 (u10 : Int) 4294967295 = (u0 : Int)) (e8 : (l : Int) / 2 ^ (64 - s) = (ls : Int)) (e9 : bits .or .u64 (hs : Int) (ls : Int) = (u32 : Int))
    (hY : Y = yn1 * 4294967296 + yn0) (hYb : Y < 18446744073709551616) (hyn1 : 0 < yn1) (hyn0 : yn0 < 4294967296) (huu1 : u1 < 4294967296) (huu0 : u0 < 4294967296) (h32u32 : u32 < Y)
    (hQ1 : Q1 = (u32 * 4294967296 + u1) / Y) (hU2 : U2 = (u32 * 4294967296 + u1) % Y) (hQ2 : Q2 = (U2 * 4294967296 + u0) / Y) (hR0 : R0 = (U2 * 4294967296 + u0) % Y) (hR : R0 / 2 ^ s = R)
    (HZ : ∀ w, Calls Tryd.prog 65 #[.int .u64 y] w fun e w' => e = .returned (.int .i64 (s : Int)) ∧ w = w') :
    Calls Tryd.prog 54 #[.int .u64 h, .int .u64 l, .int .u64 y] w fun e w' => e = .returned (.tuple #[.int .u64 ((Q1 * 4294967296 + Q2 : Nat) : Int), .int .u64 (R : Int)]) ∧ w = w' := by
  have hz : ((y : Int) == 0) = false := by rw [beq_eq_false_iff_ne]; omega
  have hz2 : ((h : Int) == 0) = false := by rw [beq_eq_false_iff_ne]; omega
  have hz3 : decide ((y : Int) ≤ (h : Int)) = false := by rw [decide_eq_false_iff_not]; omega
  have HY := Lib.hid hY
  have HQQ1 := Lib.hid hQ1
  have HQQ2 := Lib.hid hQ2
  have HU2 := Lib.hid hU2
  have HR := Lib.hid hR
  have HR0 := Lib.hid hR0
  have HZ := Lib.hid HZ
  have h32U2 : U2 < Y := by rw [hU2]; exact Nat.mod_lt _ (by omega)
  clear hQ1 hQ2 hU2 hR hR0
  have hy1 : yn1 < 4294967296 := by omega
  clear hY
  obtain ⟨q1, hq1⟩ : ∃ q, q = u32 / yn1 := ⟨_, rfl⟩
  obtain ⟨p1, hp1⟩ : ∃ p, p = q1 * yn1 := ⟨_, rfl⟩
  have hp1le : p1 ≤ u32 := by rw [hp1, hq1]; exact Nat.div_mul_le_self _ _
  obtain ⟨r1, hr1⟩ : ∃ r, r = u32 - p1 := ⟨_, rfl⟩
  have e10 : (u32 : Int) / (yn1 : Int) = (q1 : Int) := div_cast hq1.symm
  have e11 : (q1 : Int) * (yn1 : Int) = (p1 : Int) := mul_cast hp1.symm
  have e12 : (u32 : Int) - (p1 : Int) = (r1 : Int) := by omega
  have e13 : (p1 : Int) ≤ (u32 : Int) := by omega
  have I1 : Hid (HalfInv Y yn1 u32 u1 q1 r1) := by unfold Hid; rw [hr1, hp1, hq1]; exact half_start HY.out huu1 hyn1
  have q1lt : q1 < 18446744073709551616 := by rw [hq1]; have := Nat.div_le_self u32 yn1; omega
  have r1lt : r1 < 4294967296 := by
    have := Nat.mod_lt u32 hyn1
    have := Nat.div_add_mod u32 yn1
    rw [← hq1, Nat.mul_comm, ← hp1] at this
    omega
  clear hq1 hp1 hr1 hp1le
  go_enter Tryd.func54, Tryd.ntmps54
  go_upto_block 0 with (go_at_call 65; refine (HZ.out _).mono ?_; rintro e w' ⟨rfl, rfl⟩)
  go_cut [15] from 67 to 85 (fun vq wx => vq = .int .u64 Q1 ∧ wx = w)
  case first =>
    go_wp2_with fail
    go_loop [15, 16] (fun vq vr => ∃ q r : Nat, vq = .int .u64 q ∧ vr = .int .u64 r ∧ q < 18446744073709551616 ∧ r < 4294967296 ∧ Hid (HalfInv Y yn1 u32 u1 q r)) (fun vq _ => (intOf vq).toNat)
    case atStart => exact ⟨_, _, rfl, rfl, q1lt, r1lt, I1.out⟩
    case round =>
      obtain ⟨q, r, rfl, rfl, hq, hr, hI⟩ := hrel
      by_cases ht : 4294967296 ≤ q ∨ 4294967296 * r + u1 < q * yn0
      · have hq0 : 0 < q := by
          rcases Nat.eq_zero_or_pos q with e | e
          · subst e
            rcases ht with ht | ht
            · omega
            · rw [Nat.zero_mul] at ht; omega
          · exact e
        obtain ⟨p, rfl⟩ : ∃ p, q = p + 1 := ⟨q - 1, by omega⟩
        have hN : Hid (HalfInv Y yn1 u32 u1 p (r + yn1)) := half_next HY.out huu1 h32u32 hI.out ht
        have d0 : ((p + 1 : Nat) : Int) = (p : Int) + 1 := by omega
        by_cases hb : 4294967296 ≤ r + yn1
        · have hE : Hid (p = Q1) := by unfold Hid; rw [HQQ1.out]; exact half_end HY.out hyn0 h32u32 hN.out (.inr hb)
          by_cases hc : 4294967296 ≤ p + 1
          · have hc' : (4294967296 : Int) ≤ (p : Int) + 1 := by omega
            have hb' : (4294967296 : Int) ≤ (r : Int) + (yn1 : Int) := by omega
            clear ht hb hI hN
            go_wp2
            go_meet
            case rel => exact ⟨by rw [← hE.out], rfl⟩
          · have hc' : ¬ (4294967296 : Int) ≤ (p : Int) + 1 := by omega
            have hb' : (4294967296 : Int) ≤ (r : Int) + (yn1 : Int) := by omega
            obtain ⟨m, k, hm, hk, hm1, hk1, hk2, hm2⟩ := guess_gt (show 4294967296 * r + u1 < (p + 1) * yn0 by omega) hr huu1 (show p + 1 < 4294967296 by omega) hyn0
            clear ht hb hI hN hc
            go_wp2
            go_meet
            case rel => exact ⟨by rw [← hE.out], rfl⟩
        · by_cases hc : 4294967296 ≤ p + 1
          · have hc' : (4294967296 : Int) ≤ (p : Int) + 1 := by omega
            have hb' : ¬ (4294967296 : Int) ≤ (r : Int) + (yn1 : Int) := by omega
            clear ht hI
            go_wp2
            go_round
            case rel => exact ⟨p, r + yn1, by go_num, by go_num, by omega, by omega, hN.out⟩
            case measure => simp [intOf]
          · have hc' : ¬ (4294967296 : Int) ≤ (p : Int) + 1 := by omega
            have hb' : ¬ (4294967296 : Int) ≤ (r : Int) + (yn1 : Int) := by omega
            obtain ⟨m, k, hm, hk, hm1, hk1, hk2, hm2⟩ := guess_gt (show 4294967296 * r + u1 < (p + 1) * yn0 by omega) hr huu1 (show p + 1 < 4294967296 by omega) hyn0
            clear ht hI hc
            go_wp2
            go_round
            case rel => exact ⟨p, r + yn1, by go_num, by go_num, by omega, by omega, hN.out⟩
            case measure => simp [intOf]
      · have hE : Hid (q = Q1) := by unfold Hid; rw [HQQ1.out]; exact half_end HY.out hyn0 h32u32 hI.out (.inl (by omega))
        obtain ⟨m, k, hm, hk, hm1, hk1, hk2, hm2⟩ := guess_le (show q * yn0 ≤ 4294967296 * r + u1 by omega) hr huu1 (show q < 4294967296 by omega) hyn0
        have hc' : ¬ (4294967296 : Int) ≤ (q : Int) := by omega
        clear ht hI
        go_wp2
        go_meet
        case rel => exact ⟨by rw [← hE.out], rfl⟩
  case rest =>
    obtain ⟨rfl, rfl⟩ := hcut
    have f0 : IntKind.u64.wrap (IntKind.u64.wrap (IntKind.u64.wrap ((u32 : Int) * 4294967296) + (u1 : Int)) - IntKind.u64.wrap ((Q1 : Int) * (Y : Int))) = (U2 : Int) := half_left (by rw [HQQ1.out, HU2.out]; exact (Nat.div_add_mod' _ _).symm) (by omega)
    clear e1 e2 e3 e4 e5 e6 e7 e8 e9 e10 e11 e12 e13
    obtain ⟨q2, hq2⟩ : ∃ q, q = U2 / yn1 := ⟨_, rfl⟩
    obtain ⟨p2, hp2⟩ : ∃ p, p = q2 * yn1 := ⟨_, rfl⟩
    have hp2le : p2 ≤ U2 := by rw [hp2, hq2]; exact Nat.div_mul_le_self _ _
    obtain ⟨r2, hr2⟩ : ∃ r, r = U2 - p2 := ⟨_, rfl⟩
    have e10 : (U2 : Int) / (yn1 : Int) = (q2 : Int) := div_cast hq2.symm
    have e11 : (q2 : Int) * (yn1 : Int) = (p2 : Int) := mul_cast hp2.symm
    have e12 : (U2 : Int) - (p2 : Int) = (r2 : Int) := by omega
    have e13 : (p2 : Int) ≤ (U2 : Int) := by omega
    have I2 : Hid (HalfInv Y yn1 U2 u0 q2 r2) := by unfold Hid; rw [hr2, hp2, hq2]; exact half_start HY.out huu0 hyn1
    have q2lt : q2 < 18446744073709551616 := by rw [hq2]; have := Nat.div_le_self U2 yn1; omega
    have r2lt : r2 < 4294967296 := by
      have := Nat.mod_lt U2 hyn1
      have := Nat.div_add_mod U2 yn1
      rw [← hq2, Nat.mul_comm, ← hp2] at this
      omega
    clear hq2 hp2 hr2 hp2le
    go_upto_block 2 with fail
    clear e10 e11 e12 e13 f0
    go_cut [18] from 102 to 120 (fun vq wx => vq = .int .u64 Q2 ∧ wx = wc)
    case first =>
      go_wp2_with fail
      go_loop [18, 16] (fun vq vr => ∃ q r : Nat, vq = .int .u64 q ∧ vr = .int .u64 r ∧ q < 18446744073709551616 ∧ r < 4294967296 ∧ Hid (HalfInv Y yn1 U2 u0 q r)) (fun vq _ => (intOf vq).toNat)
      case atStart => exact ⟨_, _, rfl, rfl, q2lt, r2lt, I2.out⟩
      case round =>
        obtain ⟨q, r, rfl, rfl, hq, hr, hI⟩ := hrel
        by_cases ht : 4294967296 ≤ q ∨ 4294967296 * r + u0 < q * yn0
        · have hq0 : 0 < q := by
            rcases Nat.eq_zero_or_pos q with e | e
            · subst e
              rcases ht with ht | ht
              · omega
              · rw [Nat.zero_mul] at ht; omega
            · exact e
          obtain ⟨p, rfl⟩ : ∃ p, q = p + 1 := ⟨q - 1, by omega⟩
          have hN : Hid (HalfInv Y yn1 U2 u0 p (r + yn1)) := half_next HY.out huu0 h32U2 hI.out ht
          have d0 : ((p + 1 : Nat) : Int) = (p : Int) + 1 := by omega
          by_cases hb : 4294967296 ≤ r + yn1
          · have hE : Hid (p = Q2) := by unfold Hid; rw [HQQ2.out]; exact half_end HY.out hyn0 h32U2 hN.out (.inr hb)
            by_cases hc : 4294967296 ≤ p + 1
            · have hc' : (4294967296 : Int) ≤ (p : Int) + 1 := by omega
              have hb' : (4294967296 : Int) ≤ (r : Int) + (yn1 : Int) := by omega
              clear ht hb hI hN
              go_wp2
              go_meet
              case rel => exact ⟨by rw [← hE.out], rfl⟩
            · have hc' : ¬ (4294967296 : Int) ≤ (p : Int) + 1 := by omega
              have hb' : (4294967296 : Int) ≤ (r : Int) + (yn1 : Int) := by omega
              obtain ⟨m, k, hm, hk, hm1, hk1, hk2, hm2⟩ := guess_gt (show 4294967296 * r + u0 < (p + 1) * yn0 by omega) hr huu0 (show p + 1 < 4294967296 by omega) hyn0
              clear ht hb hI hN hc
              go_wp2
              go_meet
              case rel => exact ⟨by rw [← hE.out], rfl⟩
          · by_cases hc : 4294967296 ≤ p + 1
            · have hc' : (4294967296 : Int) ≤ (p : Int) + 1 := by omega
              have hb' : ¬ (4294967296 : Int) ≤ (r : Int) + (yn1 : Int) := by omega
              clear ht hI
              go_wp2
              go_round
              case rel => exact ⟨p, r + yn1, by go_num, by go_num, by omega, by omega, hN.out⟩
              case measure => simp [intOf]
            · have hc' : ¬ (4294967296 : Int) ≤ (p : Int) + 1 := by omega
              have hb' : ¬ (4294967296 : Int) ≤ (r : Int) + (yn1 : Int) := by omega
              obtain ⟨m, k, hm, hk, hm1, hk1, hk2, hm2⟩ := guess_gt (show 4294967296 * r + u0 < (p + 1) * yn0 by omega) hr huu0 (show p + 1 < 4294967296 by omega) hyn0
              clear ht hI hc
              go_wp2
              go_round
              case rel => exact ⟨p, r + yn1, by go_num, by go_num, by omega, by omega, hN.out⟩
              case measure => simp [intOf]
        · have hE : Hid (q = Q2) := by unfold Hid; rw [HQQ2.out]; exact half_end HY.out hyn0 h32U2 hI.out (.inl (by omega))
          obtain ⟨m, k, hm, hk, hm1, hk1, hk2, hm2⟩ := guess_le (show q * yn0 ≤ 4294967296 * r + u0 by omega) hr huu0 (show q < 4294967296 by omega) hyn0
          have hc' : ¬ (4294967296 : Int) ≤ (q : Int) := by omega
          clear ht hI
          go_wp2
          go_meet
          case rel => exact ⟨by rw [← hE.out], rfl⟩
    case rest =>
      obtain ⟨rfl, rfl⟩ := hcut
      have f1 : IntKind.u64.wrap (IntKind.u64.wrap (IntKind.u64.wrap ((U2 : Int) * 4294967296) + (u0 : Int)) - IntKind.u64.wrap ((Q2 : Int) * (Y : Int))) = (R0 : Int) := half_left (by rw [HQQ2.out, HR0.out]; exact (Nat.div_add_mod' _ _).symm) (by have := Nat.mod_lt (U2 * 4294967296 + u0) (show 0 < Y by omega); rw [HR0.out]; omega)
      have f2 : (R0 : Int) / 2 ^ s = (R : Int) := shr_cast HR.out
      have q1b : Q1 < 4294967296 := by rw [HQQ1.out]; exact half_qlt huu1 h32u32
      have q2b : Q2 < 4294967296 := by rw [HQQ2.out]; exact half_qlt huu0 h32U2
      go_wp2_with fail
      go_ret2
      exact ⟨by rw [Int.natCast_add, Int.natCast_mul]; rfl, rfl⟩
end Go.Proofs.YtaibpppobblnoaaDoor
