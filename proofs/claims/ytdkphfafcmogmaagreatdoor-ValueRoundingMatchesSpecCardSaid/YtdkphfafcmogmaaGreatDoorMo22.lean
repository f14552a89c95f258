/-
  Rounding ratios: the arithmetic, and what the answers are.
  Powers of ten in the reference and in package whole; a number's size.
  The nearest whole number in the reference.
-/
import Derived.Test.YtdkphfafcmogmaaGreatDoorMo21
namespace Go.Proofs.YtdkphfafcmogmaaGreatDoor
open Go.RowKit

/-- The natural number nearest to a quotient, the greater one of two. -/
def nN (p y : Nat) : Nat := if p % y * 2 < y then p / y else p / y + 1
theorem nN_scale {g p y : Nat} (hg : 0 < g) : nN (g * p) (g * y) = nN p y := by
  unfold nN
  rw [Nat.mul_mod_mul_left, Nat.mul_div_mul_left _ _ hg, Nat.mul_assoc]
  have : g * (p % y * 2) < g * y ↔ p % y * 2 < y := Nat.mul_lt_mul_left hg
  by_cases h : p % y * 2 < y
  · rw [if_pos h, if_pos (this.2 h)]
  · rw [if_neg h, if_neg (fun q => h (this.1 q))]
theorem nN_red {p y g : Nat} (hg : 0 < g) (h1 : g ∣ p) (h2 : g ∣ y) : nN (p / g) (y / g) = nN p y := by
  obtain ⟨a, rfl⟩ := h1
  obtain ⟨b, rfl⟩ := h2
  rw [Nat.mul_div_cancel_left _ hg, Nat.mul_div_cancel_left _ hg, nN_scale hg]
/-- The whole number nearest to a quotient, the one further from 0 of two. -/
def nZ (u v : Int) : Int := zv (decide (u < 0)) (nN u.natAbs v.natAbs)
theorem tdiv_sign (u v : Int) (hv : 0 < v) : u.tdiv v = zv (decide (u < 0)) (u.natAbs / v.natAbs) := by
  have h := tdiv_zv (decide (u < 0)) u.natAbs v.natAbs
  rw [zv_dec, Int.natAbs_of_nonneg (by omega)] at h
  exact h
theorem nZ_low {u v : Int} (hv : 0 < v) (h : (u.tmod v).natAbs * 2 < v.natAbs) : u.tdiv v = nZ u v := by
  rw [Int.natAbs_tmod] at h
  unfold nZ nN
  rw [if_pos h, tdiv_sign u v hv]
theorem nZ_high {u v : Int} (hv : 0 < v) (h : ¬ (u.tmod v).natAbs * 2 < v.natAbs) : u.tdiv v + u.sign = nZ u v := by
  rw [Int.natAbs_tmod] at h
  have hu : u ≠ 0 := by
    rintro rfl
    apply h
    simp
    omega
  unfold nZ nN
  rw [if_neg h, tdiv_sign u v hv]
  by_cases hn : u < 0
  · rw [decide_eq_true hn, zv_true, zv_true, Int.sign_eq_neg_one_of_neg hn]; omega
  · rw [decide_eq_false hn, zv_false, zv_false, Int.sign_eq_one_of_pos (by omega)]; omega
theorem nN_le (p y : Nat) : nN p y ≤ p + 1 := by
  have := Nat.div_le_self p y
  unfold nN
  split <;> omega
theorem red_nat (n d : Int) (hd : 0 < d) : red n d = (zv (decide (n < 0)) (n.natAbs / Int.gcd n d), ((d.natAbs / Int.gcd n d : Nat) : Int)) := by
  have k1 := tdiv_zv (decide (n < 0)) n.natAbs (Int.gcd n d)
  rw [zv_dec] at k1
  have k2 := tdiv_zv false d.natAbs (Int.gcd n d)
  rw [zv_false, zv_false, Int.natAbs_of_nonneg (by omega)] at k2
  unfold red ovG
  rw [if_neg (by omega), k1, k2]
/-- The nearest one is that of the lowest terms. -/
theorem nZ_red (n d : Int) (hd : 0 < d) : nZ (red n d).1 (red n d).2 = nZ n d := by
  have hg : 0 < Int.gcd n d := Int.gcd_pos_of_ne_zero_right n (by omega)
  have d1 : Int.gcd n d ∣ n.natAbs := Nat.gcd_dvd_left _ _
  have d2 : Int.gcd n d ∣ d.natAbs := Nat.gcd_dvd_right _ _
  rw [red_nat n d hd]
  show nZ (zv (decide (n < 0)) (n.natAbs / Int.gcd n d)) ((d.natAbs / Int.gcd n d : Nat) : Int) = _
  unfold nZ
  rw [zv_abs, Int.natAbs_natCast, nN_red hg d1 d2]
  congr 1
  by_cases hn : n < 0
  · rw [decide_eq_true hn, zv_true]
    have : 0 < n.natAbs / Int.gcd n d := Nat.div_pos (Nat.le_of_dvd (by omega) d1) hg
    exact decide_eq_true (by omega)
  · rw [decide_eq_false hn, zv_false]
    generalize n.natAbs / Int.gcd n d = m
    exact decide_eq_false (by omega)
/-- A ratio times a power of ten, rounded. -/
def tnR (x y : Int) (p : Nat) : Int := nZ (x * ((10 ^ p : Nat) : Int)) y
theorem tnR_is (x y : Int) (p : Nat) : tnR x y p = zv (decide (x < 0)) (nN (x.natAbs * 10 ^ p) y.natAbs) := by
  have hp : 0 < 10 ^ p := Nat.pow_pos (by decide)
  unfold tnR nZ
  rw [Int.natAbs_mul, Int.natAbs_natCast]
  congr 1
  have : x * ((10 ^ p : Nat) : Int) < 0 ↔ x < 0 := by
    constructor
    · intro h
      rcases Int.lt_or_le x 0 with l | l
      · exact l
      · have := Int.mul_nonneg l (show (0 : Int) ≤ ((10 ^ p : Nat) : Int) by omega)
        omega
    · intro h
      exact Int.mul_neg_of_neg_of_pos h (by omega)
  by_cases h : x < 0
  · rw [decide_eq_true h, decide_eq_true (this.2 h)]
  · rw [decide_eq_false h, decide_eq_false (fun q => h (this.1 q))]
theorem zv_flag (b : Bool) (m : Nat) : zv (b && decide (0 < m)) m = zv b m := by
  rcases Nat.eq_zero_or_pos m with e | e
  · subst e; cases b <;> rfl
  · rw [decide_eq_true e, Bool.and_true]
/-- Rounded's answer. -/
def rnS (n d : List UInt8) (p : Int) : ByteArray × ByteArray × Int :=
  match rread n d with
  | none => (⟨#[]⟩, ⟨#[]⟩, rflt n d)
  | some (x, y) => if p < 0 ∨ 20 < p then (⟨#[]⟩, ⟨#[]⟩, 1) else raR (tnR x y p.toNat) ((10 ^ p.toNat : Nat) : Int)
/-- Decimal's text. -/
def dcT (t : Int) (p : Nat) : List UInt8 :=
  let s := List.replicate (p + 1 - (Lib.decDigits t.natAbs).length) 48 ++ Lib.decDigits t.natAbs
  (if t < 0 then [45] else []) ++ s.take (s.length - p) ++ (if 0 < p then [46] else []) ++ s.drop (s.length - p)
def dcS (n d : List UInt8) (p : Int) : ByteArray × Int :=
  if (rnS n d p).2.2 = 0 then
    match rread n d with
    | none => (⟨#[]⟩, 0)
    | some (x, y) => (⟨(dcT (tnR x y p.toNat) p.toNat).toArray⟩, 0)
  else (⟨#[]⟩, (rnS n d p).2.2)
theorem ten_lt (p : Nat) (h : p ≤ 20) : 10 ^ p < tp 3 := by
  rw [tp_ten]
  exact Nat.pow_lt_pow_right (by decide) (by omega)
theorem ten_bp (p : Nat) (h : p ≤ 20) : 10 ^ p < bp 5 := by
  have h1 : 10 ^ p ≤ 10 ^ 20 := Nat.pow_le_pow_right (by decide) h
  have h2 : (10 : Nat) ^ 20 < 18446744073709551616 ^ 5 := by decide
  rw [bp_pow]
  omega
theorem val_zeros (n : Nat) : val (49 :: List.replicate n 48) = 10 ^ n := by
  have h := val_append [49] (List.replicate n 48)
  have h0 : ∀ m, val (List.replicate m 48) = 0 := by
    intro m
    induction m with
    | zero => rfl
    | succ m ih => rw [List.replicate_succ', val_snoc, ih]; rfl
  rw [h0, List.length_replicate] at h
  have : val [49] = 1 := rfl
  rw [this, Nat.one_mul, Nat.add_zero] at h
  exact h
end Go.Proofs.YtdkphfafcmogmaaGreatDoor
namespace Go.Proofs.YtdkphfafcmogmaaGreatDoor
open Go.RowKit

theorem repeat_z (c : Nat) (w : World) (hc : c ≤ 100) :
    Calls Tryz.prog 52 #[.string ⟨#[48]⟩, .int .i64 c] w fun e w' => e = .returned (.string ⟨(List.replicate c 48).toArray⟩) ∧ Below w.heap.size w w' :=
  (Tryz.strings_Repeat ⟨#[48]⟩ c w (by omega) (by rw [show (⟨#[48]⟩ : ByteArray).size = 1 from rfl]; omega)).mono fun _ _ ⟨he, hb⟩ => ⟨by rw [he]; show Ending.returned (.string ⟨(Lib.repeatL [48] c).toArray⟩) = _; rw [rep_zeros], hb⟩
theorem digs_rep (n : Nat) : digs (List.replicate n 48) = true := by
  refine List.all_eq_true.2 fun c hc => ?_
  rw [List.eq_of_mem_replicate hc]
  decide
theorem power_c (p : Nat) (w : World) (hp : p ≤ 20) : Calls Tryz.prog 49 #[.int .i64 p] w (NtPost (10 ^ p) w) := by
  have HR := Lib.hid (repeat_z p w (by omega))
  obtain ⟨z, hz⟩ : ∃ z : ByteArray, z = ⟨(List.replicate p 48).toArray⟩ := ⟨_, rfl⟩
  have HZ : Hid (Calls Tryz.prog 52 #[.string ⟨#[48]⟩, .int .i64 p] w fun e w' => e = .returned (.string z) ∧ Below w.heap.size w w') := by rw [hz]; exact HR.out
  obtain ⟨y, hy⟩ : ∃ y : ByteArray, (⟨#[49]⟩ : ByteArray) ++ z = y := ⟨_, rfl⟩
  have hyl : y.data.toList = 49 :: List.replicate p 48 := by rw [← hy, hz]; simp [ByteArray.data_append]
  have hys : y.size ≤ 90000 := by
    have : y.size = y.data.toList.length := by simp
    rw [this, hyl]; simp; omega
  have HN := Lib.hid (fun w => readNatural_c y w (by rw [hyl]; show (isDig 49 && digs (List.replicate p 48)) = true; rw [digs_rep]; rfl) hys)
  rw [hyl, val_zeros] at HN
  have hzs : z.size = p := by rw [hz]; simp [ByteArray.size]
  have h1 : ¬ (9223372036854775807 : Int) < 1 + (z.size : Int) := by omega
  have h2 : ¬ 9223372036854775807 < 1 + z.size := by omega
  clear HR hz hyl hys hzs
  go_enter Tryz.func49, Tryz.ntmps49
  go_wp2_with fail
  refine HZ.out.mono ?_
  rintro e w1 ⟨rfl, b1⟩
  have B1 := Lib.hid b1
  clear b1 HZ
  go_wp2_with fail
  refine (HN.out _).mono ?_
  rintro e w2 ⟨a, k, c, rfl, hn, b2⟩
  have RR : Hid (NtPost (10 ^ p) w (.returned (.slice a k c)) w2) := ⟨a, k, c, rfl, hn, B1.out.trans (b2.mono B1.out.size)⟩
  clear hn b2 HN
  go_wp2_with fail
  go_ret
  exact RR.out
theorem Size_c (b : Bool) (a : Option Addr) (k c : Nat) (w : World) :
    Calls Tryz.prog 50 #[.agg #[.bool b, .slice a k c]] w fun e w' => e = .returned (.agg #[.bool false, .slice a k c]) ∧ Below w.heap.size w w' := by
  obtain ⟨W0, hW0⟩ : ∃ W0, (w.alloc (.cells #[.bool b, .slice a k c] 44)).alloc (.cells #[.bool false, .slice none 0 0] 44) = W0 := ⟨_, rfl⟩
  have s1 : (w.alloc (.cells #[.bool b, .slice a k c] 44)).heap.size = w.heap.size + 1 := by simp
  have X0 : B2 W0 w.heap.size (.bool b) (.slice a k c) := by rw [← hW0]; exact (B2.made w _ _ _).keep (bel_one _ _)
  have R0 : B2 W0 (w.heap.size + 1) (.bool false) (.slice none 0 0) := by rw [← hW0, ← s1]; exact B2.made _ _ _ _
  have B0 : Below w.heap.size w W0 := by rw [← hW0]; exact ((Below.refl _ _).alloc (Nat.le_refl _) _).alloc (by simp) _
  obtain ⟨W9, hW9⟩ : ∃ W9, two W0 (w.heap.size + 1) (.bool false) (.slice a k c) = W9 := ⟨_, rfl⟩
  have R9 : B2 W9 (w.heap.size + 1) (.bool false) (.slice a k c) := by rw [← hW9]; exact R0.set _ _
  have PP : Hid (Below w.heap.size w W9) := by rw [← hW9]; exact below_two B0 (by omega) _ _
  have x0 := X0.c0
  have x1 := X0.c1
  have q0 := R0.c0
  have q1 := R0.c1
  have g0 := R0.fr 0
  have g1 := R0.fr 1
  obtain ⟨r0, r1, _, _⟩ := id R9
  unfold two at hW9
  clear X0 R0 B0 R9 s1
  go_enter Tryz.func50, Tryz.ntmps50
  go_wp2_with fail
  exact bodyPost_ret (v := .agg #[.bool false, .slice a k c]) (by simp [results, Tryz.results50, go_sem, r0, r1]) rfl ⟨rfl, PP.out⟩
/-- The powers so far. -/
structure Pwr (w : World) (i : Nat) (a : Option Addr) (k c : Nat) (W : World) : Prop where
  n : Nm W a k c (10 ^ i)
  r : B2 W w.heap.size (.bool false) (.slice none 0 0)
  bel : Below w.heap.size w W
set_option maxRecDepth 100000 in
set_option maxHeartbeats 1000000 in
theorem Power_c (p : Nat) (w : World) (hp : p ≤ 20) : Calls Tryz.prog 72 #[.int .i64 p] w (ZPost ((10 ^ p : Nat) : Int) w) := by
  obtain ⟨W0, hW0⟩ : ∃ W0, w.alloc (.cells #[.bool false, .slice none 0 0] 44) = W0 := ⟨_, rfl⟩
  have R0 : B2 W0 w.heap.size (.bool false) (.slice none 0 0) := by rw [← hW0]; exact B2.made _ _ _ _
  have B0 : Below w.heap.size w W0 := by rw [← hW0]; exact bel_one _ _
  obtain ⟨W1, hW1⟩ : ∃ W1, W0.alloc (.cells #[.int .u64 1] 81) = W1 := ⟨_, rfl⟩
  have N1 : Nm W1 (some ⟨W0.heap.size, 0, none⟩) 1 1 1 := by
    refine ⟨fun _ => 1, ⟨by omega, fun j hj => (by decide : 1 < 18446744073709551616), fun _ => ⟨W0.heap.size, 0, rfl, by rw [← hW1]; simp, fun j hj => ?_⟩⟩, by omega, by omega, .inr (by decide), S_one _, Pl.some_ _ _⟩
    obtain rfl : j = 0 := by omega
    rw [← hW1, World.cell?_alloc_new]
    rfl
  have J0 : Hid (Pwr w 0 (some ⟨W0.heap.size, 0, none⟩) 1 1 W1) := ⟨N1, by rw [← hW1]; exact R0.keep (bel_one _ _), B0.trans (by rw [← hW1]; exact (bel_one _ _).mono B0.size)⟩
  have HP := Lib.hid hp
  have HPT : Hid (∀ i, i ≤ 20 → 10 ^ i < bp 2000) := fun i hi => Nat.lt_of_lt_of_le (ten_bp i hi) (bp_mono (by decide))
  clear R0 B0 N1 hp
  go_enter Tryz.func72, Tryz.ntmps72
  go_wp2_with fail
  clear hW0 hW1
  go_loopw [3, 6] (fun v i wr => ∃ (j : Nat) (a : Option Addr) (k c : Nat), j ≤ p ∧ v = .slice a k c ∧ i = .int .i64 j ∧ Hid (Pwr w j a k c wr)) (fun _ i _ => p - (intOf i).toNat)
  case atStart => exact ⟨0, _, _, _, by omega, rfl, rfl, J0.out⟩
  case round =>
    clear J0
    obtain ⟨j, a, k, c, hj, rfl, rfl, hJ⟩ := hrel
    have hj20 : j ≤ 20 := by have := HP.out; omega
    by_cases hlt : j < p
    · have hlt' : (j : Int) < (p : Int) := by omega
      have HT := Lib.hid (timesPlus_c a k c (10 ^ j) 10 0 wr hJ.out.n (by decide) (by decide) (HPT.out j (by have := HP.out; omega)))
      go_wp2_with fail
      refine HT.out.mono ?_
      rintro e w4 ⟨a4, k4, c4, rfl, h4, b4⟩
      have NX : Hid (Pwr w (j + 1) a4 k4 c4 w4) := ⟨by rw [Nat.pow_succ]; exact h4, hJ.out.r.keep b4, hJ.out.bel.trans (b4.mono hJ.out.bel.size)⟩
      clear h4 b4 HT hJ
      go_wp2
      go_roundw
      case rel => exact ⟨j + 1, a4, k4, c4, by omega, rfl, by go_num, NX.out⟩
      case measure => simp [intOf]; omega
    · obtain rfl : j = p := by omega
      obtain ⟨W9, hW9⟩ : ∃ W9, two wr w.heap.size (.bool false) (.slice a k c) = W9 := ⟨_, rfl⟩
      have R9 : B2 W9 w.heap.size (.bool false) (.slice a k c) := by rw [← hW9]; exact hJ.out.r.set _ _
      have PP : Hid (ZPost ((10 ^ j : Nat) : Int) w (.returned (.agg #[.bool false, .slice a k c])) W9) := by
        rw [← hW9]
        exact ⟨_, _, _, _, rfl, ⟨10 ^ j, hJ.out.n.set2 hJ.out.r _ _, (fun e => nomatch e), (zv_false _).symm⟩, below_two hJ.out.bel (Nat.le_refl _) _ _⟩
      have q0 := hJ.out.r.c0
      have q1 := hJ.out.r.c1
      have g0 := hJ.out.r.fr 0
      have g1 := hJ.out.r.fr 1
      obtain ⟨r0, r1, _, _⟩ := id R9
      unfold two at hW9
      clear R9 hJ
      go_wp2_with fail
      exact bodyPost_ret (v := .agg #[.bool false, .slice a k c]) (by simp [results, Tryz.results72, go_sem, r0, r1]) rfl PP.out
end Go.Proofs.YtdkphfafcmogmaaGreatDoor
namespace Go.Proofs.YtdkphfafcmogmaaGreatDoor
open Go.RowKit

/-- nearest of the reference: its boxes. -/
structure Nq (w : World) (g : Nat) (b : Bool) (a : Option Addr) (k c : Nat) (a' : Option Addr) (k' c' : Nat) (x y : Int) (W : World) : Prop where
  r : B3 W (w.heap.size + 1) (.bool false) (.slice none 0 0) (.slice none 0 0)
  q : B3 W g (.bool b) (.slice a k c) (.slice a' k' c')
  n : Nt W a k c x.natAbs
  d : Nt W a' k' c' y.natAbs
  lg : w.heap.size + 1 < g
  bel : Below w.heap.size w W
theorem Nq.keep {w : World} {g : Nat} {b : Bool} {a : Option Addr} {k c : Nat} {a' : Option Addr} {k' c' : Nat} {x y : Int} {W W' : World} (h : Nq w g b a k c a' k' c' x y W) (hb : Below W.heap.size W W') : Nq w g b a k c a' k' c' x y W' :=
  ⟨h.r.keep hb, h.q.keep hb, h.n.below hb, h.d.below hb, h.lg, h.bel.trans (hb.mono h.bel.size)⟩
def S3q (g : Nat) (b : Bool) (a : Option Addr) (k c : Nat) (a' : Option Addr) (k' c' : Nat) (W : World) : Prop :=
  W.cell? ⟨g, 0, none⟩ = some (.bool b) ∧ W.cell? ⟨g, 1, none⟩ = some (.slice a k c) ∧ W.cell? ⟨g, 2, none⟩ = some (.slice a' k' c')
theorem Nq.s3 {w : World} {g : Nat} {b : Bool} {a : Option Addr} {k c : Nat} {a' : Option Addr} {k' c' : Nat} {x y : Int} {W : World} (h : Nq w g b a k c a' k' c' x y W) : S3q g b a k c a' k' c' W := ⟨h.q.c0, h.q.c1, h.q.c2⟩
/-- nearest's answer: a sign, a number and 1. -/
def NePost (b : Bool) (n : Nat) (w : World) (e : Ending) (w' : World) : Prop :=
  ∃ a k c a' k' c', e = .returned (.agg #[.bool (b && decide (0 < n)), .slice a k c, .slice a' k' c']) ∧ Nt w' a k c n ∧ Nt w' a' k' c' 1 ∧ Below w.heap.size w w'
set_option maxRecDepth 100000 in
set_option maxHeartbeats 4000000 in
theorem nearest_c (s t : ByteArray) (x y : Int) (p : Nat) (w : World) (hr : rread s.data.toList t.data.toList = some (x, y)) (hp : p ≤ 20) :
    Calls Tryz.prog 48 #[.agg #[.string s, .string t], .int .i64 p] w (NePost (decide (x < 0)) (nN (x.natAbs * 10 ^ p) y.natAbs) w) := by
  obtain ⟨W0, hW0⟩ : ∃ W0, (w.alloc (.cells #[.string s, .string t] 23)).alloc (.cells #[.bool false, .slice none 0 0, .slice none 0 0] 53) = W0 := ⟨_, rfl⟩
  have s1 : (w.alloc (.cells #[.string s, .string t] 23)).heap.size = w.heap.size + 1 := by simp
  have X0 : B2 W0 w.heap.size (.string s) (.string t) := by rw [← hW0]; exact (B2.made w _ _ _).keep (bel_one _ _)
  have JR0 : Hid (B3 W0 (w.heap.size + 1) (.bool false) (.slice none 0 0) (.slice none 0 0)) := by rw [← hW0, ← s1]; exact B3.made _ _ _ _ _
  have JB0 : Hid (Below w.heap.size w W0) := by rw [← hW0]; exact ((Below.refl _ _).alloc (Nat.le_refl _) _).alloc (by simp) _
  have HO := Lib.hid (fun w => open_c s t x y w hr)
  have V1 := Lib.hid (val_pos_den hr)
  obtain ⟨b, hb⟩ : ∃ b, decide (x < 0) = b := ⟨_, rfl⟩
  rw [hb] at HO ⊢
  have HP := Lib.hid (fun w => power_c p w hp)
  have TEN := Lib.hid (ten_lt p hp)
  obtain ⟨m, hm⟩ : ∃ m, nN (x.natAbs * 10 ^ p) y.natAbs = m := ⟨_, rfl⟩
  rw [hm]
  have HMD := Lib.hid hm
  have x0 := X0.c0
  have x1 := X0.c1
  clear hb hr X0 s1 hp hm
  go_enter Tryz.func48, Tryz.ntmps48
  go_wp2_with fail
  clear hW0 x0 x1
  (with_reducible refine (HO.out _).mono ?_)
  rintro e w5 ⟨a, k, c, a', k', c', rfl, hn, hd, b5⟩
  obtain ⟨WA, hWA⟩ : ∃ W, w5.alloc (.cells #[.bool false, .slice none 0 0, .slice none 0 0] 53) = W := ⟨_, rfl⟩
  have D1 : B3 WA w5.heap.size (.bool false) (.slice none 0 0) (.slice none 0 0) := by rw [← hWA]; exact B3.made _ _ _ _ _
  obtain ⟨WB, hWB⟩ : ∃ W, three WA w5.heap.size (.bool b) (.slice a k c) (.slice a' k' c') = W := ⟨_, rfl⟩
  have hb : Below w5.heap.size w5 WB := by rw [← hWB]; exact below_three (by rw [← hWA]; exact bel_one _ _) (Nat.le_refl _) _ _ _
  have hc := b5.trans (hb.mono b5.size)
  have JN : Hid (Nq w w5.heap.size b a k c a' k' c' x y WB) := ⟨JR0.out.keep hc, by rw [← hWB]; exact D1.set _ _ _, hn.below hb, hd.below hb, Nat.lt_of_lt_of_le JR0.out.lt b5.size, JB0.out.trans (hc.mono JB0.out.size)⟩
  have a0 := D1.c0
  have a1 := D1.c1
  have a2 := D1.c2
  have af0 := D1.fr 0
  have af1 := D1.fr 1
  have af2 := D1.fr 2
  unfold three at hWB
  clear D1 hb hc hn hd b5 JR0 JB0 HO
  go_wp2_with fail
  clear hWA hWB a0 a1 a2 af0 af1 af2
  generalize w5.heap.size = g at *
  refine wp_region_noPanic ?_
  refine wp_region_held_drew (S := S3q g b a k c a' k' c') (by kernel_rfl) (JN.out.keep (Below.refl _ _).drew).s3 (fun hS => ?_)
  have J1 := Lib.hid (JN.out.keep (Below.refl _ _).drew)
  clear JN
  refine wpAnyH_take (i := 0) (v := ?v0z37) rfl (by kernel_rfl) (by kernel_rfl) (by kernel_rfl) (fun _ _ _ h => h) (Or.inl ⟨by rfl, ?hy0z37⟩) (by assumption) ?rest0z37
  case hy0z37 =>
    intro w hSw
    dsimp only [S3q] at hSw
    go_simp
    try with_reducible rfl
  simp only [Act.put, List.getElem_toArray, List.getElem_cons_succ, List.getElem_cons_zero, List.setIfInBounds_toArray, List.set_cons_zero, List.set_cons_succ]
  refine wpAnyH_take (i := 1) (v := ?v1z38) rfl (by kernel_rfl) (by kernel_rfl) (by kernel_rfl) (fun _ _ _ h => h) (Or.inl ⟨by rfl, ?hy1z38⟩) (by assumption) ?rest1z38
  case hy1z38 =>
    intro w hSw
    dsimp only [S3q] at hSw
    go_simp
    try with_reducible rfl
  simp only [Act.put, List.getElem_toArray, List.getElem_cons_succ, List.getElem_cons_zero, List.setIfInBounds_toArray, List.set_cons_zero, List.set_cons_succ]
  refine wpAnyH_take (i := 2) (v := ?v2z39) rfl (by kernel_rfl) (by kernel_rfl) (by kernel_rfl) (fun _ _ _ h => h) (Or.inl ⟨by rfl, ?hy2z39⟩) (by assumption) ?rest2z39
  case hy2z39 =>
    intro w hSw
    dsimp only [S3q] at hSw
    go_simp
    try with_reducible rfl
  simp only [Act.put, List.getElem_toArray, List.getElem_cons_succ, List.getElem_cons_zero, List.setIfInBounds_toArray, List.set_cons_zero, List.set_cons_succ]
  refine wpAnyH_take (i := 5) (v := ?v5z40) rfl (by kernel_rfl) (by kernel_rfl) (by kernel_rfl) (fun _ _ _ h => h) (Or.inl ⟨by rfl, ?hy5z40⟩) (by assumption) ?rest5z40
  case hy5z40 =>
    intro w hSw
    dsimp only [S3q] at hSw
    go_simp
    try with_reducible rfl
  simp only [Act.put, List.getElem_toArray, List.getElem_cons_succ, List.getElem_cons_zero, List.setIfInBounds_toArray, List.set_cons_zero, List.set_cons_succ]
  refine wpAnyH_take (i := 6) (v := ?v6z41) rfl (by kernel_rfl) (by kernel_rfl) (by kernel_rfl) (fun _ _ _ h => h) (Or.inl ⟨by rfl, ?hy6z41⟩) (by assumption) ?rest6z41
  case hy6z41 =>
    intro w hSw
    dsimp only [S3q] at hSw
    go_simp
    try with_reducible rfl
  simp only [Act.put, List.getElem_toArray, List.getElem_cons_succ, List.getElem_cons_zero, List.setIfInBounds_toArray, List.set_cons_zero, List.set_cons_succ]
  refine wpAnyH_ready (rs := [3]) (by kernel_rfl) (by simp) ?_
  refine AllReadyH.cons rfl (fun K hK => ?_) AllReadyH.nil
  go_simp
  (refine (HP.out _).mono ?_)
  rintro e W2 ⟨pa, pk, pc, rfl, hp, bc⟩
  try go_simp
  have J2 := Lib.hid (J1.out.keep bc)
  have hT := J2.out.s3
  have HPP := Lib.hid hp
  refine hK.out _ _ hT (fun _ => ?_)
  clear hK K hS bc J1 hp HP
  have hS := hT
  clear hT
  try simp only [Act.put, List.setIfInBounds_toArray, List.set_cons_zero, List.set_cons_succ]
  have HTM := Lib.hid (ntimes_c a pa k pk c pc _ _ W2 J2.out.n HPP.out (by have := J2.out.n.len V1.out.2.2; have := HPP.out.len TEN.out; omega))
  refine wpAnyH_ready (rs := [4]) (by kernel_rfl) (by simp) ?_
  refine AllReadyH.cons rfl (fun K hK => ?_) AllReadyH.nil
  go_simp
  (refine (HTM.out).mono ?_)
  rintro e W3 ⟨ma, mk, mc, rfl, hm, bc⟩
  try go_simp
  have J3 := Lib.hid (J2.out.keep bc)
  have hT := J3.out.s3
  have HM := Lib.hid hm
  refine hK.out _ _ hT (fun _ => ?_)
  clear hK K hS bc J2 hm HTM HPP
  have hS := hT
  clear hT
  try simp only [Act.put, List.setIfInBounds_toArray, List.set_cons_zero, List.set_cons_succ]
  have HOV := Lib.hid (nover_c ma a' mk k' mc c' _ _ W3 HM.out J3.out.d V1.out.1 (by have := HM.out.len (tp_mul_lt V1.out.2.2 TEN.out); omega))
  refine wpAnyH_ready (rs := [7]) (by kernel_rfl) (by simp) ?_
  refine AllReadyH.cons rfl (fun K hK => ?_) AllReadyH.nil
  go_simp
  (refine (HOV.out).mono ?_)
  rintro e W4 ⟨qa, qk, qc, ra, rk, rc, rfl, hq, hr, bc⟩
  try go_simp
  have J4 := Lib.hid (J3.out.keep bc)
  have hT := J4.out.s3
  have HQ := Lib.hid hq
  have HR := Lib.hid hr
  refine hK.out _ _ hT (fun _ => ?_)
  clear hK K hS bc J3 hq hr HOV HM
  have hS := hT
  clear hT
  try simp only [Act.put, List.setIfInBounds_toArray, List.set_cons_zero, List.set_cons_succ]
  refine wpAnyH_take (i := 8) (v := ?v8z42) rfl (by kernel_rfl) (by kernel_rfl) (by kernel_rfl) (fun _ _ _ h => h) (Or.inl ⟨by rfl, ?hy8z42⟩) (by assumption) ?rest8z42
  case hy8z42 =>
    intro w hSw
    dsimp only [S3q] at hSw
    go_simp
    try with_reducible rfl
  simp only [Act.put, List.getElem_toArray, List.getElem_cons_succ, List.getElem_cons_zero, List.setIfInBounds_toArray, List.set_cons_zero, List.set_cons_succ]
  refine wpAnyH_take (i := 9) (v := ?v9z43) rfl (by kernel_rfl) (by kernel_rfl) (by kernel_rfl) (fun _ _ _ h => h) (Or.inl ⟨by rfl, ?hy9z43⟩) (by assumption) ?rest9z43
  case hy9z43 =>
    intro w hSw
    dsimp only [S3q] at hSw
    go_simp
    try with_reducible rfl
  simp only [Act.put, List.getElem_toArray, List.getElem_cons_succ, List.getElem_cons_zero, List.setIfInBounds_toArray, List.set_cons_zero, List.set_cons_succ]
  refine wpAnyH_take (i := 10) (v := ?v10z44) rfl (by kernel_rfl) (by kernel_rfl) (by kernel_rfl) (fun _ _ _ h => h) (Or.inl ⟨by rfl, ?hy10z44⟩) (by assumption) ?rest10z44
  case hy10z44 =>
    intro w hSw
    dsimp only [S3q] at hSw
    go_simp
    try with_reducible rfl
  simp only [Act.put, List.getElem_toArray, List.getElem_cons_succ, List.getElem_cons_zero, List.setIfInBounds_toArray, List.set_cons_zero, List.set_cons_succ]
  refine wpAnyH_take (i := 11) (v := ?v11z45) rfl (by kernel_rfl) (by kernel_rfl) (by kernel_rfl) (fun _ _ _ h => h) (Or.inl ⟨by rfl, ?hy11z45⟩) (by assumption) ?rest11z45
  case hy11z45 =>
    intro w hSw
    dsimp only [S3q] at hSw
    go_simp
    try with_reducible rfl
  simp only [Act.put, List.getElem_toArray, List.getElem_cons_succ, List.getElem_cons_zero, List.setIfInBounds_toArray, List.set_cons_zero, List.set_cons_succ]
  refine wpAnyH_take (i := 12) (v := ?v12z46) rfl (by kernel_rfl) (by kernel_rfl) (by kernel_rfl) (fun _ _ _ h => h) (Or.inl ⟨by rfl, ?hy12z46⟩) (by assumption) ?rest12z46
  case hy12z46 =>
    intro w hSw
    dsimp only [S3q] at hSw
    go_simp
    try with_reducible rfl
  simp only [Act.put, List.getElem_toArray, List.getElem_cons_succ, List.getElem_cons_zero, List.setIfInBounds_toArray, List.set_cons_zero, List.set_cons_succ]
  refine wpAnyH_done (by kernel_rfl) ?_ _
  refine NoPanic.normal ?_
  clear hS
  obtain ⟨m0, hm0⟩ : ∃ m0, x.natAbs * 10 ^ p / y.natAbs = m0 := ⟨_, rfl⟩
  obtain ⟨r0, hr0⟩ : ∃ r0, x.natAbs * 10 ^ p % y.natAbs = r0 := ⟨_, rfl⟩
  rw [hm0] at HQ
  rw [hr0] at HR
  have HMM : Hid (m = if r0 * 2 < y.natAbs then m0 else m0 + 1) := by unfold Hid; rw [← HMD.out, ← hm0, ← hr0]; rfl
  have RLT : Hid (r0 < y.natAbs) := by unfold Hid; rw [← hr0]; exact Nat.mod_lt _ V1.out.1
  have MLT : Hid (m0 < tp 226) := by
    unfold Hid
    rw [← hm0]
    exact Nat.lt_of_le_of_lt (Nat.div_le_self _ _) (tp_mul_lt V1.out.2.2 TEN.out)
  clear hm0 hr0
  go_wp2_with fail
  refine wp_region_noPanic ?_
  refine wp_region_held_drew (S := S3q g b a k c a' k' c') (by kernel_rfl) (J4.out.keep (Below.refl _ _).drew).s3 (fun hS => ?_)
  have J5 := Lib.hid (J4.out.keep (Below.refl _ _).drew)
  have HQ5 := Lib.hid (HQ.out.below (Below.refl _ _).drew)
  have HR5 := Lib.hid (HR.out.below (Below.refl _ _).drew)
  clear J4 HQ HR
  generalize W4.drew = WE at *
  refine wpAnyH_take (i := 0) (v := ?v0z47) rfl (by kernel_rfl) (by kernel_rfl) (by kernel_rfl) (fun _ _ _ h => h) (Or.inl ⟨by rfl, ?hy0z47⟩) (by assumption) ?rest0z47
  case hy0z47 =>
    intro w hSw
    dsimp only [S3q] at hSw
    go_simp
    try with_reducible rfl
  simp only [Act.put, List.getElem_toArray, List.getElem_cons_succ, List.getElem_cons_zero, List.setIfInBounds_toArray, List.set_cons_zero, List.set_cons_succ]
  refine wpAnyH_take (i := 1) (v := ?v1z48) rfl (by kernel_rfl) (by kernel_rfl) (by kernel_rfl) (fun _ _ _ h => h) (Or.inl ⟨by rfl, ?hy1z48⟩) (by assumption) ?rest1z48
  case hy1z48 =>
    intro w hSw
    dsimp only [S3q] at hSw
    go_simp
    try with_reducible rfl
  simp only [Act.put, List.getElem_toArray, List.getElem_cons_succ, List.getElem_cons_zero, List.setIfInBounds_toArray, List.set_cons_zero, List.set_cons_succ]
  refine wpAnyH_take (i := 3) (v := ?v3z49) rfl (by kernel_rfl) (by kernel_rfl) (by kernel_rfl) (fun _ _ _ h => h) (Or.inl ⟨by rfl, ?hy3z49⟩) (by assumption) ?rest3z49
  case hy3z49 =>
    intro w hSw
    dsimp only [S3q] at hSw
    go_simp
    try with_reducible rfl
  simp only [Act.put, List.getElem_toArray, List.getElem_cons_succ, List.getElem_cons_zero, List.setIfInBounds_toArray, List.set_cons_zero, List.set_cons_succ]
  refine wpAnyH_take (i := 4) (v := ?v4z50) rfl (by kernel_rfl) (by kernel_rfl) (by kernel_rfl) (fun _ _ _ h => h) (Or.inl ⟨by rfl, ?hy4z50⟩) (by assumption) ?rest4z50
  case hy4z50 =>
    intro w hSw
    dsimp only [S3q] at hSw
    go_simp
    try with_reducible rfl
  simp only [Act.put, List.getElem_toArray, List.getElem_cons_succ, List.getElem_cons_zero, List.setIfInBounds_toArray, List.set_cons_zero, List.set_cons_succ]
  have HPL := Lib.hid (nplus_c ra ra rk rk rc rc _ _ WE HR5.out HR5.out (by have := HR5.out.len (Nat.lt_trans RLT.out V1.out.2.1); omega) (by have := HR5.out.len (Nat.lt_trans RLT.out V1.out.2.1); omega))
  refine wpAnyH_ready (rs := [2]) (by kernel_rfl) (by simp) ?_
  refine AllReadyH.cons rfl (fun K hK => ?_) AllReadyH.nil
  go_simp
  (refine (HPL.out).mono ?_)
  rintro e W6 ⟨ta, tk, tc, rfl, ht, bc⟩
  try go_simp
  have J6 := Lib.hid (J5.out.keep bc)
  have hT := J6.out.s3
  have HT := Lib.hid ht
  have HQ6 := Lib.hid (HQ5.out.below bc)
  refine hK.out _ _ hT (fun _ => ?_)
  clear hK K hS bc J5 ht HPL HQ5 HR5
  have hS := hT
  clear hT
  try simp only [Act.put, List.setIfInBounds_toArray, List.set_cons_zero, List.set_cons_succ]
  have HOR := Lib.hid (norder_c ta a' tk k' tc c' _ _ W6 HT.out J6.out.d)
  obtain ⟨sg, hsg⟩ : ∃ sg, sgn (r0 + r0) y.natAbs = sg := ⟨_, rfl⟩
  rw [hsg] at HOR
  have HSG := Lib.hid hsg
  clear hsg
  refine wpAnyH_ready (rs := [5]) (by kernel_rfl) (by simp) ?_
  refine AllReadyH.cons rfl (fun K hK => ?_) AllReadyH.nil
  go_simp
  (refine HOR.out.mono ?_)
  rintro e W7 ⟨rfl, mm, rfl⟩
  try go_simp
  have bc := bel_drewN W6 mm
  have J7 := Lib.hid (J6.out.keep bc)
  have HQ7 := Lib.hid (HQ6.out.below bc)
  have hT := J7.out.s3
  refine hK.out _ _ hT (fun _ => ?_)
  clear hK K hS bc J6 HQ6 HOR HT
  generalize W6.drewN mm = W7 at *
  have hS := hT
  clear hT
  try simp only [Act.put, List.setIfInBounds_toArray, List.set_cons_zero, List.set_cons_succ]
  by_cases hl : r0 * 2 < y.natAbs
  · have hs0 : ¬ 0 ≤ sg := by rw [← HSG.out, sgn_lt (by omega)]; decide
    have HN : Hid (m = m0) := by unfold Hid; rw [HMM.out, if_pos hl]
    clear hl HSG HMM
    refine wpAnyH_take (i := 6) (v := ?v6z51) rfl (by kernel_rfl) (by kernel_rfl) (by kernel_rfl) (fun _ _ _ h => h) (Or.inl ⟨by rfl, ?hy6z51⟩) (by assumption) ?rest6z51
    case hy6z51 =>
      intro w hSw
      dsimp only [S3q] at hSw
      go_simp
      try with_reducible rfl
    simp only [Act.put, List.getElem_toArray, List.getElem_cons_succ, List.getElem_cons_zero, List.setIfInBounds_toArray, List.set_cons_zero, List.set_cons_succ]
    refine wpAnyH_done (by kernel_rfl) ?_ _
    refine NoPanic.normal ?_
    clear hS
    have HQ8 : Hid (Nt W7 qa qk qc m) := by unfold Hid; rw [HN.out]; exact HQ7.out
    clear HN HQ7
    have HLN : Hid (0 < qk ↔ 0 < m) := ⟨fun h => Nat.lt_of_lt_of_le (tp_pos (qk - 1)) (HQ8.out.pos h), fun h => HQ8.out.one h⟩
    have k0 := J7.out.q.c0
    have HB1 : Hid ((b && decide (0 < qk)) = (b && decide (0 < m))) := by
      unfold Hid
      by_cases h : 0 < m
      · rw [decide_eq_true h, decide_eq_true (HLN.out.2 h)]
      · rw [decide_eq_false h, decide_eq_false (fun q => h (HLN.out.1 q))]
    have HS1 := Lib.hid (fun w => nsmall_c 1 w (by decide))
    have fin : Hid (∀ ob, (b && decide (0 < qk)) = ob → (b && decide (0 < m)) = ob) := fun ob h => by rw [← HB1.out]; exact h
    cases b
    · have fin := fin.out false rfl
      have FIN := Lib.hid fin
      clear fin HLN HB1
      go_wp2_with fail
      clear k0
      (refine (HS1.out _).mono ?_)
      rintro e w9 ⟨oa, ok, oc, rfl, ho, b9⟩
      have JJ := J7.out.keep b9
      have NO := HQ8.out.below b9
      obtain ⟨W9, hW9⟩ : ∃ W9, three w9 (w.heap.size + 1) (.bool false) (.slice qa qk qc) (.slice oa ok oc) = W9 := ⟨_, rfl⟩
      have R9 : B3 W9 (w.heap.size + 1) (.bool false) (.slice qa qk qc) (.slice oa ok oc) := by rw [← hW9]; exact JJ.r.set _ _ _
      have PP : Hid (NePost false m w (.returned (.agg #[.bool false, .slice qa qk qc, .slice oa ok oc])) W9) := by
        rw [← hW9]
        exact ⟨_, _, _, _, _, _, by rw [FIN.out], NO.set3 JJ.r _ _ _, ho.set3 JJ.r _ _ _, below_three JJ.bel (by omega) _ _ _⟩
      have q0 := JJ.r.c0
      have q1 := JJ.r.c1
      have q2 := JJ.r.c2
      have g0 := JJ.r.fr 0
      have g1 := JJ.r.fr 1
      have g2 := JJ.r.fr 2
      obtain ⟨r0, r1, r2, _, _⟩ := id R9
      unfold three at hW9
      clear R9 JJ NO ho b9 HS1 J7 HQ8
      go_wp2_with fail
      exact bodyPost_ret (v := .agg #[.bool false, .slice qa qk qc, .slice oa ok oc]) (by simp [results, Tryz.results48, go_sem, r0, r1, r2]) rfl PP.out
    · rcases Nat.eq_zero_or_pos qk with e0 | e0
      · subst e0
        have fin := fin.out false rfl
        have FIN := Lib.hid fin
        clear fin HLN HB1
        go_wp2_with fail
        clear k0
        (refine (HS1.out _).mono ?_)
        rintro e w9 ⟨oa, ok, oc, rfl, ho, b9⟩
        have JJ := J7.out.keep b9
        have NO := HQ8.out.below b9
        obtain ⟨W9, hW9⟩ : ∃ W9, three w9 (w.heap.size + 1) (.bool false) (.slice qa 0 qc) (.slice oa ok oc) = W9 := ⟨_, rfl⟩
        have R9 : B3 W9 (w.heap.size + 1) (.bool false) (.slice qa 0 qc) (.slice oa ok oc) := by rw [← hW9]; exact JJ.r.set _ _ _
        have PP : Hid (NePost true m w (.returned (.agg #[.bool false, .slice qa 0 qc, .slice oa ok oc])) W9) := by
          rw [← hW9]
          exact ⟨_, _, _, _, _, _, by rw [FIN.out], NO.set3 JJ.r _ _ _, ho.set3 JJ.r _ _ _, below_three JJ.bel (by omega) _ _ _⟩
        have q0 := JJ.r.c0
        have q1 := JJ.r.c1
        have q2 := JJ.r.c2
        have g0 := JJ.r.fr 0
        have g1 := JJ.r.fr 1
        have g2 := JJ.r.fr 2
        obtain ⟨r0, r1, r2, _, _⟩ := id R9
        unfold three at hW9
        clear R9 JJ NO ho b9 HS1 J7 HQ8
        go_wp2_with fail
        exact bodyPost_ret (v := .agg #[.bool false, .slice qa 0 qc, .slice oa ok oc]) (by simp [results, Tryz.results48, go_sem, r0, r1, r2]) rfl PP.out
      · have e0' : (0 : Int) < (qk : Int) := by omega
        have fin := fin.out true (by rw [decide_eq_true e0]; rfl)
        have FIN := Lib.hid fin
        clear fin HLN HB1
        go_wp2_with fail
        clear k0
        (refine (HS1.out _).mono ?_)
        rintro e w9 ⟨oa, ok, oc, rfl, ho, b9⟩
        have JJ := J7.out.keep b9
        have NO := HQ8.out.below b9
        obtain ⟨W9, hW9⟩ : ∃ W9, three w9 (w.heap.size + 1) (.bool true) (.slice qa qk qc) (.slice oa ok oc) = W9 := ⟨_, rfl⟩
        have R9 : B3 W9 (w.heap.size + 1) (.bool true) (.slice qa qk qc) (.slice oa ok oc) := by rw [← hW9]; exact JJ.r.set _ _ _
        have PP : Hid (NePost true m w (.returned (.agg #[.bool true, .slice qa qk qc, .slice oa ok oc])) W9) := by
          rw [← hW9]
          exact ⟨_, _, _, _, _, _, by rw [FIN.out], NO.set3 JJ.r _ _ _, ho.set3 JJ.r _ _ _, below_three JJ.bel (by omega) _ _ _⟩
        have q0 := JJ.r.c0
        have q1 := JJ.r.c1
        have q2 := JJ.r.c2
        have g0 := JJ.r.fr 0
        have g1 := JJ.r.fr 1
        have g2 := JJ.r.fr 2
        obtain ⟨r0, r1, r2, _, _⟩ := id R9
        unfold three at hW9
        clear R9 JJ NO ho b9 HS1 J7 HQ8
        go_wp2_with fail
        exact bodyPost_ret (v := .agg #[.bool true, .slice qa qk qc, .slice oa ok oc]) (by simp [results, Tryz.results48, go_sem, r0, r1, r2]) rfl PP.out
  · have hs0 : 0 ≤ sg := by
      rw [← HSG.out]
      unfold sgn
      rw [if_neg (by omega)]
      split <;> omega
    have HN : Hid (m = m0 + 1) := by unfold Hid; rw [HMM.out, if_neg hl]
    clear hl HSG HMM
    refine wpAnyH_take (i := 6) (v := ?v6z52) rfl (by kernel_rfl) (by kernel_rfl) (by kernel_rfl) (fun _ _ _ h => h) (Or.inl ⟨by rfl, ?hy6z52⟩) (by assumption) ?rest6z52
    case hy6z52 =>
      intro w hSw
      dsimp only [S3q] at hSw
      go_simp
      try with_reducible rfl
    simp only [Act.put, List.getElem_toArray, List.getElem_cons_succ, List.getElem_cons_zero, List.setIfInBounds_toArray, List.set_cons_zero, List.set_cons_succ]
    refine wpAnyH_done (by kernel_rfl) ?_ _
    refine NoPanic.normal ?_
    clear hS
    have HSM := Lib.hid (fun w => nsmall_c 1 w (by decide))
    go_wp2_with fail
    (refine (HSM.out _).mono ?_)
    rintro e w8 ⟨oa, ok, oc, rfl, ho, b8⟩
    have J8 := Lib.hid (J7.out.keep b8)
    have HQ8 := Lib.hid (HQ7.out.below b8)
    have HO8 := Lib.hid ho
    have HPL := Lib.hid (nplus_c qa oa qk ok qc oc _ _ w8 HQ8.out HO8.out (by have := HQ8.out.len MLT.out; omega) (by have := HO8.out.len (K := 1) (by rw [tp_one]; decide); omega))
    clear J7 HQ7 ho b8 HSM
    go_wp2_with fail
    (refine HPL.out.mono ?_)
    rintro e w10 ⟨na, nk, nc, rfl, hn, b10⟩
    have J10 := Lib.hid (J8.out.keep b10)
    have HQ10 : Hid (Nt w10 na nk nc m) := by unfold Hid; rw [HN.out]; exact hn
    clear J8 HQ8 HO8 hn b10 HPL HN
    have HLN : Hid (0 < nk ↔ 0 < m) := ⟨fun h => Nat.lt_of_lt_of_le (tp_pos (nk - 1)) (HQ10.out.pos h), fun h => HQ10.out.one h⟩
    have k0 := J10.out.q.c0
    have HB1 : Hid ((b && decide (0 < nk)) = (b && decide (0 < m))) := by
      unfold Hid
      by_cases h : 0 < m
      · rw [decide_eq_true h, decide_eq_true (HLN.out.2 h)]
      · rw [decide_eq_false h, decide_eq_false (fun q => h (HLN.out.1 q))]
    have HS1 := Lib.hid (fun w => nsmall_c 1 w (by decide))
    have fin : Hid (∀ ob, (b && decide (0 < nk)) = ob → (b && decide (0 < m)) = ob) := fun ob h => by rw [← HB1.out]; exact h
    cases b
    · have fin := fin.out false rfl
      have FIN := Lib.hid fin
      clear fin HLN HB1
      go_wp2_with fail
      clear k0
      (refine (HS1.out _).mono ?_)
      rintro e w9 ⟨oa, ok, oc, rfl, ho, b9⟩
      have JJ := J10.out.keep b9
      have NO := HQ10.out.below b9
      obtain ⟨W9, hW9⟩ : ∃ W9, three w9 (w.heap.size + 1) (.bool false) (.slice na nk nc) (.slice oa ok oc) = W9 := ⟨_, rfl⟩
      have R9 : B3 W9 (w.heap.size + 1) (.bool false) (.slice na nk nc) (.slice oa ok oc) := by rw [← hW9]; exact JJ.r.set _ _ _
      have PP : Hid (NePost false m w (.returned (.agg #[.bool false, .slice na nk nc, .slice oa ok oc])) W9) := by
        rw [← hW9]
        exact ⟨_, _, _, _, _, _, by rw [FIN.out], NO.set3 JJ.r _ _ _, ho.set3 JJ.r _ _ _, below_three JJ.bel (by omega) _ _ _⟩
      have q0 := JJ.r.c0
      have q1 := JJ.r.c1
      have q2 := JJ.r.c2
      have g0 := JJ.r.fr 0
      have g1 := JJ.r.fr 1
      have g2 := JJ.r.fr 2
      obtain ⟨r0, r1, r2, _, _⟩ := id R9
      unfold three at hW9
      clear R9 JJ NO ho b9 HS1 J10 HQ10
      go_wp2_with fail
      exact bodyPost_ret (v := .agg #[.bool false, .slice na nk nc, .slice oa ok oc]) (by simp [results, Tryz.results48, go_sem, r0, r1, r2]) rfl PP.out
    · rcases Nat.eq_zero_or_pos nk with e0 | e0
      · subst e0
        have fin := fin.out false rfl
        have FIN := Lib.hid fin
        clear fin HLN HB1
        go_wp2_with fail
        clear k0
        (refine (HS1.out _).mono ?_)
        rintro e w9 ⟨oa, ok, oc, rfl, ho, b9⟩
        have JJ := J10.out.keep b9
        have NO := HQ10.out.below b9
        obtain ⟨W9, hW9⟩ : ∃ W9, three w9 (w.heap.size + 1) (.bool false) (.slice na 0 nc) (.slice oa ok oc) = W9 := ⟨_, rfl⟩
        have R9 : B3 W9 (w.heap.size + 1) (.bool false) (.slice na 0 nc) (.slice oa ok oc) := by rw [← hW9]; exact JJ.r.set _ _ _
        have PP : Hid (NePost true m w (.returned (.agg #[.bool false, .slice na 0 nc, .slice oa ok oc])) W9) := by
          rw [← hW9]
          exact ⟨_, _, _, _, _, _, by rw [FIN.out], NO.set3 JJ.r _ _ _, ho.set3 JJ.r _ _ _, below_three JJ.bel (by omega) _ _ _⟩
        have q0 := JJ.r.c0
        have q1 := JJ.r.c1
        have q2 := JJ.r.c2
        have g0 := JJ.r.fr 0
        have g1 := JJ.r.fr 1
        have g2 := JJ.r.fr 2
        obtain ⟨r0, r1, r2, _, _⟩ := id R9
        unfold three at hW9
        clear R9 JJ NO ho b9 HS1 J10 HQ10
        go_wp2_with fail
        exact bodyPost_ret (v := .agg #[.bool false, .slice na 0 nc, .slice oa ok oc]) (by simp [results, Tryz.results48, go_sem, r0, r1, r2]) rfl PP.out
      · have e0' : (0 : Int) < (nk : Int) := by omega
        have fin := fin.out true (by rw [decide_eq_true e0]; rfl)
        have FIN := Lib.hid fin
        clear fin HLN HB1
        go_wp2_with fail
        clear k0
        (refine (HS1.out _).mono ?_)
        rintro e w9 ⟨oa, ok, oc, rfl, ho, b9⟩
        have JJ := J10.out.keep b9
        have NO := HQ10.out.below b9
        obtain ⟨W9, hW9⟩ : ∃ W9, three w9 (w.heap.size + 1) (.bool true) (.slice na nk nc) (.slice oa ok oc) = W9 := ⟨_, rfl⟩
        have R9 : B3 W9 (w.heap.size + 1) (.bool true) (.slice na nk nc) (.slice oa ok oc) := by rw [← hW9]; exact JJ.r.set _ _ _
        have PP : Hid (NePost true m w (.returned (.agg #[.bool true, .slice na nk nc, .slice oa ok oc])) W9) := by
          rw [← hW9]
          exact ⟨_, _, _, _, _, _, by rw [FIN.out], NO.set3 JJ.r _ _ _, ho.set3 JJ.r _ _ _, below_three JJ.bel (by omega) _ _ _⟩
        have q0 := JJ.r.c0
        have q1 := JJ.r.c1
        have q2 := JJ.r.c2
        have g0 := JJ.r.fr 0
        have g1 := JJ.r.fr 1
        have g2 := JJ.r.fr 2
        obtain ⟨r0, r1, r2, _, _⟩ := id R9
        unfold three at hW9
        clear R9 JJ NO ho b9 HS1 J10 HQ10
        go_wp2_with fail
        exact bodyPost_ret (v := .agg #[.bool true, .slice na nk nc, .slice oa ok oc]) (by simp [results, Tryz.results48, go_sem, r0, r1, r2]) rfl PP.out
end Go.Proofs.YtdkphfafcmogmaaGreatDoor
