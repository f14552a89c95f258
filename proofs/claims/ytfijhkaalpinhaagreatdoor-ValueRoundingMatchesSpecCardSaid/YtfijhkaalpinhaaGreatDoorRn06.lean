/-
  Numbers of any size: division.
  Numbers of any size: the highest bits of a number, and steps at once.
  Numbers of any size: as many steps as the highest bits decide.
  Numbers of any size: stepsOf.
-/
import Derived.Test.YtfijhkaalpinhaaGreatDoorRn05
namespace Go.Proofs.YtfijhkaalpinhaaGreatDoor
open Go.RowKit

theorem sgn_neg (x y : Nat) : decide (sgn x y < 0) = decide (x < y) := by
  rcases Nat.lt_trichotomy x y with l | l | l
  · rw [sgn_lt l]; simp [l]
  · subst l; rw [sgn_eq]; simp
  · rw [sgn_gt l]
    have h : ¬ x < y := by omega
    simp [h]
/-- A slice that was built of one limb. -/
theorem built_one (w : World) (n : Nat) (hn : n < 18446744073709551616) : Rl (w.alloc (.cells #[.int .u64 n] 80)) (some ⟨w.heap.size, 0, none⟩) 1 (fun _ => n) :=
  ⟨by omega, fun _ _ => hn, fun _ => ⟨w.heap.size, 0, rfl, by simp, fun j hj => by
    obtain rfl : j = 0 := by omega
    rw [World.cell?_alloc_new]; rfl⟩⟩
set_option maxRecDepth 100000 in
set_option maxHeartbeats 2000000 in
theorem divide_c (a1 a2 : Option Addr) (k1 k2 c1 c2 n1 n2 : Nat) (w : World) (h1 : Nm w a1 k1 c1 n1) (h2 : Nm w a2 k2 c2 n2) (h0 : 0 < n2) (hn1 : n1 < bp 4000) :
    Calls Tryz.prog 114 #[.slice a1 k1 c1, .slice a2 k2 c2] w (DivPost n1 n2 w) := by
  have hk1 := h1.len hn1
  have HC := Lib.hid (compare_c a1 a2 k1 k2 c1 c2 n1 n2 w h1 h2)
  have HS := Lib.hid (sgn_neg n1 n2)
  by_cases hlt : n1 < n2
  · have hd : decide (sgn n1 n2 < 0) = true := by rw [HS.out]; simp [hlt]
    have R := Lib.hid (fun q => (show DivPost n1 n2 w (.returned (.tuple #[.slice none 0 0, .slice a1 k1 c1])) (w.drewN q) from
      ⟨_, _, _, _, _, _, rfl, by rw [Nat.div_eq_of_lt hlt]; exact Nm.zero _ _ _ (by omega) Pl.none_, by rw [Nat.mod_eq_of_lt hlt]; exact h1.below (bel_drewN _ _), bel_drewN _ _⟩))
    clear h1 h2 hlt HS
    generalize sgn n1 n2 = sg at *
    go_enter Tryz.func114, Tryz.ntmps114
    go_wp2_with fail
    refine HC.out.mono ?_
    rintro e w1 ⟨rfl, q, rfl⟩
    go_wp2
    go_ret2
    exact R.out q
  · have hd : decide (sgn n1 n2 < 0) = false := by rw [HS.out]; simp [hlt]
    have hk2 := h2.one h0
    have hk12 : k2 ≤ k1 := by
      rcases Nat.lt_or_ge k1 k2 with l | l
      · have e1 := h1.lt
        have e2 := h2.pos (by omega)
        have e3 := bp_mono (show k1 ≤ k2 - 1 by omega)
        omega
      · exact l
    have H1 := Lib.hid h1
    have H2 := Lib.hid h2
    clear HS
    by_cases hk : k2 = 1
    · subst hk
      obtain ⟨f2, r2, _, _, t2, s2, p2⟩ := h2
      obtain ⟨b2, o2, rfl, hb2, hc2⟩ := r2.at_ (show 0 < 1 by omega)
      rw [S_one] at s2
      have hlim := r2.2.1 0 (by omega)
      rw [s2] at hc2 hlim
      have GB := Lib.hid hb2
      have GC := Lib.hid hc2
      clear r2 t2 s2 p2 h1 hlt hk2 hk12 hb2 hc2
      generalize sgn n1 n2 = sg at *
      have H0 := Lib.hid h0
      clear h0
      go_enter Tryz.func114, Tryz.ntmps114
      go_wp2_with fail
      refine HC.out.mono ?_
      rintro e w1 ⟨rfl, q, rfl⟩
      have hc2' : (w.drewN q).cell? ⟨b2, o2 + 0, none⟩ = some (.int .u64 n2) := GC.out
      rw [Nat.add_zero] at hc2'
      have L1 := Lib.hid (H1.out.below (bel_drewN w q))
      have B1 := Lib.hid (bel_drewN w q)
      generalize w.drewN q = w1 at *
      clear H1 H2 HC GB GC
      go_wp2_with fail
      refine (divideShort_c a1 k1 c1 n1 n2 w1 L1.out H0.out hlim).mono ?_
      rintro e w3 ⟨a3, k3, c3, r, rfl, hr, l3, b3⟩
      have hrb : r < 18446744073709551616 := by rw [hr]; have := Nat.mod_lt n1 H0.out; omega
      have HR := Lib.hid hr
      have L3 := Lib.hid l3
      have B3 := Lib.hid (B1.out.trans (b3.mono B1.out.size))
      clear l3 b3 hr
      go_wp2_with fail
      have hL : Hid (Nm (w3.alloc (.cells #[.int .u64 r] 80)) a3 k3 c3 (n1 / n2)) := L3.out.below (bel_one _ _)
      have hB : Hid (Below w.heap.size w (w3.alloc (.cells #[.int .u64 r] 80))) := B3.out.alloc B3.out.size _
      have hT := Lib.hid (trim_c (some ⟨w3.heap.size, 0, none⟩) 1 1 (fun _ => r) (w3.alloc (.cells #[.int .u64 r] 80)) (built_one w3 r hrb) (by omega) (by omega) (Pl.some_ _ _))
      refine hT.out.mono ?_
      rintro e w4 ⟨a4, k4, c4, rfl, l4, b4⟩
      rw [S_one, HR.out] at l4
      have R : Hid (DivPost n1 n2 w (.returned (.tuple #[.slice a3 k3 c3, .slice a4 k4 c4])) w4) := ⟨_, _, _, _, _, _, rfl, hL.out.below b4, l4, hB.out.trans (b4.mono hB.out.size)⟩
      clear l4 b4
      go_wp2
      go_ret2
      exact R.out
    · obtain ⟨m, rfl⟩ : ∃ m, k2 = m + 1 := ⟨k2 - 1, by omega⟩
      have hne : ((m : Int) + 1 == 1) = false := by rw [beq_eq_false_iff_ne]; omega
      have hne' : (m == 0) = false := by rw [beq_eq_false_iff_ne]; omega
      have HD := Lib.hid (fun q => divideLong_c a1 a2 k1 m c1 c2 n1 n2 (w.drewN q) (h1.below (bel_drewN w q)) (h2.below (bel_drewN w q)) hk12 (by omega))
      clear h1 h2 hlt hk
      generalize sgn n1 n2 = sg at *
      go_enter Tryz.func114, Tryz.ntmps114
      go_wp2_with fail
      refine HC.out.mono ?_
      rintro e w1 ⟨rfl, q, rfl⟩
      go_wp2_with fail
      (with_reducible refine (HD.out q).mono ?_)
      rintro e w4 ⟨qa, qk, qc, ra, rk, rc, rfl, l1, l2, b4⟩
      have R : Hid (DivPost n1 n2 w (.returned (.tuple #[.slice qa qk qc, .slice ra rk rc])) w4) := ⟨_, _, _, _, _, _, rfl, l1, l2, (bel_drewN w q).trans b4⟩
      clear l1 l2 b4
      go_wp2
      go_ret2
      exact R.out
end Go.Proofs.YtfijhkaalpinhaaGreatDoor
namespace Go.Proofs.YtfijhkaalpinhaaGreatDoor
open Go.RowKit

theorem zshl (s : Nat) (_ : s < 64) : IntKind.u64.wrap 0 = 0 := by decide
def WinPost (h l s : Nat) (w : World) (e : Ending) (w' : World) : Prop := ∃ v : Nat, e = .returned (.int .u64 (v : Int)) ∧ v = (h * 2 ^ s ||| l / 2 ^ (64 - s)) ∧ ∃ q, w' = w.drewN q
set_option maxRecDepth 100000 in
set_option maxHeartbeats 2000000 in
theorem window_c (a : Option Addr) (k c z s : Nat) (f : Nat → Nat) (w : World) (h : Rl w a k f) (hk : k ≤ z + 2) (hz : z < 50000) (hs : s < 64) (hh : ext f k (z + 1) * 2 ^ s < 18446744073709551616) :
    Calls Tryz.prog 135 #[.slice a k c, .int .i64 ((z : Int) + 2), .int .i64 s] w (WinPost (ext f k (z + 1)) (ext f k z) s w) := by
  have hw1 : IntKind.i64.wrap ((z : Int) + 1) = (z : Int) + 1 := by rw [IntKind.wrap_i64]; omega
  have hw0 : IntKind.i64.wrap (z : Int) = (z : Int) := by rw [IntKind.wrap_i64]; omega
  have hw64 : IntKind.i64.wrap (64 - (s : Int)) = 64 - (s : Int) := by rw [IntKind.wrap_i64]; omega
  have hp : 0 < 2 ^ s := Nat.pow_pos (by decide)
  have hl : ext f k z < 18446744073709551616 := by
    by_cases e : z < k
    · rw [ext_in e]; exact h.2.1 z e
    · rw [ext_out (by omega)]; decide
  obtain ⟨x, hx⟩ : ∃ x, ext f k (z + 1) * 2 ^ s = x := ⟨_, rfl⟩
  obtain ⟨y, hy⟩ : ∃ y, ext f k z / 2 ^ (64 - s) = y := ⟨_, rfl⟩
  have hxb : x < 18446744073709551616 := by rw [← hx]; exact hh
  have hyb : y < 18446744073709551616 := by rw [← hy]; have := Nat.div_le_self (ext f k z) (2 ^ (64 - s)); omega
  obtain ⟨v, hv⟩ : ∃ v, x ||| y = v := ⟨_, rfl⟩
  have e1 : IntKind.u64.wrap ((ext f k (z + 1) : Int) * 2 ^ s) = (x : Int) := wrap_shl (by rw [hx]; exact Nat.mod_eq_of_lt hxb)
  have e2 : (ext f k z : Int) / 2 ^ (64 - s) = (y : Int) := shr_cast hy
  have e3 := or_cast hxb hyb hv
  have HV : Hid (v = (ext f k (z + 1) * 2 ^ s ||| ext f k z / 2 ^ (64 - s))) := by unfold Hid; rw [hx, hy, hv]
  clear hx hy hv hh hp
  by_cases c1 : k = z + 2
  · subst c1
    obtain ⟨b, o, rfl, _, g1⟩ := h.at_ (show z + 1 < z + 2 by omega)
    obtain ⟨b', o', e, _, g0⟩ := h.at_ (show z < z + 2 by omega)
    injection e with e
    injection e with e4 e5
    subst e4 e5
    have t1 := ext_in (f := f) (show z + 1 < z + 2 by omega)
    have t0 := ext_in (f := f) (show z < z + 2 by omega)
    rw [← t1] at g1
    rw [← t0] at g0
    clear t1 t0 h
    generalize ext f (z + 2) (z + 1) = hi at *
    generalize ext f (z + 2) z = lo at *
    have d1 : (z : Int) + 1 < (z : Int) + 2 := by omega
    have d2 : (z : Int) < (z : Int) + 2 := by omega
    have d3 : z + 1 < z + 2 := by omega
    have d4 : z < z + 2 := by omega
    go_enter Tryz.func135, Tryz.ntmps135
    go_wp2_with fail
    go_quiet (fail)
    go_wp2
    go_ret
    exact ⟨v, rfl, HV.out, _, rfl⟩
  · by_cases c2 : k = z + 1
    · subst c2
      obtain ⟨b, o, rfl, _, g0⟩ := h.at_ (show z < z + 1 by omega)
      have t1 := ext_out (f := f) (show z + 1 ≤ z + 1 by omega)
      have t0 := ext_in (f := f) (show z < z + 1 by omega)
      rw [← t0] at g0
      rw [t1] at e1
      have e1' : (x : Int) = 0 := by rw [← e1, Int.natCast_zero, Int.zero_mul]; decide
      clear t0 h e1
      generalize ext f (z + 1) (z + 1) = hi at *
      generalize ext f (z + 1) z = lo at *
      have ex : x = 0 := by omega
      subst ex
      have e3' : bits .or .u64 (0 : Int) (y : Int) = (v : Int) := e3
      clear e1' t1 e3
      have d1 : ¬ (z : Int) + 2 ≤ (z : Int) + 1 := by omega
      have d4 : z < z + 1 := by omega
      have d2 : (z : Int) < (z : Int) + 1 := by omega
      have ez := zshl s hs
      go_enter Tryz.func135, Tryz.ntmps135
      go_wp2_with fail
      go_quiet (fail)
      go_wp2
      go_ret
      exact ⟨v, rfl, HV.out, _, rfl⟩
    · have hkz : k ≤ z := by omega
      have t1 := ext_out (f := f) (show k ≤ z + 1 by omega)
      have t0 := ext_out (f := f) hkz
      have H := Lib.hid h
      rw [t1] at e1
      rw [t0] at e2
      have e1' : (x : Int) = 0 := by rw [← e1, Int.natCast_zero, Int.zero_mul]; decide
      have e2' : (y : Int) = 0 := by rw [← e2, Int.natCast_zero, Int.zero_ediv]
      clear h e1 e2 hl
      generalize ext f k (z + 1) = hi at *
      generalize ext f k z = lo at *
      have ex : x = 0 := by omega
      have ey : y = 0 := by omega
      subst ex ey
      have e3' : bits .or .u64 (0 : Int) (0 : Int) = (v : Int) := e3
      clear e1' e2' t1 t0 e3
      have d1 : ¬ (z : Int) + 2 ≤ (k : Int) := by omega
      have d2 : ¬ (z : Int) + 1 ≤ (k : Int) := by omega
      have ez := zshl s hs
      go_enter Tryz.func135, Tryz.ntmps135
      go_wp2_with fail
      go_quiet (fail)
      go_wp2
      go_ret
      exact ⟨v, rfl, HV.out, _, rfl⟩
/-- A step's six cells, as a value. -/
abbrev stepV (a0 b0 a1 b1 : Nat) (odd made : Bool) : Value := .agg #[.int .u64 (a0 : Int), .int .u64 (b0 : Int), .int .u64 (a1 : Int), .int .u64 (b1 : Int), .bool odd, .bool made]
theorem step_less {P G X Y m l b x y t u p q m' l' s b' : Nat} (h : G + u * Y + m * P = t * X + (l + b) * P) (h1 : x * t + m = p + m' * 18446744073709551616) (h2 : y * u + l = q + l' * 18446744073709551616) (h3 : s + (q + b) = p + b' * 18446744073709551616) :
    (G + s * P) + u * (Y + y * P) + m' * (P * 18446744073709551616) = t * (X + x * P) + (l' + b') * (P * 18446744073709551616) := by grind
theorem less_end {P G A B m lb r : Nat} (h : G + B + m * P = A + lb * P) (hr : A = B + r) (hG : G < P) (hr2 : r < P) : G = r := by
  have e : G + m * P = r + lb * P := by omega
  have h1 : (G + m * P) % P = G := by rw [Nat.add_mul_mod_self_right, Nat.mod_eq_of_lt hG]
  have h2 : (r + lb * P) % P = r := by rw [Nat.add_mul_mod_self_right, Nat.mod_eq_of_lt hr2]
  rw [← h1, e, h2]
theorem ext_lb {f : Nat → Nat} {k : Nat} (h : Lb f k) (j : Nat) : ext f k j < 18446744073709551616 := by
  by_cases e : j < k
  · rw [ext_in e]; exact h j e
  · rw [ext_out (by omega)]; decide
/-- What lies there in the loop of timesLess. -/
def TlI (w : World) (f1 f2 : Nat → Nat) (K x y j m l b : Nat) (g : Nat → Nat) (wr : World) : Prop :=
  Bf wr w.heap.size K g ∧ Below w.heap.size w wr ∧ S g j + y * S f2 j + m * bp j = x * S f1 j + (l + b) * bp j
set_option maxRecDepth 100000 in
set_option maxHeartbeats 4000000 in
theorem timesLess_c (p1 p2 : Option Addr) (k1 k2 c1 c2 n1 n2 x y r : Nat) (w : World) (h1 : Nm w p1 k1 c1 n1) (h2 : Nm w p2 k2 c2 n2) (hn1 : n1 < bp 2000) (hn2 : n2 < bp 2000)
    (hx : x < 18446744073709551616) (hy : y < 18446744073709551616) (hr : x * n1 = y * n2 + r) (hrb : r ≤ n1 ∨ r ≤ n2) :
    Calls Tryz.prog 151 #[.slice p1 k1 c1, .int .u64 x, .slice p2 k2 c2, .int .u64 y] w (NmPost r w) := by
  have hk1 := h1.len hn1
  have hk2 := h2.len hn2
  obtain ⟨K, hK⟩ : ∃ K, max k1 k2 = K := ⟨_, rfl⟩
  have hkK : k1 ≤ K ∧ k2 ≤ K ∧ K ≤ 2000 := by omega
  have hKo : K = k1 ∨ K = k2 := by omega
  have hmax : max (k1 : Int) (k2 : Int) = (K : Int) := by omega
  have HRB : Hid (r < bp K) := by
    rcases hrb with e | e
    · exact Nat.lt_of_lt_of_le (Nat.lt_of_le_of_lt e h1.lt) (bp_mono hkK.1)
    · exact Nat.lt_of_lt_of_le (Nat.lt_of_le_of_lt e h2.lt) (bp_mono hkK.2.1)
  obtain ⟨f1, r1, _, _, _, s1, _⟩ := h1
  obtain ⟨f2, r2, _, _, _, s2, _⟩ := h2
  have hmk := fun w => mk_limbs K (by omega) w
  have H1 := Lib.hid r1
  have H2 := Lib.hid r2
  have HE : Hid (x * S (ext f1 k1) K = y * S (ext f2 k2) K + r) := by unfold Hid; rw [S_ext f1 hkK.1, S_ext f2 hkK.2.1, s1, s2]; exact hr
  clear r1 r2 s1 s2 hn1 hn2 hr hrb hK
  go_enter Tryz.func151, Tryz.ntmps151
  go_wp2_with fail
  have B0 := Lib.hid (Bf.made w K 80)
  have BL : Hid (Below w.heap.size w (w.alloc (.cells (madeCells #[.int .u64 0] K) 80))) := bel_one _ _
  generalize hW1 : w.alloc (.cells (madeCells #[.int .u64 0] K) 80) = W1 at *
  clear hW1 hmk hmax
  go_loopw [11, 12, 13, 26] (fun vm vl vb i wr => ∃ (j m l b : Nat) (g : Nat → Nat), j ≤ K ∧ i = .int .i64 j ∧ vm = .int .u64 m ∧ vl = .int .u64 l ∧ vb = .int .u64 b ∧ m < 18446744073709551616 ∧ l < 18446744073709551616 ∧ b ≤ 1 ∧ Hid (TlI w (ext f1 k1) (ext f2 k2) K x y j m l b g wr)) (fun _ _ _ i _ => K - (intOf i).toNat)
  case atStart => exact ⟨0, 0, 0, 0, fun _ => 0, Nat.zero_le _, rfl, rfl, rfl, rfl, by decide, by decide, by decide, B0.out, BL.out, by simp only [S_zero]; omega⟩
  case round =>
    clear B0 BL
    obtain ⟨j, m, l, b, g, hj, rfl, rfl, rfl, rfl, hm, hl, hb, hR⟩ := hrel
    by_cases hlt : j < K
    · have hlt' : (j : Int) < (K : Int) := by omega
      obtain ⟨u, hu⟩ : ∃ u, ext f1 k1 j = u := ⟨_, rfl⟩
      obtain ⟨v, hv⟩ : ∃ v, ext f2 k2 j = v := ⟨_, rfl⟩
      have hub : u < 18446744073709551616 := by rw [← hu]; exact ext_lb H1.out.2.1 j
      have hvb : v < 18446744073709551616 := by rw [← hv]; exact ext_lb H2.out.2.1 j
      obtain ⟨p, m', hst1, e1, hp, hm'⟩ := steps u x m hub hx hm
      obtain ⟨q, l', hst2, e2, hq, hl'⟩ := steps v y l hvb hy hl
      obtain ⟨s, b', hsub, e3, hs, hb'⟩ := subs p q b rfl rfl rfl hp hq hb
      have ST1 := Lib.hid hst1
      have ST2 := Lib.hid hst2
      have hBj := hR.out.1.2.2 j hlt
      have hc2 := hBj.1
      have hf2 := hBj.2
      have NX : Hid (TlI w (ext f1 k1) (ext f2 k2) K x y (j + 1) m' l' b' (put g j s) (wr.setCell ⟨w.heap.size, j, none⟩ (.int .u64 s))) := by
        refine ⟨hR.out.1.put hlt hs, hR.out.2.1.setCell (p := ⟨w.heap.size, j, none⟩) (Nat.le_refl _) _, ?_⟩
        rw [S_put, bp_succ, S_succ, S_succ, hu, hv]
        exact step_less hR.out.2.2 e1 e2 e3
      have BR := Lib.hid hR.out.2.1
      clear hst1 hst2 e1 e2 e3 hR hBj
      by_cases i1 : j < k1
      · obtain ⟨b1, o1, rfl, _, g1⟩ := (H1.out.below BR.out).at_ i1
        rw [← ext_in (f := f1) i1, hu] at g1
        have i1' : (j : Int) < (k1 : Int) := by omega
        by_cases i2 : j < k2
        · obtain ⟨b2, o2, rfl, _, g2⟩ := (H2.out.below BR.out).at_ i2
          rw [← ext_in (f := f2) i2, hv] at g2
          have i2' : (j : Int) < (k2 : Int) := by omega
          clear hu hv
          go_wp2_with fail
          refine (ST1.out _).mono ?_
          rintro e w1 ⟨rfl, rfl⟩
          go_wp2_with fail
          refine (ST2.out _).mono ?_
          rintro e w2 ⟨rfl, rfl⟩
          go_wp2_with (rw [hsub])
          go_roundw
          case rel => exact ⟨j + 1, m', l', b', put g j s, by omega, by go_num, rfl, rfl, rfl, hm', hl', hb', NX.out⟩
          case measure => simp [intOf]; omega
        · rw [ext_out (by omega)] at hv
          subst hv
          have i2' : ¬ (j : Int) < (k2 : Int) := by omega
          clear hu
          go_wp2_with fail
          refine (ST1.out _).mono ?_
          rintro e w1 ⟨rfl, rfl⟩
          go_wp2_with fail
          refine (ST2.out _).mono ?_
          rintro e w2 ⟨rfl, rfl⟩
          go_wp2_with (rw [hsub])
          go_roundw
          case rel => exact ⟨j + 1, m', l', b', put g j s, by omega, by go_num, rfl, rfl, rfl, hm', hl', hb', NX.out⟩
          case measure => simp [intOf]; omega
      · rw [ext_out (by omega)] at hu
        subst hu
        have i1' : ¬ (j : Int) < (k1 : Int) := by omega
        by_cases i2 : j < k2
        · obtain ⟨b2, o2, rfl, _, g2⟩ := (H2.out.below BR.out).at_ i2
          rw [← ext_in (f := f2) i2, hv] at g2
          have i2' : (j : Int) < (k2 : Int) := by omega
          clear hv
          go_wp2_with fail
          refine (ST1.out _).mono ?_
          rintro e w1 ⟨rfl, rfl⟩
          go_wp2_with fail
          refine (ST2.out _).mono ?_
          rintro e w2 ⟨rfl, rfl⟩
          go_wp2_with (rw [hsub])
          go_roundw
          case rel => exact ⟨j + 1, m', l', b', put g j s, by omega, by go_num, rfl, rfl, rfl, hm', hl', hb', NX.out⟩
          case measure => simp [intOf]; omega
        · exact absurd hlt (by omega)
    · obtain rfl : j = K := by omega
      have E : Hid (S g j = r) := less_end hR.out.2.2 HE.out (S_lt hR.out.1.2.1) HRB.out
      have RB := Lib.hid hR.out.2.1
      have RL := Lib.hid (hR.out.1.rl0 (Nat.le_refl _) (by omega))
      clear hlt hR
      go_wp2_with fail
      refine (trim_c (some ⟨w.heap.size, 0, none⟩) j j g wr RL.out (Nat.le_refl _) (by omega) (Pl.some_ _ _)).mono ?_
      rintro e w4 ⟨a', k', c', rfl, hN, b4⟩
      rw [E.out] at hN
      have R := Lib.hid (show NmPost r w (.returned (.slice a' k' c')) w4 from ⟨a', k', c', rfl, hN, RB.out.trans (b4.mono RB.out.size)⟩)
      clear hN b4
      go_wp2
      go_ret
      exact R.out
set_option maxRecDepth 100000 in
set_option maxHeartbeats 2000000 in
theorem combine_c (odd : Bool) (a0 b0 a1 b1 : Nat) (made : Bool) (p1 p2 : Option Addr) (k1 k2 c1 c2 n1 n2 x y r : Nat) (w : World) (h1 : Nm w p1 k1 c1 n1) (h2 : Nm w p2 k2 c2 n2) (hn1 : n1 < bp 2000) (hn2 : n2 < bp 2000)
    (hx : x < 18446744073709551616) (hy : y < 18446744073709551616) (hr : if odd then y * n2 = x * n1 + r else x * n1 = y * n2 + r) (hrb : r ≤ n1 ∨ r ≤ n2) :
    Calls Tryz.prog 136 #[stepV a0 b0 a1 b1 odd made, .slice p1 k1 c1, .int .u64 x, .slice p2 k2 c2, .int .u64 y] w (NmPost r w) := by
  obtain ⟨W1, hW1⟩ : ∃ W1, w.alloc (.cells #[.int .u64 (a0 : Int), .int .u64 (b0 : Int), .int .u64 (a1 : Int), .int .u64 (b1 : Int), .bool odd, .bool made] 137) = W1 := ⟨_, rfl⟩
  have B1 : Hid (Below w.heap.size w W1) := by rw [← hW1]; exact bel_one _ _
  have D4 : W1.cell? ⟨w.heap.size, 4, none⟩ = some (.bool odd) := by rw [← hW1, World.cell?_alloc_at _ _ _ _ rfl]; rfl
  cases odd
  · simp only [Bool.false_eq_true, if_false] at hr
    have HC := Lib.hid (timesLess_c p1 p2 k1 k2 c1 c2 n1 n2 x y r W1 (h1.below B1.out) (h2.below B1.out) hn1 hn2 hx hy hr hrb)
    clear h1 h2 hn1 hn2 hr hrb
    go_enter Tryz.func136, Tryz.ntmps136
    go_wp2_with fail
    (with_reducible refine HC.out.mono ?_)
    rintro e w4 ⟨pr, kr, cr, rfl, lr, b4⟩
    have R := Lib.hid (show NmPost r w (.returned (.slice pr kr cr)) w4 from ⟨_, _, _, rfl, lr, B1.out.trans (b4.mono B1.out.size)⟩)
    clear lr b4 hW1 D4
    go_wp2
    go_ret
    exact R.out
  · simp only [if_true] at hr
    have HC := Lib.hid (timesLess_c p2 p1 k2 k1 c2 c1 n2 n1 y x r W1 (h2.below B1.out) (h1.below B1.out) hn2 hn1 hy hx hr hrb.symm)
    clear h1 h2 hn1 hn2 hr hrb
    go_enter Tryz.func136, Tryz.ntmps136
    go_wp2_with fail
    (with_reducible refine HC.out.mono ?_)
    rintro e w4 ⟨pr, kr, cr, rfl, lr, b4⟩
    have R := Lib.hid (show NmPost r w (.returned (.slice pr kr cr)) w4 from ⟨_, _, _, rfl, lr, B1.out.trans (b4.mono B1.out.size)⟩)
    clear lr b4 hW1 D4
    go_wp2
    go_ret
    exact R.out
set_option maxRecDepth 100000 in
set_option maxHeartbeats 2000000 in
theorem first_c (odd : Bool) (a0 b0 a1 b1 : Nat) (made : Bool) (p1 p2 : Option Addr) (k1 k2 c1 c2 n1 n2 r : Nat) (w : World) (h1 : Nm w p1 k1 c1 n1) (h2 : Nm w p2 k2 c2 n2) (hn1 : n1 < bp 2000) (hn2 : n2 < bp 2000)
    (hx : a0 < 18446744073709551616) (hy : b0 < 18446744073709551616) (hr : if odd then b0 * n2 = a0 * n1 + r else a0 * n1 = b0 * n2 + r) (hrb : r ≤ n1 ∨ r ≤ n2) :
    Calls Tryz.prog 112 #[stepV a0 b0 a1 b1 odd made, .slice p1 k1 c1, .slice p2 k2 c2] w (NmPost r w) := by
  obtain ⟨W1, hW1⟩ : ∃ W1, w.alloc (.cells #[.int .u64 (a0 : Int), .int .u64 (b0 : Int), .int .u64 (a1 : Int), .int .u64 (b1 : Int), .bool odd, .bool made] 137) = W1 := ⟨_, rfl⟩
  have B1 : Hid (Below w.heap.size w W1) := by rw [← hW1]; exact bel_one _ _
  have D0 : W1.cell? ⟨w.heap.size, 0, none⟩ = some (.int .u64 (a0 : Int)) := by rw [← hW1, World.cell?_alloc_at _ _ _ _ rfl]; rfl
  have D1 : W1.cell? ⟨w.heap.size, 1, none⟩ = some (.int .u64 (b0 : Int)) := by rw [← hW1, World.cell?_alloc_at _ _ _ _ rfl]; rfl
  have D2 : W1.cell? ⟨w.heap.size, 2, none⟩ = some (.int .u64 (a1 : Int)) := by rw [← hW1, World.cell?_alloc_at _ _ _ _ rfl]; rfl
  have D3 : W1.cell? ⟨w.heap.size, 3, none⟩ = some (.int .u64 (b1 : Int)) := by rw [← hW1, World.cell?_alloc_at _ _ _ _ rfl]; rfl
  have D4 : W1.cell? ⟨w.heap.size, 4, none⟩ = some (.bool odd) := by rw [← hW1, World.cell?_alloc_at _ _ _ _ rfl]; rfl
  have D5 : W1.cell? ⟨w.heap.size, 5, none⟩ = some (.bool made) := by rw [← hW1, World.cell?_alloc_at _ _ _ _ rfl]; rfl
  have HC := Lib.hid (combine_c odd a0 b0 a1 b1 made p1 p2 k1 k2 c1 c2 n1 n2 a0 b0 r W1 (h1.below B1.out) (h2.below B1.out) hn1 hn2 hx hy hr hrb)
  clear h1 h2 hn1 hn2 hr
  go_enter Tryz.func112, Tryz.ntmps112
  go_wp2_with fail
  (with_reducible refine HC.out.mono ?_)
  rintro e w4 ⟨pr, kr, cr, rfl, lr, b4⟩
  have R := Lib.hid (show NmPost r w (.returned (.slice pr kr cr)) w4 from ⟨_, _, _, rfl, lr, B1.out.trans (b4.mono B1.out.size)⟩)
  clear lr b4 hW1 D0 D1 D2 D3 D4 D5
  go_wp2
  go_ret
  exact R.out
set_option maxRecDepth 100000 in
set_option maxHeartbeats 2000000 in
theorem second_c (odd : Bool) (a0 b0 a1 b1 : Nat) (made : Bool) (p1 p2 : Option Addr) (k1 k2 c1 c2 n1 n2 r : Nat) (w : World) (h1 : Nm w p1 k1 c1 n1) (h2 : Nm w p2 k2 c2 n2) (hn1 : n1 < bp 2000) (hn2 : n2 < bp 2000)
    (hx : a1 < 18446744073709551616) (hy : b1 < 18446744073709551616) (hr : if odd then a1 * n1 = b1 * n2 + r else b1 * n2 = a1 * n1 + r) (hrb : r ≤ n2 ∨ r ≤ n1) :
    Calls Tryz.prog 113 #[stepV a0 b0 a1 b1 odd made, .slice p1 k1 c1, .slice p2 k2 c2] w (NmPost r w) := by
  obtain ⟨W1, hW1⟩ : ∃ W1, w.alloc (.cells #[.int .u64 (a0 : Int), .int .u64 (b0 : Int), .int .u64 (a1 : Int), .int .u64 (b1 : Int), .bool odd, .bool made] 137) = W1 := ⟨_, rfl⟩
  have B1 : Hid (Below w.heap.size w W1) := by rw [← hW1]; exact bel_one _ _
  have D0 : W1.cell? ⟨w.heap.size, 0, none⟩ = some (.int .u64 (a0 : Int)) := by rw [← hW1, World.cell?_alloc_at _ _ _ _ rfl]; rfl
  have D1 : W1.cell? ⟨w.heap.size, 1, none⟩ = some (.int .u64 (b0 : Int)) := by rw [← hW1, World.cell?_alloc_at _ _ _ _ rfl]; rfl
  have D2 : W1.cell? ⟨w.heap.size, 2, none⟩ = some (.int .u64 (a1 : Int)) := by rw [← hW1, World.cell?_alloc_at _ _ _ _ rfl]; rfl
  have D3 : W1.cell? ⟨w.heap.size, 3, none⟩ = some (.int .u64 (b1 : Int)) := by rw [← hW1, World.cell?_alloc_at _ _ _ _ rfl]; rfl
  have D4 : W1.cell? ⟨w.heap.size, 4, none⟩ = some (.bool odd) := by rw [← hW1, World.cell?_alloc_at _ _ _ _ rfl]; rfl
  have D5 : W1.cell? ⟨w.heap.size, 5, none⟩ = some (.bool made) := by rw [← hW1, World.cell?_alloc_at _ _ _ _ rfl]; rfl
  have HC := Lib.hid (combine_c odd a0 b0 a1 b1 made p2 p1 k2 k1 c2 c1 n2 n1 b1 a1 r W1 (h2.below B1.out) (h1.below B1.out) hn2 hn1 hy hx hr hrb)
  clear h1 h2 hn1 hn2 hr
  go_enter Tryz.func113, Tryz.ntmps113
  go_wp2_with fail
  (with_reducible refine HC.out.mono ?_)
  rintro e w4 ⟨pr, kr, cr, rfl, lr, b4⟩
  have R := Lib.hid (show NmPost r w (.returned (.slice pr kr cr)) w4 from ⟨_, _, _, rfl, lr, B1.out.trans (b4.mono B1.out.size)⟩)
  clear lr b4 hW1 D0 D1 D2 D3 D4 D5
  go_wp2
  go_ret
  exact R.out
end Go.Proofs.YtfijhkaalpinhaaGreatDoor
namespace Go.Proofs.YtfijhkaalpinhaaGreatDoor
open Go.RowKit

/-- A box of six cells. -/
structure SBox (W : World) (g : Nat) (x0 x1 x2 x3 x4 x5 : Value) : Prop where
  c0 : W.cell? ⟨g, 0, none⟩ = some x0
  c1 : W.cell? ⟨g, 1, none⟩ = some x1
  c2 : W.cell? ⟨g, 2, none⟩ = some x2
  c3 : W.cell? ⟨g, 3, none⟩ = some x3
  c4 : W.cell? ⟨g, 4, none⟩ = some x4
  c5 : W.cell? ⟨g, 5, none⟩ = some x5
  fr : ∀ o, W.frozen? ⟨g, o, none⟩ = false
  lt : g < W.heap.size
theorem SBox.keep {W W' : World} {g : Nat} {x0 x1 x2 x3 x4 x5 : Value} (h : SBox W g x0 x1 x2 x3 x4 x5) (hb : Below W.heap.size W W') : SBox W' g x0 x1 x2 x3 x4 x5 := by
  have c := fun (o : Nat) => hb.cell (p := ⟨g, o, none⟩) h.lt
  exact ⟨(c 0).trans h.c0, (c 1).trans h.c1, (c 2).trans h.c2, (c 3).trans h.c3, (c 4).trans h.c4, (c 5).trans h.c5, fun o => (hb.frozen (p := ⟨g, o, none⟩) h.lt).trans (h.fr o), Nat.lt_of_lt_of_le h.lt hb.size⟩
theorem SBox.made (W : World) (x0 x1 x2 x3 x4 x5 : Value) (T : TypeId) : SBox (W.alloc (.cells #[x0, x1, x2, x3, x4, x5] T)) W.heap.size x0 x1 x2 x3 x4 x5 := by
  refine ⟨?_, ?_, ?_, ?_, ?_, ?_, fun o => by simp, by simp⟩
  all_goals (rw [World.cell?_alloc_new]; rfl)
/-- All six cells are stored. -/
def six (W : World) (g : Nat) (y0 y1 y2 y3 y4 y5 : Value) : World :=
  (((((W.setCell ⟨g, 0, none⟩ y0).setCell ⟨g, 1, none⟩ y1).setCell ⟨g, 2, none⟩ y2).setCell ⟨g, 3, none⟩ y3).setCell ⟨g, 4, none⟩ y4).setCell ⟨g, 5, none⟩ y5
theorem six_size (W : World) (g : Nat) (y0 y1 y2 y3 y4 y5 : Value) : (six W g y0 y1 y2 y3 y4 y5).heap.size = W.heap.size := by unfold six; simp
theorem SBox.set {W : World} {g : Nat} {x0 x1 x2 x3 x4 x5 : Value} (h : SBox W g x0 x1 x2 x3 x4 x5) (y0 y1 y2 y3 y4 y5 : Value) : SBox (six W g y0 y1 y2 y3 y4 y5) g y0 y1 y2 y3 y4 y5 := by
  have hne : ∀ {i j : Nat}, i ≠ j → (⟨g, i, none⟩ : Addr) ≠ ⟨g, j, none⟩ := fun h e => by injection e with _ e2; exact h e2
  unfold six
  refine ⟨?_, ?_, ?_, ?_, ?_, ?_, fun o => by simp only [World.frozen?_setCell]; exact h.fr o, by simpa using h.lt⟩
  · rw [World.cell?_setCell_other _ _ _ _ (hne (by decide)), World.cell?_setCell_other _ _ _ _ (hne (by decide)), World.cell?_setCell_other _ _ _ _ (hne (by decide)), World.cell?_setCell_other _ _ _ _ (hne (by decide)), World.cell?_setCell_other _ _ _ _ (hne (by decide)), World.cell?_setCell_same _ _ _ h.c0]
  · rw [World.cell?_setCell_other _ _ _ _ (hne (by decide)), World.cell?_setCell_other _ _ _ _ (hne (by decide)), World.cell?_setCell_other _ _ _ _ (hne (by decide)), World.cell?_setCell_other _ _ _ _ (hne (by decide)), World.cell?_setCell_same _ _ _ (u := x1) (by rw [World.cell?_setCell_other _ _ _ _ (hne (by decide))]; exact h.c1)]
  · rw [World.cell?_setCell_other _ _ _ _ (hne (by decide)), World.cell?_setCell_other _ _ _ _ (hne (by decide)), World.cell?_setCell_other _ _ _ _ (hne (by decide)), World.cell?_setCell_same _ _ _ (u := x2) (by rw [World.cell?_setCell_other _ _ _ _ (hne (by decide)), World.cell?_setCell_other _ _ _ _ (hne (by decide))]; exact h.c2)]
  · rw [World.cell?_setCell_other _ _ _ _ (hne (by decide)), World.cell?_setCell_other _ _ _ _ (hne (by decide)), World.cell?_setCell_same _ _ _ (u := x3) (by rw [World.cell?_setCell_other _ _ _ _ (hne (by decide)), World.cell?_setCell_other _ _ _ _ (hne (by decide)), World.cell?_setCell_other _ _ _ _ (hne (by decide))]; exact h.c3)]
  · rw [World.cell?_setCell_other _ _ _ _ (hne (by decide)), World.cell?_setCell_same _ _ _ (u := x4) (by rw [World.cell?_setCell_other _ _ _ _ (hne (by decide)), World.cell?_setCell_other _ _ _ _ (hne (by decide)), World.cell?_setCell_other _ _ _ _ (hne (by decide)), World.cell?_setCell_other _ _ _ _ (hne (by decide))]; exact h.c4)]
  · rw [World.cell?_setCell_same _ _ _ (u := x5) (by rw [World.cell?_setCell_other _ _ _ _ (hne (by decide)), World.cell?_setCell_other _ _ _ _ (hne (by decide)), World.cell?_setCell_other _ _ _ _ (hne (by decide)), World.cell?_setCell_other _ _ _ _ (hne (by decide)), World.cell?_setCell_other _ _ _ _ (hne (by decide))]; exact h.c5)]
theorem SBox.other {W : World} {g h : Nat} {x0 x1 x2 x3 x4 x5 : Value} (hb : SBox W g x0 x1 x2 x3 x4 x5) (hne : h ≠ g) (y0 y1 y2 y3 y4 y5 : Value) : SBox (six W h y0 y1 y2 y3 y4 y5) g x0 x1 x2 x3 x4 x5 := by
  have hne' : ∀ {i j : Nat}, (⟨h, i, none⟩ : Addr) ≠ ⟨g, j, none⟩ := fun e => by injection e with e1 _; exact hne e1
  have e : ∀ o, (six W h y0 y1 y2 y3 y4 y5).cell? ⟨g, o, none⟩ = W.cell? ⟨g, o, none⟩ := fun o => by
    unfold six
    rw [World.cell?_setCell_other _ _ _ _ hne', World.cell?_setCell_other _ _ _ _ hne', World.cell?_setCell_other _ _ _ _ hne', World.cell?_setCell_other _ _ _ _ hne', World.cell?_setCell_other _ _ _ _ hne', World.cell?_setCell_other _ _ _ _ hne']
  exact ⟨(e 0).trans hb.c0, (e 1).trans hb.c1, (e 2).trans hb.c2, (e 3).trans hb.c3, (e 4).trans hb.c4, (e 5).trans hb.c5, fun o => by unfold six; simp only [World.frozen?_setCell]; exact hb.fr o, by rw [six_size]; exact hb.lt⟩
theorem below_six {W0 W : World} {g : Nat} (h : Below W0.heap.size W0 W) (hg : W0.heap.size ≤ g) (y0 y1 y2 y3 y4 y5 : Value) : Below W0.heap.size W0 (six W g y0 y1 y2 y3 y4 y5) :=
  (((((h.setCell (p := ⟨g, 0, none⟩) hg y0).setCell (p := ⟨g, 1, none⟩) hg y1).setCell (p := ⟨g, 2, none⟩) hg y2).setCell (p := ⟨g, 3, none⟩) hg y3).setCell (p := ⟨g, 4, none⟩) hg y4).setCell (p := ⟨g, 5, none⟩) hg y5
/-- What the steps do to two numbers. -/
def StepOk (n1 n2 : Nat) (odd : Bool) (a0 b0 a1 b1 : Nat) : Prop := ∃ a' b', Cmb odd a0 b0 a1 b1 n1 n2 a' b' ∧ b' < a' ∧ a' ≤ n2 ∧ Nat.gcd a' b' = Nat.gcd n1 n2
def StepPost (n1 n2 : Nat) (w : World) (e : Ending) (w' : World) : Prop :=
  ∃ a0 b0 a1 b1 odd made, e = .returned (stepV a0 b0 a1 b1 odd made) ∧ a0 < 18446744073709551616 ∧ b0 < 18446744073709551616 ∧ a1 < 18446744073709551616 ∧ b1 < 18446744073709551616 ∧ (made = true → StepOk n1 n2 odd a0 b0 a1 b1) ∧ Below w.heap.size w w'
/-- The highest bits of two numbers. -/
theorem heads {f1 f2 : Nat → Nat} {z k2 n1 n2 s : Nat} (hf1 : Lb f1 (z + 2)) (hs1 : S f1 (z + 2) = n1) (hk2 : k2 ≤ z + 2) (hf2 : Lb f2 k2) (hs2 : S f2 k2 = n2) (hle : n2 ≤ n1) (hs : s < 64) (ht : f1 (z + 1) * 2 ^ s < 18446744073709551616) :
    ∃ HA HB P la lb, HA < 18446744073709551616 ∧ HB ≤ HA ∧ la < P ∧ lb < P ∧ n1 = HA * P + la ∧ n2 = HB * P + lb ∧ ext f2 k2 (z + 1) * 2 ^ s < 18446744073709551616 ∧
      HA = (ext f1 (z + 2) (z + 1) * 2 ^ s ||| ext f1 (z + 2) z / 2 ^ (64 - s)) ∧ HB = (ext f2 k2 (z + 1) * 2 ^ s ||| ext f2 k2 z / 2 ^ (64 - s)) := by
  have hp : 0 < bp z * 2 ^ (64 - s) := Nat.mul_pos (bp_pos z) (Nat.pow_pos (by decide))
  have hl2 : Lb (ext f2 k2) (z + 2) := fun j _ => by
    by_cases e : j < k2
    · rw [ext_in e]; exact hf2 j e
    · rw [ext_out (by omega)]; decide
  have e2 : n2 = (ext f2 k2 (z + 1) * 18446744073709551616 + ext f2 k2 z) * bp z + S (ext f2 k2) z := by
    rw [← hs2, ← S_ext f2 hk2, S_succ, S_succ, bp_succ]; grind
  have e1 : n1 = (f1 (z + 1) * 18446744073709551616 + f1 z) * bp z + S f1 z := by
    rw [← hs1, S_succ, S_succ, bp_succ]; grind
  have r1 : S f1 z < bp z := S_lt (fun j hj => hf1 j (by omega))
  have r2 : S (ext f2 k2) z < bp z := S_lt (fun j hj => hl2 j (by omega))
  have hh : ext f2 k2 (z + 1) ≤ f1 (z + 1) := by
    rcases Nat.lt_or_ge (f1 (z + 1)) (ext f2 k2 (z + 1)) with l | l
    · exfalso
      have a := hf1 z (by omega)
      have b : (f1 (z + 1) + 1) * (18446744073709551616 * bp z) ≤ ext f2 k2 (z + 1) * (18446744073709551616 * bp z) := Nat.mul_le_mul_right _ l
      have c : (f1 z + 1) * bp z ≤ 18446744073709551616 * bp z := Nat.mul_le_mul_right _ a
      have d1 : n1 = f1 (z + 1) * (18446744073709551616 * bp z) + f1 z * bp z + S f1 z := by rw [e1]; grind
      have d2 : n2 = ext f2 k2 (z + 1) * (18446744073709551616 * bp z) + ext f2 k2 z * bp z + S (ext f2 k2) z := by rw [e2]; grind
      rw [Nat.add_mul, Nat.one_mul] at b c
      omega
    · exact l
  have ht2 : ext f2 k2 (z + 1) * 2 ^ s < 18446744073709551616 := Nat.lt_of_le_of_lt (Nat.mul_le_mul_right _ hh) ht
  have w1 := win_bits e1 r1 hs (hf1 z (by omega)) ht
  have w2 := win_bits e2 r2 hs (hl2 z (by omega)) ht2
  refine ⟨n1 / (bp z * 2 ^ (64 - s)), n2 / (bp z * 2 ^ (64 - s)), bp z * 2 ^ (64 - s), n1 % (bp z * 2 ^ (64 - s)), n2 % (bp z * 2 ^ (64 - s)), w1.2, Nat.div_le_div_right hle, Nat.mod_lt _ hp, Nat.mod_lt _ hp, (Nat.div_add_mod' _ _).symm, (Nat.div_add_mod' _ _).symm, ht2, ?_, w2.1.symm⟩
  rw [ext_in (by omega), ext_in (by omega)]
  exact w1.1.symm
end Go.Proofs.YtfijhkaalpinhaaGreatDoor
namespace Go.Proofs.YtfijhkaalpinhaaGreatDoor
open Go.RowKit

/-- Where stepsOf is: the coefficients in their box, and what they do to the highest bits. -/
structure Sts (w : World) (HA HB hA hB a0 b0 a1 b1 : Nat) (odd made : Bool) (W : World) : Prop where
  stp : Stp odd a0 b0 a1 b1 HA HB hA hB
  col : made = true → Coll a0 b0 a1 b1 hA hB
  res : SBox W w.heap.size (.int .u64 0) (.int .u64 0) (.int .u64 0) (.int .u64 0) (.bool false) (.bool false)
  box : SBox W (w.heap.size + 1) (.int .u64 (a0 : Int)) (.int .u64 (b0 : Int)) (.int .u64 (a1 : Int)) (.int .u64 (b1 : Int)) (.bool odd) (.bool made)
  bel : Below w.heap.size w W
  bds : a0 < 18446744073709551616 ∧ b0 < 18446744073709551616 ∧ a1 < 18446744073709551616 ∧ b1 < 18446744073709551616
theorem Sts.keep {w : World} {HA HB hA hB a0 b0 a1 b1 : Nat} {odd made : Bool} {W W' : World} (h : Sts w HA HB hA hB a0 b0 a1 b1 odd made W) (hb : Below W.heap.size W W') : Sts w HA HB hA hB a0 b0 a1 b1 odd made W' :=
  ⟨h.stp, h.col, h.res.keep hb, h.box.keep hb, h.bel.trans (hb.mono h.bel.size), h.bds⟩
set_option maxRecDepth 100000 in
set_option maxHeartbeats 4000000 in
theorem stepsOf_c (p1 p2 : Option Addr) (z k2 c1 c2 n1 n2 : Nat) (w : World) (h1 : Nm w p1 (z + 2) c1 n1) (h2 : Nm w p2 k2 c2 n2) (hle : n2 ≤ n1) (hk2 : k2 ≤ z + 2) (hz : z < 50000) :
    Calls Tryz.prog 111 #[.slice p1 (z + 2) c1, .slice p2 k2 c2] w (StepPost n1 n2 w) := by
  obtain ⟨f1, r1, hkc1, hcc1, t1, s1, _⟩ := h1
  obtain ⟨f2, r2, hkc2, hcc2, t2, s2, _⟩ := h2
  obtain ⟨b, o, rfl, hbl, htop⟩ := r1.at_ (show z + 1 < z + 2 by omega)
  have htpos : 0 < f1 (z + 1) := by
    rcases t1 with e | e
    · omega
    · rw [show z + 2 - 1 = z + 1 by omega] at e; omega
  have htlt := r1.2.1 (z + 1) (by omega)
  obtain ⟨s, hs, hl1, hl2, HZ⟩ := lead_ex (f1 (z + 1)) htpos htlt
  have HLZ := Lib.hid HZ
  obtain ⟨HA, HB, P, la, lb, hHA, hHB, hla, hlb, hn1, hn2, ht2, hwA, hwB⟩ := heads r1.2.1 s1 hk2 r2.2.1 s2 hle hs hl2
  have ht1 : ext f1 (z + 2) (z + 1) * 2 ^ s < 18446744073709551616 := by rw [ext_in (by omega)]; exact hl2
  have HWA := Lib.hid (fun W (hb : Below w.heap.size w W) => window_c (some ⟨b, o, none⟩) (z + 2) c1 z s f1 W (r1.below hb) (Nat.le_refl _) hz hs ht1)
  have HWB := Lib.hid (fun W (hb : Below w.heap.size w W) => window_c p2 k2 c2 z s f2 W (r2.below hb) hk2 hz hs ht2)
  have EA := Lib.hid hwA
  have EB := Lib.hid hwB
  have OK : Hid (∀ odd a0 b0 a1 b1 hA hB, Stp odd a0 b0 a1 b1 HA HB hA hB → Coll a0 b0 a1 b1 hA hB → StepOk n1 n2 odd a0 b0 a1 b1) := by
    intro odd a0 b0 a1 b1 hA hB hst hco
    have t := hst.all hco hla hlb
    rw [← hn1, ← hn2] at t
    exact t
  have HLE := Lib.hid hHB
  have hwz : IntKind.i64.wrap ((z : Int) + 1) = (z : Int) + 1 := by rw [IntKind.wrap_i64]; omega
  clear r1 r2 t1 t2 s1 s2 HZ hn1 hn2 hla hlb ht1 ht2 hwA hwB hl1 hl2 hle htpos htlt hHB
  generalize f1 (z + 1) = top at *
  obtain ⟨W1, hW1⟩ : ∃ W1, w.alloc (.cells #[.int .u64 0, .int .u64 0, .int .u64 0, .int .u64 0, .bool false, .bool false] 137) = W1 := ⟨_, rfl⟩
  have R1 : Hid (SBox W1 w.heap.size (.int .u64 0) (.int .u64 0) (.int .u64 0) (.int .u64 0) (.bool false) (.bool false)) := by rw [← hW1]; exact SBox.made _ _ _ _ _ _ _ _
  have B1 : Hid (Below w.heap.size w W1) := by rw [← hW1]; exact bel_one _ _
  have S1 : Hid (W1.heap.size = w.heap.size + 1) := by rw [← hW1]; simp [Hid]
  have hbl1 : b < W1.heap.size := Nat.lt_of_lt_of_le hbl B1.out.size
  have htop1 : W1.cell? ⟨b, o + (z + 1), none⟩ = some (.int .u64 (top : Int)) := by rw [B1.out.cell (p := ⟨b, o + (z + 1), none⟩) hbl]; exact htop
  clear htop hbl
  go_enter Tryz.func111, Tryz.ntmps111
  go_wp2_with (go_at_call 130; refine (HLZ.out _).mono ?_; rintro e w' ⟨rfl, rfl⟩)
  clear htop1 hbl1
  (with_reducible refine (HWA.out _ B1.out).mono ?_)
  rintro e wA ⟨vA, rfl, hvA, qA, rfl⟩
  obtain rfl : vA = HA := by rw [hvA, ← EA.out]
  clear hvA HWA EA
  go_wp2_with fail
  (with_reducible refine (HWB.out _ (B1.out.trans ((bel_drewN W1 qA).mono B1.out.size))).mono ?_)
  rintro e wB ⟨vB, rfl, hvB, qB, rfl⟩
  obtain rfl : vB = HB := by rw [hvB, ← EB.out]
  clear hvB HWB EB
  obtain ⟨W2, hW2⟩ : ∃ W2, (W1.drewN qA).drewN qB = W2 := ⟨_, rfl⟩
  rw [hW2]
  have D2 : Hid (Below W1.heap.size W1 W2) := by rw [← hW2, drewN_drewN]; exact bel_drewN W1 (qA + qB)
  have S2 : Hid (W2.heap.size = w.heap.size + 1) := by unfold Hid; rw [← hW2]; exact S1.out
  have R2 := Lib.hid (R1.out.keep D2.out)
  have B2 := Lib.hid (B1.out.trans (D2.out.mono B1.out.size))
  clear R1 B1 S1 D2 hW2 hW1
  obtain ⟨W20, hW20⟩ : ∃ W20, W2.alloc (.cells #[.int .u64 0, .int .u64 0, .int .u64 0, .int .u64 0, .bool false, .bool false] 137) = W20 := ⟨_, rfl⟩
  have X20 : SBox W20 W2.heap.size (.int .u64 0) (.int .u64 0) (.int .u64 0) (.int .u64 0) (.bool false) (.bool false) := by rw [← hW20]; exact SBox.made _ _ _ _ _ _ _ _
  have B20 : Below W2.heap.size W2 W20 := by rw [← hW20]; exact bel_one _ _
  obtain ⟨x0, x1, x2, x3, x4, x5, xf, xl⟩ := id X20
  obtain ⟨W3, hW3⟩ : ∃ W3, six W20 W2.heap.size (.int .u64 1) (.int .u64 0) (.int .u64 0) (.int .u64 1) (.bool false) (.bool false) = W3 := ⟨_, rfl⟩
  have I0 : Hid (Sts w vA vB vA vB 1 0 0 1 false false W3) := by
    have hb : Below W2.heap.size W2 W3 := by rw [← hW3]; exact below_six B20 (Nat.le_refl _) _ _ _ _ _ _
    refine ⟨Stp.start HLE.out, (fun h => nomatch h), R2.out.keep hb, ?_, B2.out.trans (hb.mono B2.out.size), by decide⟩
    rw [← S2.out, ← hW3]
    exact X20.set _ _ _ _ _ _
  have f0 := xf 0
  have f1 := xf 1
  have f2 := xf 2
  have f3 := xf 3
  have f4 := xf 4
  have f5 := xf 5
  clear X20 B20 xf R2 B2
  unfold six at hW3
  go_wp2_with fail
  clear hW3 hW20 x0 x1 x2 x3 x4 x5 f0 f1 f2 f3 f4 f5
  have HS2 := S2.out
  rw [HS2]
  clear HS2 S2
  go_loopw [6, 7] (fun uA uB wr => ∃ (hA hB a0 b0 a1 b1 : Nat) (odd made : Bool), uA = .int .u64 hA ∧ uB = .int .u64 hB ∧ hA < 18446744073709551616 ∧ Hid (Sts w vA vB hA hB a0 b0 a1 b1 odd made wr)) (fun _ uB _ => (intOf uB).toNat)
  case atStart => exact ⟨vA, vB, 1, 0, 0, 1, false, false, rfl, rfl, hHA, I0.out⟩
  case round =>
    clear I0
    obtain ⟨hA, hB, a0, b0, a1, b1, odd, made, rfl, rfl, hAb, hI⟩ := hrel
    rcases Nat.eq_zero_or_pos hB with hp | hp
    · have OKK : Hid (made = true → StepOk n1 n2 odd a0 b0 a1 b1) := fun h => OK.out _ _ _ _ _ _ _ hI.out.stp (hI.out.col h)
      subst hp
      have hE := Lib.hid hI.out
      clear hI
      obtain ⟨s0, s1, s2, s3, s4, s5, sf, sl⟩ := id hE.out.box
      obtain ⟨r0, r1, r2, r3, r4, r5, rf, rl⟩ := id hE.out.res
      obtain ⟨W9, hW9⟩ : ∃ W9, six wr w.heap.size (.int .u64 (a0 : Int)) (.int .u64 (b0 : Int)) (.int .u64 (a1 : Int)) (.int .u64 (b1 : Int)) (.bool odd) (.bool made) = W9 := ⟨_, rfl⟩
      have R9 : SBox W9 w.heap.size (.int .u64 (a0 : Int)) (.int .u64 (b0 : Int)) (.int .u64 (a1 : Int)) (.int .u64 (b1 : Int)) (.bool odd) (.bool made) := by rw [← hW9]; exact hE.out.res.set _ _ _ _ _ _
      have PP : Hid (StepPost n1 n2 w (.returned (stepV a0 b0 a1 b1 odd made)) W9) := by
        have x := hE.out.bds
        refine ⟨a0, b0, a1, b1, odd, made, rfl, x.1, x.2.1, x.2.2.1, x.2.2.2, OKK.out, ?_⟩
        rw [← hW9]
        exact below_six hE.out.bel (Nat.le_refl _) _ _ _ _ _ _
      have rf0 := rf 0
      have rf1 := rf 1
      have rf2 := rf 2
      have rf3 := rf 3
      have rf4 := rf 4
      have rf5 := rf 5
      obtain ⟨t0, t1, t2, t3, t4, t5, tf, tl⟩ := R9
      clear rf rl sf sl tf tl hE
      unfold six at hW9
      go_wp2_with fail
      exact bodyPost_ret (v := stepV a0 b0 a1 b1 odd made) (by simp [results, Tryz.results111, go_sem, t0, t1, t2, t3, t4, t5]) rfl PP.out
    · have hle := hI.out.stp.le
      have hN := hI.out.stp.next hp
      obtain ⟨q, hq⟩ : ∃ q, hA / hB = q := ⟨_, rfl⟩
      obtain ⟨r, hr⟩ : ∃ r, hA % hB = r := ⟨_, rfl⟩
      have hrl : r < hB := by rw [← hr]; exact Nat.mod_lt _ hp
      rw [hq, hr] at hN
      obtain ⟨x1, hx1⟩ : ∃ x, q * a1 = x := ⟨_, rfl⟩
      obtain ⟨x2, hx2⟩ : ∃ x, q * b1 = x := ⟨_, rfl⟩
      obtain ⟨an, han⟩ : ∃ x, a0 + x1 = x := ⟨_, rfl⟩
      obtain ⟨bn, hbn⟩ : ∃ x, b0 + x2 = x := ⟨_, rfl⟩
      rw [hx1, hx2, han, hbn] at hN
      obtain ⟨hN1, hN2, hN3, hN4⟩ := hN
      have bd := hN1.bound hp
      have hvBA := HLE.out
      have e1 : (hA : Int) / (hB : Int) = (q : Int) := div_cast hq
      have e2 : (q : Int) * (a1 : Int) = (x1 : Int) := mul_cast hx1
      have e3 : (q : Int) * (b1 : Int) = (x2 : Int) := mul_cast hx2
      have e4 : (a0 : Int) + (x1 : Int) = (an : Int) := by omega
      have e5 : (b0 : Int) + (x2 : Int) = (bn : Int) := by omega
      have w1 : IntKind.u64.wrap (x1 : Int) = (x1 : Int) := wrap_lt (by omega)
      have w2 : IntKind.u64.wrap (x2 : Int) = (x2 : Int) := wrap_lt (by omega)
      have w3 : IntKind.u64.wrap (an : Int) = (an : Int) := wrap_lt (by omega)
      have w4 : IntKind.u64.wrap (bn : Int) = (bn : Int) := wrap_lt (by omega)
      have wq : IntKind.u64.wrap (q : Int) = (q : Int) := wrap_lt (by have := Nat.div_le_self hA hB; omega)
      have hri : (hA : Int) % (hB : Int) = (r : Int) := by rw [← hr, Int.natCast_emod]
      have HRI := Lib.hid hri
      have bn64 : bn < 18446744073709551616 := by omega
      have an64 : an < 18446744073709551616 := by omega
      have hB64 : hB < 18446744073709551616 := by omega
      have BD3 := Lib.hid bd.2.2
      have N1 := Lib.hid hN1
      have N2 := Lib.hid hN2
      have N3 := Lib.hid hN3
      have N4 := Lib.hid hN4
      clear hq hr hx1 hx2 han hbn hri bd hN1 hN2 hN3 hN4 hvBA
      go_wp2_with fail
      go_quiet (fail)
      rw [HRI.out]
      have hE := Lib.hid (hI.out.keep (bel_drewN wr nq))
      generalize wr.drewN nq = Wd at *
      obtain ⟨y0, y1, y2, y3, y4, y5, yf, yl⟩ := hE.out.box
      obtain ⟨Wz, hWz⟩ : ∃ Wz, Wd.alloc (.cells #[.int .u64 0, .int .u64 0, .int .u64 0, .int .u64 0, .bool false, .bool false] 137) = Wz := ⟨_, rfl⟩
      have Xz : SBox Wz Wd.heap.size (.int .u64 0) (.int .u64 0) (.int .u64 0) (.int .u64 0) (.bool false) (.bool false) := by rw [← hWz]; exact SBox.made _ _ _ _ _ _ _ _
      have Bz : Below Wd.heap.size Wd Wz := by rw [← hWz]; exact bel_one _ _
      obtain ⟨z0, z1, z2, z3, z4, z5, zf, zl⟩ := id Xz
      obtain ⟨Wn, hWn⟩ : ∃ Wn, six Wz Wd.heap.size (.int .u64 (a1 : Int)) (.int .u64 (b1 : Int)) (.int .u64 (an : Int)) (.int .u64 (bn : Int)) (.bool (!odd)) (.bool true) = Wn := ⟨_, rfl⟩
      have hbn' : Below Wd.heap.size Wd Wn := by rw [← hWn]; exact below_six Bz (Nat.le_refl _) _ _ _ _ _ _
      have Xn : SBox Wn Wd.heap.size (.int .u64 (a1 : Int)) (.int .u64 (b1 : Int)) (.int .u64 (an : Int)) (.int .u64 (bn : Int)) (.bool (!odd)) (.bool true) := by rw [← hWn]; exact Xz.set _ _ _ _ _ _
      have zf0 := zf 0
      have zf1 := zf 1
      have zf2 := zf 2
      have zf3 := zf 3
      have zf4 := zf 4
      have zf5 := zf 5
      have HXN := Lib.hid Xn
      have hEn := Lib.hid (hE.out.keep hbn')
      have HNL : Hid (w.heap.size + 1 ≠ Wd.heap.size) := by unfold Hid; omega
      obtain ⟨m0, m1, m2, m3, m4, m5, mf, ml⟩ := Xn
      clear Xz Bz zf hbn' hE mf ml zl yf yl hI
      unfold six at hWn
      by_cases hc1 : r < bn
      · have hc1' : (r : Int) < (bn : Int) := by omega
        have OKK : Hid (made = true → StepOk n1 n2 odd a0 b0 a1 b1) := fun h => OK.out _ _ _ _ _ _ _ hEn.out.stp (hEn.out.col h)
        have hE := Lib.hid hEn.out
        clear hEn
        obtain ⟨s0, s1, s2, s3, s4, s5, sf, sl⟩ := id hE.out.box
        obtain ⟨r0, r1, r2, r3, r4, r5, rf, rl⟩ := id hE.out.res
        obtain ⟨W9, hW9⟩ : ∃ W9, six Wn w.heap.size (.int .u64 (a0 : Int)) (.int .u64 (b0 : Int)) (.int .u64 (a1 : Int)) (.int .u64 (b1 : Int)) (.bool odd) (.bool made) = W9 := ⟨_, rfl⟩
        have R9 : SBox W9 w.heap.size (.int .u64 (a0 : Int)) (.int .u64 (b0 : Int)) (.int .u64 (a1 : Int)) (.int .u64 (b1 : Int)) (.bool odd) (.bool made) := by rw [← hW9]; exact hE.out.res.set _ _ _ _ _ _
        have PP : Hid (StepPost n1 n2 w (.returned (stepV a0 b0 a1 b1 odd made)) W9) := by
          have x := hE.out.bds
          refine ⟨a0, b0, a1, b1, odd, made, rfl, x.1, x.2.1, x.2.2.1, x.2.2.2, OKK.out, ?_⟩
          rw [← hW9]
          exact below_six hE.out.bel (Nat.le_refl _) _ _ _ _ _ _
        have rf0 := rf 0
        have rf1 := rf 1
        have rf2 := rf 2
        have rf3 := rf 3
        have rf4 := rf 4
        have rf5 := rf 5
        obtain ⟨t0, t1, t2, t3, t4, t5, tf, tl⟩ := R9
        clear rf rl sf sl tf tl hE
        unfold six at hW9
        go_wp2_with fail
        exact bodyPost_ret (v := stepV a0 b0 a1 b1 odd made) (by simp [results, Tryz.results111, go_sem, t0, t1, t2, t3, t4, t5]) rfl PP.out
      · have hc1' : ¬ (r : Int) < (bn : Int) := by omega
        have hr0 : 0 < r := by
          have h := N1.out.i3
          omega
        have hsum := (BD3.out hr0).1
        have hsb : IntKind.u64.wrap ((b1 : Int) + (bn : Int)) = (b1 : Int) + (bn : Int) := by
          have t := @wrap_lt (b1 + bn) (by omega)
          rw [Int.natCast_add] at t
          exact t
        have hdb : IntKind.u64.wrap ((hB : Int) - (r : Int)) = (hB : Int) - (r : Int) := by rw [IntKind.wrap_u64]; omega
        clear hsum
        by_cases hc2 : hB - r < b1 + bn
        · have hc2' : (hB : Int) - (r : Int) < (b1 : Int) + (bn : Int) := by omega
          have OKK : Hid (made = true → StepOk n1 n2 odd a0 b0 a1 b1) := fun h => OK.out _ _ _ _ _ _ _ hEn.out.stp (hEn.out.col h)
          have hE := Lib.hid hEn.out
          clear hEn
          obtain ⟨s0, s1, s2, s3, s4, s5, sf, sl⟩ := id hE.out.box
          obtain ⟨r0, r1, r2, r3, r4, r5, rf, rl⟩ := id hE.out.res
          obtain ⟨W9, hW9⟩ : ∃ W9, six Wn w.heap.size (.int .u64 (a0 : Int)) (.int .u64 (b0 : Int)) (.int .u64 (a1 : Int)) (.int .u64 (b1 : Int)) (.bool odd) (.bool made) = W9 := ⟨_, rfl⟩
          have R9 : SBox W9 w.heap.size (.int .u64 (a0 : Int)) (.int .u64 (b0 : Int)) (.int .u64 (a1 : Int)) (.int .u64 (b1 : Int)) (.bool odd) (.bool made) := by rw [← hW9]; exact hE.out.res.set _ _ _ _ _ _
          have PP : Hid (StepPost n1 n2 w (.returned (stepV a0 b0 a1 b1 odd made)) W9) := by
            have x := hE.out.bds
            refine ⟨a0, b0, a1, b1, odd, made, rfl, x.1, x.2.1, x.2.2.1, x.2.2.2, OKK.out, ?_⟩
            rw [← hW9]
            exact below_six hE.out.bel (Nat.le_refl _) _ _ _ _ _ _
          have rf0 := rf 0
          have rf1 := rf 1
          have rf2 := rf 2
          have rf3 := rf 3
          have rf4 := rf 4
          have rf5 := rf 5
          obtain ⟨t0, t1, t2, t3, t4, t5, tf, tl⟩ := R9
          clear rf rl sf sl tf tl hE
          unfold six at hW9
          go_wp2_with fail
          exact bodyPost_ret (v := stepV a0 b0 a1 b1 odd made) (by simp [results, Tryz.results111, go_sem, t0, t1, t2, t3, t4, t5]) rfl PP.out
        · have hc2' : ¬ (hB : Int) - (r : Int) < (b1 : Int) + (bn : Int) := by omega
          obtain ⟨v0, v1, v2, v3, v4, v5, vf, vl⟩ := id hEn.out.box
          obtain ⟨Ws, hWs⟩ : ∃ Ws, six Wn (w.heap.size + 1) (.int .u64 (a1 : Int)) (.int .u64 (b1 : Int)) (.int .u64 (an : Int)) (.int .u64 (bn : Int)) (.bool (!odd)) (.bool true) = Ws := ⟨_, rfl⟩
          have NX : Hid (Sts w vA vB hB r a1 b1 an bn (!odd) true Ws) := by
            have x := hEn.out
            have xb := x.bds
            rw [← hWs]
            exact ⟨N1.out, fun _ => ⟨N2.out, N3.out, N4.out, by omega, by omega⟩, x.res.other (by omega) _ _ _ _ _ _, x.box.set _ _ _ _ _ _, below_six x.bel (by omega) _ _ _ _ _ _, xb.2.2.1, xb.2.2.2, an64, bn64⟩
          have vf0 := vf 0
          have vf1 := vf 1
          have vf2 := vf 2
          have vf3 := vf 3
          have vf4 := vf 4
          have vf5 := vf 5
          clear vf vl hEn
          unfold six at hWs
          go_wp2_with fail
          go_roundw
          case rel => exact ⟨hB, r, a1, b1, an, bn, !odd, true, rfl, rfl, hB64, NX.out⟩
          case measure => simp [intOf]; omega
end Go.Proofs.YtfijhkaalpinhaaGreatDoor
