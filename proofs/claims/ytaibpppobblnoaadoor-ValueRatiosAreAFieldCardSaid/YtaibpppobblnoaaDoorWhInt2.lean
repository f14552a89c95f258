/-
  Whole numbers of any size: opposites, signs, the order, common divisors.
-/
import Derived.Test.YtaibpppobblnoaaDoorWhInt
namespace Go.Proofs.YtaibpppobblnoaaDoor
open Go.RowKit

/-- The box of an argument, and the box of a result. -/
structure I2 (w : World) (b1 : Bool) (a1 : Option Addr) (k1 c1 : Nat) (W : World) : Prop where
  x : B2 W w.heap.size (.bool b1) (.slice a1 k1 c1)
  r : B2 W (w.heap.size + 1) (.bool false) (.slice none 0 0)
  bel : Below w.heap.size w W
theorem I2.keep {w : World} {b1 : Bool} {a1 : Option Addr} {k1 c1 : Nat} {W W' : World} (h : I2 w b1 a1 k1 c1 W) (hb : Below W.heap.size W W') : I2 w b1 a1 k1 c1 W' :=
  ⟨h.x.keep hb, h.r.keep hb, h.bel.trans (hb.mono h.bel.size)⟩
theorem I2.made (w : World) (b1 : Bool) (a1 : Option Addr) (k1 c1 : Nat) (T1 T3 : TypeId) :
    I2 w b1 a1 k1 c1 ((w.alloc (.cells #[.bool b1, .slice a1 k1 c1] T1)).alloc (.cells #[.bool false, .slice none 0 0] T3)) := by
  have s1 : (w.alloc (.cells #[.bool b1, .slice a1 k1 c1] T1)).heap.size = w.heap.size + 1 := by simp
  refine ⟨(B2.made w _ _ T1).keep (bel_one _ _), ?_, ((Below.refl _ _).alloc (Nat.le_refl _) _).alloc (by simp) _⟩
  rw [← s1]; exact B2.made _ _ _ T3
theorem built_zn (b : Bool) (W : World) (n : Nat) (T : TypeId) (h0 : 0 < n) (hn : n < 18446744073709551616) : Zn (W.alloc (.cells #[.int .u64 (n : Int)] T)) b (some ⟨W.heap.size, 0, none⟩) 1 1 (Go.Proofs.YtaibpppobblnoaaDoor.zv b n) := by
  refine ⟨n, ⟨fun _ => n, ⟨by omega, fun _ _ => hn, fun _ => ⟨W.heap.size, 0, rfl, by simp, fun j hj => ?_⟩⟩, by omega, by omega, .inr ?_, S_one _, Pl.some_ _ _⟩, fun _ => h0, rfl⟩
  · obtain rfl : j = 0 := by omega
    rw [World.cell?_alloc_new]; rfl
  · show n ≠ 0
    omega
theorem zsgn (z : Int) : z.sign = -1 ∧ z < 0 ∨ z.sign = 0 ∧ z = 0 ∨ z.sign = 1 ∧ 0 < z := by
  rcases Int.lt_trichotomy z 0 with h | h | h
  · exact .inl ⟨Int.sign_eq_neg_one_of_neg h, h⟩
  · subst h; exact .inr (.inl ⟨rfl, rfl⟩)
  · exact .inr (.inr ⟨Int.sign_eq_one_of_pos h, h⟩)
theorem Zn.zero_len {W : World} {b : Bool} {a : Option Addr} {k c : Nat} {z : Int} (h : Zn W b a k c z) : k = 0 ↔ z = 0 := by
  obtain ⟨n, hn, hp, rfl⟩ := h
  constructor
  · intro e
    have := hn.lt
    rw [e, bp_zero] at this
    have h0 : n = 0 := by omega
    subst h0; cases b <;> simp [Go.Proofs.YtaibpppobblnoaaDoor.zv]
  · intro e
    have h0 : n = 0 := by cases b <;> simp [Go.Proofs.YtaibpppobblnoaaDoor.zv] at e <;> omega
    subst h0
    exact hn.nul
set_option maxRecDepth 100000 in
set_option maxHeartbeats 4000000 in
theorem Minus_c (b1 : Bool) (a1 : Option Addr) (k1 c1 : Nat) (z1 : Int) (w : World) (h1 : Zn w b1 a1 k1 c1 z1) :
    Calls Tryd.prog 39 #[.agg #[.bool b1, .slice a1 k1 c1]] w (ZPost (-z1) w) := by
  obtain ⟨W0, hW0⟩ : ∃ W0, (w.alloc (.cells #[.bool b1, .slice a1 k1 c1] 37)).alloc (.cells #[.bool false, .slice none 0 0] 37) = W0 := ⟨_, rfl⟩
  have J0 : Hid (I2 w b1 a1 k1 c1 W0) := by rw [← hW0]; exact I2.made _ _ _ _ _ _ _
  have M1 := Lib.hid (h1.nm.below J0.out.bel)
  have E1 := Lib.hid h1.zv
  clear h1
  obtain ⟨s, hs⟩ : ∃ s, (!b1) = s := ⟨_, rfl⟩
  have x0 := J0.out.x.c0
  have x1 := J0.out.x.c1
  go_enter Tryd.func39, Tryd.ntmps39
  go_wp2_with fail
  clear hW0
  try rw [hs]
  have HS := Lib.hid hs
  clear hs x0 x1
  refine (withSign_c s a1 k1 c1 _ W0 M1.out).mono ?_
  rintro e W3 ⟨b', rfl, hz, b3⟩
  have J3 := Lib.hid (J0.out.keep b3)
  have HZ : Hid (Zn W3 b' a1 k1 c1 (-z1)) := by
    rw [← HS.out, zv_minus, ← E1.out] at hz
    exact hz
  clear hz b3 J0 M1
  obtain ⟨W9, hW9⟩ : ∃ W9, two W3 (w.heap.size + 1) (.bool b') (.slice a1 k1 c1) = W9 := ⟨_, rfl⟩
  have R9 : B2 W9 (w.heap.size + 1) (.bool b') (.slice a1 k1 c1) := by rw [← hW9]; exact J3.out.r.set _ _
  have PP : Hid (ZPost (-z1) w (.returned (.agg #[.bool b', .slice a1 k1 c1])) W9) := by
    rw [← hW9]
    exact ⟨_, _, _, _, rfl, HZ.out.set2 J3.out.r _ _, below_two J3.out.bel (by omega) _ _⟩
  have q0 := J3.out.r.c0
  have q1 := J3.out.r.c1
  have g0 := J3.out.r.fr 0
  have g1 := J3.out.r.fr 1
  obtain ⟨r0, r1, _, _⟩ := id R9
  unfold two at hW9
  clear R9
  go_wp2_with fail
  exact bodyPost_ret (v := .agg #[.bool b', .slice a1 k1 c1]) (by simp [results, Tryd.results39, go_sem, r0, r1]) rfl PP.out
set_option maxRecDepth 100000 in
set_option maxHeartbeats 4000000 in
theorem Sign_c (b1 : Bool) (a1 : Option Addr) (k1 c1 : Nat) (z1 : Int) (w : World) (h1 : Zn w b1 a1 k1 c1 z1) :
    Calls Tryd.prog 13 #[.agg #[.bool b1, .slice a1 k1 c1]] w fun e w' => e = .returned (.int .i64 z1.sign) ∧ Below w.heap.size w w' := by
  have hs := h1.sign
  have hk := h1.zero_len
  rcases zsgn z1 with ⟨e, h⟩ | ⟨e, h⟩ | ⟨e, h⟩
  · have hb : b1 = true := by rw [hs]; simp; omega
    subst hb
    rw [e]
    clear h1 hs hk e h
    go_enter Tryd.func13, Tryd.ntmps13
    go_wp2
    go_ret
    exact ⟨rfl, bel_one _ _⟩
  · have hb : b1 = false := by rw [hs]; simp; omega
    subst hb
    obtain rfl := hk.2 h
    rw [e]
    clear h1 hs hk e h
    go_enter Tryd.func13, Tryd.ntmps13
    go_wp2
    go_ret
    exact ⟨rfl, bel_one _ _⟩
  · have hb : b1 = false := by rw [hs]; simp; omega
    subst hb
    have hne : ((k1 : Int) == 0) = false := by
      rw [beq_eq_false_iff_ne]
      intro h0
      have := hk.1 (by omega)
      omega
    have hne' : (k1 == 0) = false := by
      rw [beq_eq_false_iff_ne]
      intro h0
      have := hk.1 h0
      omega
    rw [e]
    clear h1 hs hk e h
    go_enter Tryd.func13, Tryd.ntmps13
    go_wp2
    go_ret
    exact ⟨rfl, bel_one _ _⟩
/-- The order of two whole numbers. -/
def zcmp (x y : Int) : Int := if x < y then -1 else if y < x then 1 else 0
set_option maxRecDepth 100000 in
set_option maxHeartbeats 4000000 in
theorem Compare_c (b1 b2 : Bool) (a1 a2 : Option Addr) (k1 k2 c1 c2 : Nat) (z1 z2 : Int) (w : World) (h1 : Zn w b1 a1 k1 c1 z1) (h2 : Zn w b2 a2 k2 c2 z2) :
    Calls Tryd.prog 28 #[.agg #[.bool b1, .slice a1 k1 c1], .agg #[.bool b2, .slice a2 k2 c2]] w fun e w' => e = .returned (.int .i64 (zcmp z1 z2)) ∧ Below w.heap.size w w' := by
  obtain ⟨W0, hW0⟩ : ∃ W0, (w.alloc (.cells #[.bool b1, .slice a1 k1 c1] 37)).alloc (.cells #[.bool b2, .slice a2 k2 c2] 37) = W0 := ⟨_, rfl⟩
  have B0 : Hid (Below w.heap.size w W0) := by rw [← hW0]; exact ((Below.refl _ _).alloc (Nat.le_refl _) _).alloc (by simp) _
  have X0 : B2 W0 w.heap.size (.bool b1) (.slice a1 k1 c1) := by rw [← hW0]; exact (B2.made w _ _ _).keep (bel_one _ _)
  have Y0 : B2 W0 (w.heap.size + 1) (.bool b2) (.slice a2 k2 c2) := by
    have s1 : (w.alloc (.cells #[.bool b1, .slice a1 k1 c1] 37)).heap.size = w.heap.size + 1 := by simp
    rw [← hW0, ← s1]; exact B2.made _ _ _ _
  obtain ⟨x0, x1, _, _⟩ := X0
  obtain ⟨y0, y1, _, _⟩ := Y0
  cases b1 <;> cases b2
  · have HC := Lib.hid (compare_c a1 a2 k1 k2 c1 c2 _ _ W0 (h1.nm.below B0.out) (h2.nm.below B0.out))
    have HE : Hid (sgn z1.natAbs z2.natAbs = zcmp z1 z2) := by
      have e1 := h1.zv
      have e2 := h2.zv
      simp only [zv, if_true, Bool.false_eq_true, if_false] at e1 e2
      unfold Hid sgn zcmp
      repeat' split
      all_goals omega
    clear h1 h2
    go_enter Tryd.func28, Tryd.ntmps28
    go_wp2_with fail
    clear hW0
    refine HC.out.mono ?_
    rintro e w1 ⟨rfl, q, rfl⟩
    go_wp2
    go_ret
    exact ⟨ret_int HE.out, B0.out.trans ((bel_drewN W0 q).mono B0.out.size)⟩
  · have HE : Hid (zcmp z1 z2 = 1) := by
      have e1 := h1.sign
      have e2 := h2.sign
      simp at e1 e2
      unfold Hid zcmp
      repeat' split
      all_goals omega
    clear h1 h2
    rw [HE.out]
    go_enter Tryd.func28, Tryd.ntmps28
    go_wp2
    go_ret
    exact ⟨rfl, B0.out⟩
  · have HE : Hid (zcmp z1 z2 = -1) := by
      have e1 := h1.sign
      have e2 := h2.sign
      simp at e1 e2
      unfold Hid zcmp
      repeat' split
      all_goals omega
    clear h1 h2
    rw [HE.out]
    go_enter Tryd.func28, Tryd.ntmps28
    go_wp2
    go_ret
    exact ⟨rfl, B0.out⟩
  · have HC := Lib.hid (compare_c a2 a1 k2 k1 c2 c1 _ _ W0 (h2.nm.below B0.out) (h1.nm.below B0.out))
    have HE : Hid (sgn z2.natAbs z1.natAbs = zcmp z1 z2) := by
      have e1 := h1.zv
      have e2 := h2.zv
      simp only [zv, if_true, Bool.false_eq_true, if_false] at e1 e2
      unfold Hid sgn zcmp
      repeat' split
      all_goals omega
    clear h1 h2
    go_enter Tryd.func28, Tryd.ntmps28
    go_wp2_with fail
    clear hW0
    refine HC.out.mono ?_
    rintro e w1 ⟨rfl, q, rfl⟩
    go_wp2
    go_ret
    exact ⟨ret_int HE.out, B0.out.trans ((bel_drewN W0 q).mono B0.out.size)⟩
set_option maxRecDepth 100000 in
set_option maxHeartbeats 4000000 in
theorem Common_c (b1 b2 : Bool) (a1 a2 : Option Addr) (k1 k2 c1 c2 : Nat) (z1 z2 : Int) (w : World) (h1 : Zn w b1 a1 k1 c1 z1) (h2 : Zn w b2 a2 k2 c2 z2) (n1 : z1.natAbs < bp 2000) (n2 : z2.natAbs < bp 2000) :
    Calls Tryd.prog 22 #[.agg #[.bool b1, .slice a1 k1 c1], .agg #[.bool b2, .slice a2 k2 c2]] w (ZPost (Int.gcd z1 z2) w) := by
  obtain ⟨W0, hW0⟩ : ∃ W0, ((w.alloc (.cells #[.bool b1, .slice a1 k1 c1] 37)).alloc (.cells #[.bool b2, .slice a2 k2 c2] 37)).alloc (.cells #[.bool false, .slice none 0 0] 37) = W0 := ⟨_, rfl⟩
  have J0 : Hid (I3 w b1 a1 k1 c1 b2 a2 k2 c2 W0) := by rw [← hW0]; exact I3.made _ _ _ _ _ _ _ _ _ _ _ _
  have HC := Lib.hid (common_c a1 a2 k1 k2 c1 c2 _ _ W0 (h1.nm.below J0.out.bel) (h2.nm.below J0.out.bel) n1 n2)
  clear h1 h2 n1 n2
  have x0 := J0.out.x.c0
  have x1 := J0.out.x.c1
  have y0 := J0.out.y.c0
  have y1 := J0.out.y.c1
  go_enter Tryd.func22, Tryd.ntmps22
  go_wp2_with fail
  clear hW0
  refine HC.out.mono ?_
  rintro e W3 ⟨pa, pk, pc, rfl, hp, b3⟩
  have J3 := Lib.hid (J0.out.keep b3)
  have HZ : Hid (Zn W3 false pa pk pc (Int.gcd z1 z2)) := ⟨_, hp, (fun e => nomatch e), rfl⟩
  clear hp b3 J0 x0 x1 y0 y1 HC
  obtain ⟨W9, hW9⟩ : ∃ W9, two W3 (w.heap.size + 1 + 1) (.bool false) (.slice pa pk pc) = W9 := ⟨_, rfl⟩
  have R9 : B2 W9 (w.heap.size + 1 + 1) (.bool false) (.slice pa pk pc) := by rw [← hW9]; exact J3.out.r.set _ _
  have PP : Hid (ZPost (Int.gcd z1 z2) w (.returned (.agg #[.bool false, .slice pa pk pc])) W9) := by
    rw [← hW9]
    exact ⟨_, _, _, _, rfl, HZ.out.set2 J3.out.r _ _, below_two J3.out.bel (by omega) _ _⟩
  have q0 := J3.out.r.c0
  have q1 := J3.out.r.c1
  have g0 := J3.out.r.fr 0
  have g1 := J3.out.r.fr 1
  obtain ⟨r0, r1, _, _⟩ := id R9
  unfold two at hW9
  clear R9
  go_wp2_with fail
  exact bodyPost_ret (v := .agg #[.bool false, .slice pa pk pc]) (by simp [results, Tryd.results22, go_sem, r0, r1]) rfl PP.out
set_option maxRecDepth 100000 in
set_option maxHeartbeats 4000000 in
theorem equal_c (a1 a2 : Option Addr) (k1 k2 c1 c2 n1 n2 : Nat) (w : World) (h1 : Nm w a1 k1 c1 n1) (h2 : Nm w a2 k2 c2 n2) :
    Calls Tryd.prog 35 #[.slice a1 k1 c1, .slice a2 k2 c2] w fun e w' => e = .returned (.bool (decide (n1 = n2))) ∧ ∃ q, w' = w.drewN q := by
  by_cases hk : k1 = k2
  · subst hk
    obtain ⟨f, r1, _, _, t1, s1, _⟩ := h1
    obtain ⟨g, r2, _, _, t2, s2, _⟩ := h2
    have H1 := Lib.hid r1
    have H2 := Lib.hid r2
    have S1 := Lib.hid s1
    have S2 := Lib.hid s2
    have hk1 := r1.1
    clear r1 r2 s1 s2 t1 t2
    go_enter Tryd.func35, Tryd.ntmps35
    go_wp2
    go_loopw [13] (fun i wr => ∃ j : Nat, j ≤ k1 ∧ i = .int .i64 j ∧ Hid ((∀ i, i < j → f i = g i) ∧ ∃ q, wr = w.drewN q)) (fun i _ => k1 - (intOf i).toNat)
    case atStart => exact ⟨0, Nat.zero_le _, rfl, fun i hi => by omega, 0, rfl⟩
    case round =>
      obtain ⟨j, hj, rfl, hR⟩ := hrel
      by_cases hlt : j < k1
      · have hlt' : (j : Int) < (k1 : Int) := by omega
        obtain ⟨q, hq⟩ := hR.out.2
        have HB : Hid (Below w.heap.size w wr) := by unfold Hid; rw [hq]; exact bel_drewN _ _
        obtain ⟨b1, o1, rfl, _, g1⟩ := (H1.out.below HB.out).at_ hlt
        obtain ⟨b2, o2, rfl, _, g2⟩ := (H2.out.below HB.out).at_ hlt
        have HQ := Lib.hid hq
        clear hq
        by_cases hE : f j = g j
        · have NE : Hid (∀ i, i < j + 1 → f i = g i) := fun i hi => by
            by_cases e : i = j
            · rw [e, hE]
            · exact hR.out.1 i (by omega)
          rw [← hE] at g2
          generalize f j = x at *
          clear hE
          go_wp2_with fail
          go_quiet (fail)
          have NX : Hid ((∀ i, i < j + 1 → f i = g i) ∧ ∃ q, wr.drewN nq = w.drewN q) := ⟨NE.out, q + nq, by rw [HQ.out, drewN_drewN]⟩
          clear g1 g2
          go_wp2
          go_roundw
          case rel => exact ⟨j + 1, by omega, by go_num, NX.out⟩
          case measure => simp [intOf]; omega
        · have E : Hid (decide (n1 = n2) = false) := by
            unfold Hid
            rw [decide_eq_false_iff_not]
            intro e
            rw [← S1.out, ← S2.out] at e
            exact hE (S_inj H1.out.2.1 H2.out.2.1 e j hlt)
          have hb : ((f j : Int) == (g j : Int)) = false := by rw [beq_eq_false_iff_ne]; omega
          have hb' : (f j == g j) = false := by rw [beq_eq_false_iff_ne]; exact hE
          generalize f j = x at *
          generalize g j = y at *
          clear hE
          go_wp2_with fail
          go_quiet (fail)
          go_wp2
          go_ret
          exact ⟨by rw [E.out]; rfl, q + nq, by rw [HQ.out, drewN_drewN]⟩
      · obtain rfl : j = k1 := by omega
        have E : Hid (decide (n1 = n2) = true) := by
          unfold Hid
          rw [decide_eq_true_iff, ← S1.out, ← S2.out]
          exact S_congr (fun i hi => hR.out.1 i hi)
        go_wp2
        go_ret
        exact ⟨by rw [E.out]; rfl, hR.out.2⟩
  · have hne : ((k1 : Int) == (k2 : Int)) = false := by rw [beq_eq_false_iff_ne]; omega
    have hne' : (k1 == k2) = false := by rw [beq_eq_false_iff_ne]; exact hk
    have E : Hid (decide (n1 = n2) = false) := by
      unfold Hid
      rw [decide_eq_false_iff_not]
      intro e
      subst e
      have l1 := h1.len h2.lt
      have l2 := h2.len h1.lt
      omega
    rw [E.out]
    clear h1 h2 hk
    go_enter Tryd.func35, Tryd.ntmps35
    go_wp2
    go_ret
    exact ⟨rfl, 0, rfl⟩
set_option maxRecDepth 100000 in
set_option maxHeartbeats 4000000 in
theorem Equal_c (b1 b2 : Bool) (a1 a2 : Option Addr) (k1 k2 c1 c2 : Nat) (z1 z2 : Int) (w : World) (h1 : Zn w b1 a1 k1 c1 z1) (h2 : Zn w b2 a2 k2 c2 z2) :
    Calls Tryd.prog 23 #[.agg #[.bool b1, .slice a1 k1 c1], .agg #[.bool b2, .slice a2 k2 c2]] w fun e w' => e = .returned (.bool (decide (z1 = z2))) ∧ Below w.heap.size w w' := by
  obtain ⟨W0, hW0⟩ : ∃ W0, (w.alloc (.cells #[.bool b1, .slice a1 k1 c1] 37)).alloc (.cells #[.bool b2, .slice a2 k2 c2] 37) = W0 := ⟨_, rfl⟩
  have B0 : Hid (Below w.heap.size w W0) := by rw [← hW0]; exact ((Below.refl _ _).alloc (Nat.le_refl _) _).alloc (by simp) _
  have X0 : B2 W0 w.heap.size (.bool b1) (.slice a1 k1 c1) := by rw [← hW0]; exact (B2.made w _ _ _).keep (bel_one _ _)
  have Y0 : B2 W0 (w.heap.size + 1) (.bool b2) (.slice a2 k2 c2) := by
    have s1 : (w.alloc (.cells #[.bool b1, .slice a1 k1 c1] 37)).heap.size = w.heap.size + 1 := by simp
    rw [← hW0, ← s1]; exact B2.made _ _ _ _
  obtain ⟨x0, x1, _, _⟩ := X0
  obtain ⟨y0, y1, _, _⟩ := Y0
  by_cases hb : b1 = b2
  · subst hb
    have HC := Lib.hid (equal_c a1 a2 k1 k2 c1 c2 _ _ W0 (h1.nm.below B0.out) (h2.nm.below B0.out))
    have HE : Hid (decide (z1.natAbs = z2.natAbs) = decide (z1 = z2)) := by
      have e1 := h1.zv
      have e2 := h2.zv
      unfold Hid
      apply decide_eq_decide.2
      cases b1 <;> simp only [zv, if_true, Bool.false_eq_true, if_false] at e1 e2 <;> omega
    have hbe : (b1 == b1) = true := by simp
    clear h1 h2
    go_enter Tryd.func23, Tryd.ntmps23
    go_wp2_with fail
    clear hW0
    refine HC.out.mono ?_
    rintro e w1 ⟨rfl, q, rfl⟩
    rw [HE.out]
    go_wp2
    go_ret
    exact ⟨rfl, B0.out.trans ((bel_drewN W0 q).mono B0.out.size)⟩
  · have hbe : (b1 == b2) = false := by rw [beq_eq_false_iff_ne]; exact hb
    have HE : Hid (decide (z1 = z2) = false) := by
      unfold Hid
      rw [decide_eq_false_iff_not]
      intro e
      exact hb (by rw [h1.sign, h2.sign, e])
    rw [HE.out]
    clear h1 h2 hb
    go_enter Tryd.func23, Tryd.ntmps23
    go_wp2
    go_ret
    exact ⟨rfl, B0.out⟩
set_option maxRecDepth 100000 in
set_option maxHeartbeats 4000000 in
theorem Of_c (z : Int) (w : World) (hl : -9223372036854775808 ≤ z) (hh : z ≤ 9223372036854775807) :
    Calls Tryd.prog 24 #[.int .i64 z] w (ZPost z w) := by
  rcases Int.lt_trichotomy z 0 with h | h | h
  · obtain ⟨n, rfl⟩ : ∃ n : Nat, z = -(n : Int) := ⟨z.natAbs, by omega⟩
    have h1 : ((-(n : Int)) == 0) = false := by rw [beq_eq_false_iff_ne]; omega
    have h2 : decide (-(n : Int) < 0) = true := by rw [decide_eq_true_iff]; omega
    have h2' : -(n : Int) < 0 := by omega
    have h0 : 0 < n := by omega
    have hn : n ≤ 9223372036854775808 := by omega
    obtain ⟨m, hm⟩ : ∃ m : Nat, m = 18446744073709551616 - n := ⟨_, rfl⟩
    have hw : IntKind.u64.wrap (-(n : Int)) = (m : Int) := by rw [IntKind.wrap_u64]; omega
    have hw2 : IntKind.u64.wrap (-(m : Int)) = (n : Int) := by rw [IntKind.wrap_u64]; omega
    have H0 := Lib.hid h0
    have HN := Lib.hid hn
    have PP := Lib.hid (fun W T => built_zn true W n T h0 (by omega))
    clear hm hl hh h hn h0
    obtain ⟨W0, hW0⟩ : ∃ W0, w.alloc (.cells #[.bool false, .slice none 0 0] 37) = W0 := ⟨_, rfl⟩
    have X0 : B2 W0 w.heap.size (.bool false) (.slice none 0 0) := by rw [← hW0]; exact B2.made _ _ _ _
    have B0 : Below w.heap.size w W0 := by rw [← hW0]; exact bel_one _ _
    obtain ⟨W1, hW1⟩ : ∃ W1, W0.alloc (.cells #[.int .u64 (n : Int)] 59) = W1 := ⟨_, rfl⟩
    have X1 : B2 W1 w.heap.size (.bool false) (.slice none 0 0) := by rw [← hW1]; exact X0.keep (bel_one _ _)
    have B1 : Below w.heap.size w W1 := by rw [← hW1]; exact B0.alloc B0.size _
    obtain ⟨W2, hW2⟩ : ∃ W2, two W1 w.heap.size (.bool true) (.slice (some ⟨W0.heap.size, 0, none⟩) 1 1) = W2 := ⟨_, rfl⟩
    have X2 : B2 W2 w.heap.size (.bool true) (.slice (some ⟨W0.heap.size, 0, none⟩) 1 1) := by rw [← hW2]; exact X1.set _ _
    have R : Hid (ZPost (-(n : Int)) w (.returned (.agg #[.bool true, .slice (some ⟨W0.heap.size, 0, none⟩) 1 1])) W2) := by
      rw [← hW2]
      refine ⟨_, _, _, _, rfl, ?_, below_two B1 (Nat.le_refl _) _ _⟩
      rw [← hW1]
      rw [← hW1] at X1
      exact (PP.out W0 _).set2 X1 _ _
    have f0 := X1.fr 0
    have f1 := X1.fr 1
    obtain ⟨x0, x1, _, _⟩ := X1
    obtain ⟨r0, r1, _, _⟩ := X2
    clear PP X0 B0 B1
    unfold two at hW2
    go_enter Tryd.func24, Tryd.ntmps24
    go_wp2
    exact bodyPost_ret (v := .agg #[.bool true, .slice (some ⟨W0.heap.size, 0, none⟩) 1 1]) (by simp [results, Tryd.results24, go_sem, r0, r1]) rfl R.out
  · subst h
    obtain ⟨W0, hW0⟩ : ∃ W0, w.alloc (.cells #[.bool false, .slice none 0 0] 37) = W0 := ⟨_, rfl⟩
    have X0 : B2 W0 w.heap.size (.bool false) (.slice none 0 0) := by rw [← hW0]; exact B2.made _ _ _ _
    have B0 : Below w.heap.size w W0 := by rw [← hW0]; exact bel_one _ _
    obtain ⟨W2, hW2⟩ : ∃ W2, two W0 w.heap.size (.bool false) (.slice none 0 0) = W2 := ⟨_, rfl⟩
    have X2 : B2 W2 w.heap.size (.bool false) (.slice none 0 0) := by rw [← hW2]; exact X0.set _ _
    have R : Hid (ZPost 0 w (.returned (.agg #[.bool false, .slice none 0 0])) W2) := by
      rw [← hW2]
      exact ⟨_, _, _, _, rfl, ⟨0, Nm.zero _ _ _ (by omega) Pl.none_, (fun e => nomatch e), rfl⟩, below_two B0 (Nat.le_refl _) _ _⟩
    have f0 := X0.fr 0
    have f1 := X0.fr 1
    obtain ⟨x0, x1, _, _⟩ := X0
    obtain ⟨r0, r1, _, _⟩ := X2
    unfold two at hW2
    clear hl hh B0
    go_enter Tryd.func24, Tryd.ntmps24
    go_wp2
    exact bodyPost_ret (v := .agg #[.bool false, .slice none 0 0]) (by simp [results, Tryd.results24, go_sem, r0, r1]) rfl R.out
  · obtain ⟨n, rfl⟩ : ∃ n : Nat, z = (n : Int) := ⟨z.natAbs, by omega⟩
    have h1 : ((n : Int) == 0) = false := by rw [beq_eq_false_iff_ne]; omega
    have h1' : (n == 0) = false := by rw [beq_eq_false_iff_ne]; omega
    have h2 : decide ((n : Int) < 0) = false := by rw [decide_eq_false_iff_not]; omega
    have h2' : ¬ (n : Int) < 0 := by omega
    have h0 : 0 < n := by omega
    have hn : n ≤ 9223372036854775807 := by omega
    have hw : IntKind.u64.wrap (n : Int) = (n : Int) := by rw [IntKind.wrap_u64]; omega
    have PP := Lib.hid (fun W T => built_zn false W n T h0 (by omega))
    clear hl hh h hn h0
    obtain ⟨W0, hW0⟩ : ∃ W0, w.alloc (.cells #[.bool false, .slice none 0 0] 37) = W0 := ⟨_, rfl⟩
    have X0 : B2 W0 w.heap.size (.bool false) (.slice none 0 0) := by rw [← hW0]; exact B2.made _ _ _ _
    have B0 : Below w.heap.size w W0 := by rw [← hW0]; exact bel_one _ _
    obtain ⟨W1, hW1⟩ : ∃ W1, W0.alloc (.cells #[.int .u64 (n : Int)] 59) = W1 := ⟨_, rfl⟩
    have X1 : B2 W1 w.heap.size (.bool false) (.slice none 0 0) := by rw [← hW1]; exact X0.keep (bel_one _ _)
    have B1 : Below w.heap.size w W1 := by rw [← hW1]; exact B0.alloc B0.size _
    obtain ⟨W2, hW2⟩ : ∃ W2, two W1 w.heap.size (.bool false) (.slice (some ⟨W0.heap.size, 0, none⟩) 1 1) = W2 := ⟨_, rfl⟩
    have X2 : B2 W2 w.heap.size (.bool false) (.slice (some ⟨W0.heap.size, 0, none⟩) 1 1) := by rw [← hW2]; exact X1.set _ _
    have R : Hid (ZPost (n : Int) w (.returned (.agg #[.bool false, .slice (some ⟨W0.heap.size, 0, none⟩) 1 1])) W2) := by
      rw [← hW2]
      refine ⟨_, _, _, _, rfl, ?_, below_two B1 (Nat.le_refl _) _ _⟩
      rw [← hW1]
      rw [← hW1] at X1
      exact (PP.out W0 _).set2 X1 _ _
    have f0 := X1.fr 0
    have f1 := X1.fr 1
    obtain ⟨x0, x1, _, _⟩ := X1
    obtain ⟨r0, r1, _, _⟩ := X2
    clear PP X0 B0 B1
    unfold two at hW2
    go_enter Tryd.func24, Tryd.ntmps24
    go_wp2
    exact bodyPost_ret (v := .agg #[.bool false, .slice (some ⟨W0.heap.size, 0, none⟩) 1 1]) (by simp [results, Tryd.results24, go_sem, r0, r1]) rfl R.out
end Go.Proofs.YtaibpppobblnoaaDoor
