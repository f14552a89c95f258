/-
  Numbers of any size: their order.
  Numbers of any size: a row times a limb added to a row, and taken from one.
  Numbers of any size: sums, differences, products.
  Numbers of any size: sums, products and differences.
-/
import Derived.Test.YtfldlcnlijljcaaGreatDoorPn01
import Derived.Laws.IdiomCopy
namespace Go.Proofs.YtfldlcnlijljcaaGreatDoor
open Go.RowKit

/-- The order of two numbers. -/
def sgn (x y : Nat) : Int := if x < y then -1 else if y < x then 1 else 0
theorem sgn_lt {x y : Nat} (h : x < y) : sgn x y = -1 := by unfold sgn; rw [if_pos h]
theorem sgn_gt {x y : Nat} (h : y < x) : sgn x y = 1 := by unfold sgn; rw [if_neg (by omega), if_pos h]
theorem sgn_eq (x : Nat) : sgn x x = 0 := by unfold sgn; rw [if_neg (by omega), if_neg (by omega)]
theorem drewN_drewN (w : World) (a b : Nat) : (w.drewN a).drewN b = w.drewN (a + b) := by simp [World.drewN, Nat.add_assoc]
theorem isNaN_c (x : Int) (w : World) : Calls Tryz.prog 112 #[.int .u64 x] w fun e w' => e = .returned (.bool false) ∧ w = w' := by
  go_enter Tryz.func112, Tryz.ntmps112
  go_wp2
  go_ret
  exact ⟨rfl, rfl⟩
theorem cmpU_c (x y : Nat) (w : World) : Calls Tryz.prog 100 #[.int .u64 x, .int .u64 y] w fun e w' => e = .returned (.int .i64 (sgn x y)) ∧ w = w' := by
  rcases Nat.lt_trichotomy x y with h | h | h
  · have e := sgn_lt h
    have d : decide (x < y) = true := by simp; omega
    rw [e]
    clear e
    go_enter Tryz.func100, Tryz.ntmps100
    go_wp2_with (go_at_call 112; refine (isNaN_c _ _).mono ?_; rintro e w' ⟨rfl, rfl⟩)
    go_ret
    exact ⟨rfl, rfl⟩
  · subst h
    rw [sgn_eq]
    go_enter Tryz.func100, Tryz.ntmps100
    go_wp2_with (go_at_call 112; refine (isNaN_c _ _).mono ?_; rintro e w' ⟨rfl, rfl⟩)
    go_ret
    exact ⟨rfl, rfl⟩
  · have e := sgn_gt h
    have d : decide (x < y) = false := by simp; omega
    have d2 : decide (y < x) = true := by simp; omega
    rw [e]
    clear e
    go_enter Tryz.func100, Tryz.ntmps100
    go_wp2_with (go_at_call 112; refine (isNaN_c _ _).mono ?_; rintro e w' ⟨rfl, rfl⟩)
    go_ret
    exact ⟨rfl, rfl⟩
set_option maxRecDepth 100000 in
set_option maxHeartbeats 2000000 in
theorem compare_c (a1 a2 : Option Addr) (k1 k2 c1 c2 n1 n2 : Nat) (w : World) (h1 : Nm w a1 k1 c1 n1) (h2 : Nm w a2 k2 c2 n2) :
    Calls Tryz.prog 83 #[.slice a1 k1 c1, .slice a2 k2 c2] w fun e w' => e = .returned (.int .i64 (sgn n1 n2)) ∧ ∃ q, w' = w.drewN q := by
  obtain ⟨f, r1, _, _, t1, s1, _⟩ := h1
  obtain ⟨g, r2, _, _, t2, s2, _⟩ := h2
  have hk1 := r1.1
  have hk2 := r2.1
  by_cases hk : k1 = k2
  · subst hk
    have H1 := Lib.hid r1
    have H2 := Lib.hid r2
    have S1 := Lib.hid s1
    have S2 := Lib.hid s2
    clear r1 r2 t1 t2 s1 s2
    go_enter Tryz.func83, Tryz.ntmps83
    go_wp2
    go_loopw [5] (fun i wr => ∃ m : Nat, m ≤ k1 ∧ i = .int .i64 ((m : Int) - 1) ∧ Hid ((∀ j, m ≤ j → j < k1 → f j = g j) ∧ ∃ q, wr = w.drewN q)) (fun i _ => (intOf i + 1).toNat)
    case atStart => exact ⟨k1, Nat.le_refl _, rfl, fun j h1 h2 => by omega, 0, rfl⟩
    case round =>
      obtain ⟨m, hm, rfl, hR⟩ := hrel
      rcases Nat.eq_zero_or_pos m with e | e
      · subst e
        have E : Hid (n1 = n2) := by unfold Hid; rw [← S1.out, ← S2.out]; exact S_congr (fun j hj => hR.out.1 j (Nat.zero_le _) hj)
        go_wp2
        go_ret
        exact ⟨ret_int (by rw [E.out, sgn_eq]), hR.out.2⟩
      · obtain ⟨p, rfl⟩ : ∃ p, m = p + 1 := ⟨m - 1, by omega⟩
        obtain ⟨q, hq⟩ := hR.out.2
        have HB : Hid (Below w.heap.size w wr) := by unfold Hid; rw [hq]; exact bel_drewN _ _
        obtain ⟨b1, o1, rfl, _, g1⟩ := (H1.out.below HB.out).at_ (show p < k1 by omega)
        obtain ⟨b2, o2, rfl, _, g2⟩ := (H2.out.below HB.out).at_ (show p < k1 by omega)
        have hp : (p : Int) < (k1 : Int) := by omega
        have ei : ((p + 1 : Nat) : Int) - 1 = (p : Int) := by omega
        rw [ei]
        have HQ := Lib.hid hq
        clear hq
        by_cases hE : f p = g p
        · have NE : Hid (∀ j, p ≤ j → j < k1 → f j = g j) := fun j h1 h2 => by
            by_cases e : j = p
            · rw [e, hE]
            · exact hR.out.1 j (by omega) h2
          rw [← hE] at g2
          generalize f p = x at *
          go_wp2_with fail
          go_quiet (fail)
          have NX : Hid ((∀ j, p ≤ j → j < k1 → f j = g j) ∧ ∃ q, wr.drewN nq = w.drewN q) := ⟨NE.out, q + nq, by rw [HQ.out, drewN_drewN]⟩
          clear g1 g2
          go_wp2
          go_roundw
          case rel => exact ⟨p, by omega, by go_num, NX.out⟩
          case measure => simp [intOf]
        · have E : Hid (sgn n1 n2 = sgn (f p) (g p)) := by
            unfold Hid
            rw [← S1.out, ← S2.out]
            rcases Nat.lt_trichotomy (f p) (g p) with l | l | l
            · rw [sgn_lt l, sgn_lt (cmp_lt H1.out.2.1 (by omega) l (fun j h1 h2 => hR.out.1 j (by omega) h2))]
            · exact absurd l hE
            · rw [sgn_gt l, sgn_gt (cmp_lt H2.out.2.1 (by omega) l (fun j h1 h2 => (hR.out.1 j (by omega) h2).symm))]
          have hb : ((f p : Int) == (g p : Int)) = false := by rw [beq_eq_false_iff_ne]; omega
          have hb' : (f p == g p) = false := by rw [beq_eq_false_iff_ne]; exact hE
          have hc := Lib.hid (fun w => cmpU_c (f p) (g p) w)
          generalize f p = x at *
          generalize g p = y at *
          clear hE
          go_wp2_with fail
          go_quiet (fail)
          go_wp2_with fail
          generalize hw1 : wr.drewN _ = w1
          have g1' : w1.cell? ⟨b1, o1 + p, none⟩ = some (.int .u64 x) := by rw [← hw1]; exact g1
          have g2' : w1.cell? ⟨b2, o2 + p, none⟩ = some (.int .u64 y) := by rw [← hw1]; exact g2
          have HW := Lib.hid hw1
          clear hw1 g1 g2
          go_quiet ((go_at_call 100; exact Calls.quiet_of_same ((hc.out _).mono fun e w' h => ⟨h.1, h.2.symm⟩)))
          go_wp2
          go_ret
          exact ⟨ret_int E.out.symm, by rw [← HW.out, HQ.out]; exact ⟨_, by rw [drewN_drewN, drewN_drewN]⟩⟩
  · have hne : ((k1 : Int) == (k2 : Int)) = false := by rw [beq_eq_false_iff_ne]; omega
    have hne' : (k1 == k2) = false := by rw [beq_eq_false_iff_ne]; exact hk
    have E : Hid (sgn n1 n2 = Lib.compareInt (k1 : Int) k2) := by
      unfold Hid
      rw [← s1, ← s2]
      rcases Nat.lt_or_ge k1 k2 with l | l
      · rw [sgn_lt (len_lt r1.2.1 t2 l)]
        unfold Lib.compareInt
        simp; omega
      · rw [sgn_gt (len_lt r2.2.1 t1 (by omega))]
        unfold Lib.compareInt
        simp; omega
    clear r1 r2 t1 t2 s1 s2 hk
    go_enter Tryz.func83, Tryz.ntmps83
    go_wp2_with (go_at_call 99; refine (Tryz.cmp_Compare_int _ _ _).mono ?_; rintro e w' ⟨rfl, rfl⟩)
    go_ret
    exact ⟨ret_int E.out.symm, 0, rfl⟩
end Go.Proofs.YtfldlcnlijljcaaGreatDoor
namespace Go.Proofs.YtfldlcnlijljcaaGreatDoor
open Go.RowKit

theorem from_put (f : Nat → Nat) (o j x : Nat) : from_ (put f (o + j) x) o = put (from_ f o) j x := by
  funext i
  unfold from_ put
  by_cases h : i = j
  · rw [if_pos (by omega), if_pos h]
  · rw [if_neg (by omega), if_neg h]
theorem grown_set {a w : World} {g i : Nat} {v : Value} (h : a.grownBy w (some g)) : a.grownBy (w.setCell ⟨g, i, none⟩ v) (some g) := by
  refine h.trans ⟨rfl, rfl, rfl, by simp, fun k hk hne => ?_⟩
  exact Below.heap_setCell _ _ _ _ (fun e => hne (by rw [e]))
theorem bel_grown {w0 w w' : World} {g : Nat} (hB : Below w0.heap.size w0 w) (hg : w0.heap.size ≤ g) (h : w.grownBy w' (some g)) : Below w0.heap.size w0 w' :=
  hB.grown h hB.size (fun k hk => by cases hk; exact hg)
/-- What a function that changes a window leaves: all else is as it was. -/
structure Wd (w : World) (g K o m : Nat) (f f' : Nat → Nat) (w' : World) : Prop where
  bf : Bf w' g K f'
  out : ∀ j, j < o ∨ o + m ≤ j → f' j = f j
  grown : w.grownBy w' (some g)
def AddTPost (w : World) (g K o m : Nat) (f fb : Nat → Nat) (t : Nat) (e : Ending) (w' : World) : Prop :=
  ∃ (x : Nat) (f' : Nat → Nat), e = .returned (.int .u64 (x : Int)) ∧ x < 18446744073709551616 ∧ Wd w g K o m f f' w' ∧ S (from_ f' o) m + x * bp m = S (from_ f o) m + t * S fb m
def SubTPost (w : World) (g K o m : Nat) (f fb : Nat → Nat) (t : Nat) (e : Ending) (w' : World) : Prop :=
  ∃ (x : Nat) (f' : Nat → Nat), x ≤ 1 ∧ e = .returned (.bool (decide (x = 1))) ∧ Wd w g K o (m + 1) f f' w' ∧ S (from_ f' o) (m + 1) + t * S fb m = S (from_ f o) (m + 1) + x * bp (m + 1)
set_option maxRecDepth 100000 in
set_option maxHeartbeats 4000000 in
theorem subtractTimes_g (g o m c K cb t : Nat) (ab : Option Addr) (f fb : Nat → Nat) (w : World) (hb : Rl w ab m fb) (hA : Apart ab m g) (hf : Bf w g K f) (hK : o + m + 1 ≤ K) (hK2 : K ≤ 100000) (ht : t < 18446744073709551616) :
    Calls Tryz.prog 126 #[.slice (some ⟨g, o, none⟩) (m + 1) c, .slice ab m cb, .int .u64 t] w (SubTPost w g K o m f fb t) := by
  have HRB := Lib.hid hb
  have HF := Lib.hid hf
  have HAP := Lib.hid hA
  clear hb hA hf
  go_enter Tryz.func126, Tryz.ntmps126
  go_wp2
  go_loopw [7, 16] (fun v i wr => ∃ (j y : Nat) (f' : Nat → Nat), j ≤ m ∧ i = .int .i64 j ∧ v = .int .u64 y ∧ y < 18446744073709551616 ∧ Hid (Wd w g K o j f f' wr ∧ S (from_ f' o) j + t * S fb j = S (from_ f o) j + y * bp j)) (fun _ i _ => m - (intOf i).toNat)
  case atStart => exact ⟨0, 0, f, Nat.zero_le _, rfl, rfl, by omega, ⟨HF.out, fun _ _ => rfl, World.grownBy.refl _ _⟩, by simp only [S_zero]; omega⟩
  case round =>
    obtain ⟨j, y, f', hj, rfl, rfl, hy, hR⟩ := hrel
    have hBj := hR.out.1.bf.2.2 (o + j) (by omega)
    have hz := hR.out.1.bf.2.1 (o + j) (by omega)
    have ez : f' (o + j) = f (o + j) := hR.out.1.out _ (.inr (by omega))
    have hc2 := hBj.1
    have hf2 := hBj.2
    rw [ez] at hc2 hz
    by_cases hlt : j < m
    · have hlt' : (j : Int) < (m : Int) := by omega
      have hBw := HRB.out.grown hR.out.1.grown HAP.out
      obtain ⟨b, off, rfl, hbl, hc1⟩ := hBw.at_ hlt
      have hx := HRB.out.2.1 j hlt
      obtain ⟨s1, hi, hstep, ha1, ha2, hhi⟩ := steps (fb j) t y hx ht hy
      have HST := Lib.hid hstep
      obtain ⟨s2, d2, hsub2, hb1, hb2, hb3⟩ := subs (f (o + j)) s1 0 rfl rfl (show (0 : Int) = ((0 : Nat) : Int) from rfl) hz ha2 (by omega)
      have hbd : hi + d2 < 18446744073709551616 := by
        have a : fb j * t ≤ 18446744073709551615 * 18446744073709551615 := Nat.mul_le_mul (by omega) (by omega)
        omega
      have NX : Hid (Wd w g K o (j + 1) f (put f' (o + j) s2) (wr.setCell ⟨g, o + j, none⟩ (.int .u64 s2)) ∧ S (from_ (put f' (o + j) s2) o) (j + 1) + t * S fb (j + 1) = S (from_ f o) (j + 1) + (hi + d2) * bp (j + 1)) := by
        refine ⟨⟨hR.out.1.bf.put (by omega) hb2, fun i hi => by rw [put_ne (by omega)]; exact hR.out.1.out i (by omega), grown_set hR.out.1.grown⟩, ?_⟩
        rw [from_put, S_put, bp_succ, S_succ, S_succ]
        have e : from_ f o j = f (o + j) := rfl
        rw [e]
        exact step_submul hR.out.2 (by omega)
      clear hBj hstep ha1 hb1 ez hBw
      generalize fb j = x at *
      generalize f (o + j) = z at *
      go_wp2_with (first | (go_at_call 123; refine (HST.out _).mono ?_; rintro e w' ⟨rfl, rfl⟩) | (rw [hsub2]))
      go_roundw
      case rel => exact ⟨j + 1, hi + d2, put f' (o + j) s2, by omega, by go_num, by go_num, hbd, NX.out⟩
      case measure => simp [intOf]; omega
    · obtain rfl : j = m := by omega
      obtain ⟨s, d, hsub, hb1, hb2, hb3⟩ := subs (f (o + j)) y 0 rfl rfl (show (0 : Int) = ((0 : Nat) : Int) from rfl) hz hy (by omega)
      have NX : Hid (Wd w g K o (j + 1) f (put f' (o + j) s) (wr.setCell ⟨g, o + j, none⟩ (.int .u64 s)) ∧ S (from_ (put f' (o + j) s) o) (j + 1) + t * S fb j = S (from_ f o) (j + 1) + d * bp (j + 1)) := by
        refine ⟨⟨hR.out.1.bf.put (by omega) hb2, fun i hi => by rw [put_ne (by omega)]; exact hR.out.1.out i (by omega), grown_set hR.out.1.grown⟩, ?_⟩
        rw [from_put, S_put, bp_succ, S_succ]
        have e : from_ f o j = f (o + j) := rfl
        rw [e]
        have := hR.out.2
        generalize S (from_ f' o) j = A at *
        generalize S (from_ f o) j = C at *
        generalize t * S fb j = D at *
        generalize bp j = P at *
        have hb1' : s + y = f (o + j) + d * 18446744073709551616 := by omega
        generalize f (o + j) = z at *
        grind
      clear hBj ez hb1
      generalize f (o + j) = z at *
      have hd : Hid (decide (0 < d) = decide (d = 1)) := by unfold Hid; apply decide_eq_decide.2; omega
      go_wp2_with (rw [hsub])
      go_ret
      exact ⟨d, put f' (o + j) s, hb3, by rw [← hd.out]; rfl, NX.out.1, NX.out.2⟩
theorem subtractTimes_c (w0 : World) (g o m c K cb t : Nat) (ab : Option Addr) (f fb : Nat → Nat) (w : World) (hb : Rl w0 ab m fb) (hB : Below w0.heap.size w0 w) (hg : w0.heap.size ≤ g) (hf : Bf w g K f) (hK : o + m + 1 ≤ K) (hK2 : K ≤ 100000) (ht : t < 18446744073709551616) :
    Calls Tryz.prog 126 #[.slice (some ⟨g, o, none⟩) (m + 1) c, .slice ab m cb, .int .u64 t] w (SubTPost w g K o m f fb t) :=
  subtractTimes_g g o m c K cb t ab f fb w (hb.below hB) (apart_of hb hg) hf hK hK2 ht
end Go.Proofs.YtfldlcnlijljcaaGreatDoor
namespace Go.Proofs.YtfldlcnlijljcaaGreatDoor
open Go.RowKit

def AddToPost (w : World) (g K o m n : Nat) (f fb : Nat → Nat) (e : Ending) (w' : World) : Prop :=
  ∃ (x : Nat) (f' : Nat → Nat), e = .returned (.int .u64 (x : Int)) ∧ x ≤ 1 ∧ Wd w g K o m f f' w' ∧ S (from_ f' o) m + x * bp m = S (from_ f o) m + S fb n
theorem Wd.more {w w' : World} {g K o m m' : Nat} {f f' : Nat → Nat} (h : Wd w g K o m f f' w') (hm : m ≤ m') : Wd w g K o m' f f' w' := ⟨h.bf, fun j hj => h.out j (by omega), h.grown⟩
set_option maxRecDepth 100000 in
set_option maxHeartbeats 4000000 in
theorem addTo_g (g o m n c K cb : Nat) (ab : Option Addr) (f fb : Nat → Nat) (w : World) (hb : Rl w ab n fb) (hA : Apart ab n g) (hf : Bf w g K f) (hK : o + m ≤ K) (hK2 : K ≤ 100000) (hnm : n ≤ m) :
    Calls Tryz.prog 127 #[.slice (some ⟨g, o, none⟩) m c, .slice ab n cb] w (AddToPost w g K o m n f fb) := by
  have HRB := Lib.hid hb
  have HF := Lib.hid hf
  have HAP := Lib.hid hA
  clear hb hA hf
  go_enter Tryz.func127, Tryz.ntmps127
  go_wp2
  go_loopw [5, 11] (fun v i wr => ∃ (j y : Nat) (f' : Nat → Nat), j ≤ n ∧ i = .int .i64 j ∧ v = .int .u64 y ∧ y ≤ 1 ∧ Hid (Wd w g K o j f f' wr ∧ S (from_ f' o) j + y * bp j = S (from_ f o) j + S fb j)) (fun _ i _ => n - (intOf i).toNat)
  case atStart => exact ⟨0, 0, f, Nat.zero_le _, rfl, rfl, by omega, ⟨HF.out, fun _ _ => rfl, World.grownBy.refl _ _⟩, by simp only [S_zero]; omega⟩
  case round =>
    obtain ⟨j, y, f', hj, rfl, rfl, hy, hR⟩ := hrel
    by_cases hlt : j < n
    · have hlt' : (j : Int) < (n : Int) := by omega
      have hltm : (j : Int) < (m : Int) := by omega
      have hBw := HRB.out.grown hR.out.1.grown HAP.out
      obtain ⟨b, off, rfl, hbl, hc1⟩ := hBw.at_ hlt
      have hx := HRB.out.2.1 j hlt
      have hBj := hR.out.1.bf.2.2 (o + j) (by omega)
      have hz := hR.out.1.bf.2.1 (o + j) (by omega)
      have ez : f' (o + j) = f (o + j) := hR.out.1.out _ (.inr (by omega))
      have hc2 := hBj.1
      have hf2 := hBj.2
      rw [ez] at hc2 hz
      obtain ⟨s, d, hadd, ha1, ha2, ha3⟩ := adds (f (o + j)) (fb j) y rfl rfl rfl hz hx hy
      have NX : Hid (Wd w g K o (j + 1) f (put f' (o + j) s) (wr.setCell ⟨g, o + j, none⟩ (.int .u64 s)) ∧ S (from_ (put f' (o + j) s) o) (j + 1) + d * bp (j + 1) = S (from_ f o) (j + 1) + S fb (j + 1)) := by
        refine ⟨⟨hR.out.1.bf.put (by omega) ha2, fun i hi => by rw [put_ne (by omega)]; exact hR.out.1.out i (by omega), grown_set hR.out.1.grown⟩, ?_⟩
        rw [from_put, S_put, bp_succ, S_succ, S_succ]
        have e : from_ f o j = f (o + j) := rfl
        rw [e]
        exact step_add hR.out.2 (by omega)
      clear hBj ha1 ez hBw
      generalize fb j = x at *
      generalize f (o + j) = z at *
      go_wp2_with (rw [hadd])
      go_roundw
      case rel => exact ⟨j + 1, d, put f' (o + j) s, by omega, by go_num, rfl, ha3, NX.out⟩
      case measure => simp [intOf]; omega
    · obtain rfl : j = n := by omega
      clear hlt
      have HJ : Hid (Wd w g K o j f f' wr ∧ S (from_ f' o) j + y * bp j = S (from_ f o) j + S fb j) := hR.out
      clear hR
      go_wp2
      generalize hwr : wr = wr0 at *
      have HWR := Lib.hid hwr
      clear hwr
      go_loopw [5, 8] (fun v i wx => ∃ (p y : Nat) (f' : Nat → Nat), j ≤ p ∧ p ≤ m ∧ i = .int .i64 p ∧ v = .int .u64 y ∧ y ≤ 1 ∧ Hid (Wd w g K o p f f' wx ∧ S (from_ f' o) p + y * bp p = S (from_ f o) p + S fb j)) (fun _ i _ => m - (intOf i).toNat)
      case atStart => exact ⟨j, y, f', Nat.le_refl _, hnm, rfl, rfl, hy, HJ.out⟩
      case round =>
        clear HJ
        obtain ⟨p, y2, f2, hjp, hpm, rfl, rfl, hy2, hP⟩ := hrel
        rcases Nat.eq_zero_or_pos y2 with e | e
        · subst e
          go_wp2_with fail
          go_ret
          have hE : from_ f2 o = from_ f2 o := rfl
          refine ⟨0, f2, rfl, by omega, hP.out.1.more hpm, ?_⟩
          obtain ⟨d, rfl⟩ := Nat.exists_eq_add_of_le hpm
          rw [S_at (from_ f2 o) p d, S_at (from_ f o) p d, from_from, from_from]
          have e2 : S (from_ f2 (o + p)) d = S (from_ f (o + p)) d := S_congr (fun i hi => hP.out.1.out _ (.inr (by omega)))
          rw [e2]
          have := hP.out.2
          omega
        · obtain rfl : y2 = 1 := by omega
          by_cases hlt : p < m
          · have hltm : (p : Int) < (m : Int) := by omega
            have hBj := hP.out.1.bf.2.2 (o + p) (by omega)
            have hz := hP.out.1.bf.2.1 (o + p) (by omega)
            have ez : f2 (o + p) = f (o + p) := hP.out.1.out _ (.inr (by omega))
            have hc2 := hBj.1
            have hf2 := hBj.2
            rw [ez] at hc2 hz
            obtain ⟨s, d, hadd, ha1, ha2, ha3⟩ := adds (f (o + p)) 0 1 rfl (show (0 : Int) = ((0 : Nat) : Int) from rfl) (show (1 : Int) = ((1 : Nat) : Int) from rfl) hz (by omega) (by omega)
            have NX : Hid (Wd w g K o (p + 1) f (put f2 (o + p) s) (wr.setCell ⟨g, o + p, none⟩ (.int .u64 s)) ∧ S (from_ (put f2 (o + p) s) o) (p + 1) + d * bp (p + 1) = S (from_ f o) (p + 1) + S fb j) := by
              refine ⟨⟨hP.out.1.bf.put (by omega) ha2, fun i hi => by rw [put_ne (by omega)]; exact hP.out.1.out i (by omega), grown_set hP.out.1.grown⟩, ?_⟩
              rw [from_put, S_put, bp_succ, S_succ]
              have e : from_ f o p = f (o + p) := rfl
              rw [e]
              have t := step_add (x := f (o + p)) (y := 0) (s := s) (c' := d) hP.out.2 (by omega)
              rw [Nat.zero_mul, Nat.add_zero] at t
              exact t
            clear hBj ha1 ez
            generalize f (o + p) = z at *
            go_wp2_with (rw [hadd])
            go_roundw
            case rel => exact ⟨p + 1, d, put f2 (o + p) s, by omega, by omega, by go_num, rfl, ha3, NX.out⟩
            case measure => simp [intOf]; omega
          · obtain rfl : p = m := by omega
            go_wp2
            go_ret
            exact ⟨1, f2, rfl, by omega, hP.out.1, hP.out.2⟩
theorem addTo_c (w0 : World) (g o m n c K cb : Nat) (ab : Option Addr) (f fb : Nat → Nat) (w : World) (hb : Rl w0 ab n fb) (hB : Below w0.heap.size w0 w) (hg : w0.heap.size ≤ g) (hf : Bf w g K f) (hK : o + m ≤ K) (hK2 : K ≤ 100000) (hnm : n ≤ m) :
    Calls Tryz.prog 127 #[.slice (some ⟨g, o, none⟩) m c, .slice ab n cb] w (AddToPost w g K o m n f fb) :=
  addTo_g g o m n c K cb ab f fb w (hb.below hB) (apart_of hb hg) hf hK hK2 hnm
end Go.Proofs.YtfldlcnlijljcaaGreatDoor
namespace Go.Proofs.YtfldlcnlijljcaaGreatDoor
open Go.RowKit

theorem from_zero (f : Nat → Nat) : from_ f 0 = f := by funext j; unfold from_; rw [Nat.zero_add]
/-- A row over the beginning of another one. -/
def over_ (f f0 : Nat → Nat) (k : Nat) : Nat → Nat := fun j => if j < k then f j else f0 j
theorem S_over (f f0 : Nat → Nat) (k : Nat) : S (over_ f f0 k) k = S f k := S_congr (fun j hj => by unfold over_; rw [if_pos hj])
def lcells (f : Nat → Nat) (k : Nat) : List Value := (List.range k).map fun j => Value.int .u64 (f j : Int)
theorem lcells_at {f : Nat → Nat} {k j : Nat} (h : j < k) : (lcells f k)[j]? = some (.int .u64 (f j : Int)) := by unfold lcells; simp [h]
theorem size_set (b : Nat) : ∀ (vs : List Value) (o : Nat) (w : World), (w.setCells b o vs).heap.size = w.heap.size
  | [], _, _ => rfl
  | v :: vs, o, w => by
    show ((w.setCell ⟨b, o, none⟩ v).setCells b (o + 1) vs).heap.size = _
    rw [size_set b vs (o + 1)]; simp
theorem grown_sets (g : Nat) : ∀ (vs : List Value) (o : Nat) (w : World), w.grownBy (w.setCells g o vs) (some g)
  | [], _, w => World.grownBy.refl _ _
  | v :: vs, o, w => (grown_set (World.grownBy.refl w (some g))).trans (grown_sets g vs (o + 1) _)
theorem copy_limbs (W : World) (g K k c : Nat) (a : Option Addr) (f f0 : Nat → Nat) (ty : TypeId) (hb : Bf W g K f0) (hr : Rl W a k f) (hk : k ≤ K) :
    ∃ W', (Builtin.copy_ #[61, 61] ty #[.slice (some ⟨g, 0, none⟩) K K, .slice a k c]).run Tryz.prog W = .ok (goInt k) W' ∧ Bf W' g K (over_ f f0 k) ∧ W.grownBy W' (some g) := by
  have hsz : (Tryz.prog.info? 86).map (·.size) = some 1 := by
    have h := infoL
    cases e : Tryz.prog.info? 86 with
    | none => rw [e] at h; cases h
    | some i => rw [e] at h; simp at h; simp [h.2.1]
  rcases Nat.eq_zero_or_pos k with e | e
  · subst e
    exact ⟨W, run_copy_none W _ _ ty 86 _ _ _ _ _ _ Tryz.underlying61 hsz (Nat.zero_min _), hb.congr (fun j _ => by unfold over_; rw [if_neg (by omega)]), World.grownBy.refl _ _⟩
  · obtain ⟨b, off, rfl, hbl, hc⟩ := hr.2.2 e
    have hl : (lcells f k).length = k := by simp [lcells]
    have hin : ∀ j, j < (lcells f k).length → (W.cell? ⟨g, 0 + j, none⟩).isSome = true := fun j hj => by
      rw [Nat.zero_add, (hb.2.2 j (by omega)).1]; rfl
    have h := run_copy_cells (P := Tryz.prog) W 61 61 ty 86 g 0 K K ⟨b, off, none⟩ k c (lcells f k) Tryz.underlying61 hsz (by rw [hl]; exact (Nat.min_eq_left hk).symm) (fun j v hj => by
        have hjk : j < k := by
          have := (List.getElem?_eq_some_iff.1 hj).1; omega
        rw [lcells_at hjk] at hj
        cases hj
        have e2 : (Addr.mk b off none).add j = ⟨b, off + j, none⟩ := by
          unfold Addr.add
          split
          · rename_i h; subst h; rfl
          · rfl
        rw [e2]; exact hc j hjk) hin (fun j hj => by rw [Nat.zero_add]; exact (hb.2.2 j (by omega)).2) (fun v hv => by
        unfold lcells at hv
        obtain ⟨j, _, rfl⟩ := List.mem_map.1 hv
        rfl)
    rw [hl] at h
    refine ⟨_, h, ⟨by rw [size_set]; exact hb.1, fun j hj => ?_, fun j hj => ⟨?_, by rw [World.frozen?_setCells]; exact (hb.2.2 j hj).2⟩⟩, grown_sets _ _ _ _⟩
    · unfold over_
      split
      · next h => exact hr.2.1 j h
      · exact hb.2.1 j hj
    · by_cases hjk : j < k
      · have t := World.cell?_setCells_in g (lcells f k) 0 W hin j (by omega)
        rw [Nat.zero_add] at t
        rw [t]
        unfold over_
        rw [if_pos hjk, ← List.getElem?_eq_getElem, lcells_at hjk]
      · rw [World.cell?_setCells_out g (lcells f k) 0 W _ (fun _ _ => .inr (by rw [hl]; show 0 + k ≤ j; omega)), (hb.2.2 j hj).1]
        unfold over_
        rw [if_neg hjk]
end Go.Proofs.YtfldlcnlijljcaaGreatDoor
