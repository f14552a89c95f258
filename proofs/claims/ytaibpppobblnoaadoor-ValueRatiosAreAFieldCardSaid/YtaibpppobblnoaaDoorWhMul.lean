/-
  Numbers of any size: a row times a limb added to a row, and taken from one.
-/
import Derived.Test.YtaibpppobblnoaaDoorWhCmp
namespace Go.Proofs.YtaibpppobblnoaaDoor
open Go.RowKit

theorem from_put (f : Nat → Nat) (o j x : Nat) : from_ (put f (o + j) x) o = put (from_ f o) j x := by
  funext i
  unfold from_ put
  by_cases h : i = j
  · rw [if_pos (by omega), if_pos h]
  · rw [if_neg (by omega), if_neg h]
theorem grown_set {a w : World} {g i : Nat} {v : Value} (h : a.grownBy w (some g)) : a.grownBy (w.setCell ⟨g, i, none⟩ v) (some g) := by
  refine h.trans ⟨rfl, rfl, rfl, by simp, fun k hk hne => ?_⟩
  exact Below.heap_setCell _ _ _ _ (fun e => hne (by rw [e]))
theorem bel_grown {w0 w w' : World} {g : Nat} (hB : Below w0.heap.size w0 w) (hg : w0.heap.size ≤ g) (h : w.grownBy w' (some g)) : Below w0.heap.size w0 w' :=
  hB.grown h hB.size (fun k hk => by cases hk; exact hg)
/-- What a function that changes a window leaves: all else is as it was. -/
structure Wd (w : World) (g K o m : Nat) (f f' : Nat → Nat) (w' : World) : Prop where
  bf : Bf w' g K f'
  out : ∀ j, j < o ∨ o + m ≤ j → f' j = f j
  grown : w.grownBy w' (some g)
def AddTPost (w : World) (g K o m : Nat) (f fb : Nat → Nat) (t : Nat) (e : Ending) (w' : World) : Prop :=
  ∃ (x : Nat) (f' : Nat → Nat), e = .returned (.int .u64 (x : Int)) ∧ x < 18446744073709551616 ∧ Wd w g K o m f f' w' ∧ S (from_ f' o) m + x * bp m = S (from_ f o) m + t * S fb m
set_option maxRecDepth 100000 in
set_option maxHeartbeats 4000000 in
theorem addTimes_c (w0 : World) (g o m c K cb t : Nat) (ab : Option Addr) (f fb : Nat → Nat) (w : World) (hb : Rl w0 ab m fb) (hB : Below w0.heap.size w0 w) (hg : w0.heap.size ≤ g) (hf : Bf w g K f) (hK : o + m ≤ K) (hK2 : K ≤ 100000) (ht : t < 18446744073709551616) :
    Calls Tryd.prog 59 #[.slice (some ⟨g, o, none⟩) m c, .slice ab m cb, .int .u64 t] w (AddTPost w g K o m f fb t) := by
  have HRB := Lib.hid hb
  have HBW := Lib.hid hB
  have HF := Lib.hid hf
  have HG := Lib.hid hg
  clear hb hB hf hg
  go_enter Tryd.func59, Tryd.ntmps59
  go_wp2
  go_loopw [7, 15] (fun v i wr => ∃ (j y : Nat) (f' : Nat → Nat), j ≤ m ∧ i = .int .i64 j ∧ v = .int .u64 y ∧ y < 18446744073709551616 ∧ Hid (Wd w g K o j f f' wr ∧ S (from_ f' o) j + y * bp j = S (from_ f o) j + t * S fb j)) (fun _ i _ => m - (intOf i).toNat)
  case atStart => exact ⟨0, 0, f, Nat.zero_le _, rfl, rfl, by omega, ⟨HF.out, fun _ _ => rfl, World.grownBy.refl _ _⟩, by simp only [S_zero]; omega⟩
  case round =>
    obtain ⟨j, y, f', hj, rfl, rfl, hy, hR⟩ := hrel
    by_cases hlt : j < m
    · have hlt' : (j : Int) < (m : Int) := by omega
      have hBw := bel_grown HBW.out HG.out hR.out.1.grown
      obtain ⟨b, off, rfl, hbl, hc1⟩ := (HRB.out.below hBw).at_ hlt
      have hx := HRB.out.2.1 j hlt
      have hBj := hR.out.1.bf.2.2 (o + j) (by omega)
      have hz := hR.out.1.bf.2.1 (o + j) (by omega)
      have ez : f' (o + j) = f (o + j) := hR.out.1.out _ (.inr (by omega))
      have hc2 := hBj.1
      have hf2 := hBj.2
      rw [ez] at hc2 hz
      obtain ⟨hi, lo, hmul, hm1, hm2, hm3⟩ := muls (fb j) t hx ht
      have HMUL := Lib.hid hmul
      obtain ⟨s1, d1, hadd1, ha1, ha2, ha3⟩ := adds lo y 0 rfl rfl (show (0 : Int) = ((0 : Nat) : Int) from rfl) hm2 hy (by omega)
      obtain ⟨s2, d2, hadd2, hb1, hb2, hb3⟩ := adds (f (o + j)) s1 0 rfl rfl (show (0 : Int) = ((0 : Nat) : Int) from rfl) hz ha2 (by omega)
      have hbd : hi + d1 + d2 < 18446744073709551616 := by
        have a : fb j * t ≤ 18446744073709551615 * 18446744073709551615 := Nat.mul_le_mul (by omega) (by omega)
        omega
      have NX : Hid (Wd w g K o (j + 1) f (put f' (o + j) s2) (wr.setCell ⟨g, o + j, none⟩ (.int .u64 s2)) ∧ S (from_ (put f' (o + j) s2) o) (j + 1) + (hi + d1 + d2) * bp (j + 1) = S (from_ f o) (j + 1) + t * S fb (j + 1)) := by
        refine ⟨⟨hR.out.1.bf.put (by omega) hb2, fun i hi => by rw [put_ne (by omega)]; exact hR.out.1.out i (by omega), grown_set hR.out.1.grown⟩, ?_⟩
        rw [from_put, S_put, bp_succ, S_succ, S_succ]
        have e : from_ f o j = f (o + j) := rfl
        rw [e]
        exact step_addmul hR.out.2 (by omega)
      clear hBj hmul hm1 ha1 hb1 ez hBw
      generalize fb j = x at *
      generalize f (o + j) = z at *
      go_wp2_with (first | (go_at_call 46; refine (HMUL.out _).mono ?_; rintro e w' ⟨rfl, rfl⟩) | (rw [hadd1]) | (rw [hadd2]))
      go_roundw
      case rel => exact ⟨j + 1, hi + d1 + d2, put f' (o + j) s2, by omega, by go_num, by go_num, hbd, NX.out⟩
      case measure => simp [intOf]; omega
    · obtain rfl : j = m := by omega
      go_wp2
      go_ret
      exact ⟨y, f', rfl, hy, hR.out.1, hR.out.2⟩
def SubTPost (w : World) (g K o m : Nat) (f fb : Nat → Nat) (t : Nat) (e : Ending) (w' : World) : Prop :=
  ∃ (x : Nat) (f' : Nat → Nat), x ≤ 1 ∧ e = .returned (.bool (decide (x = 1))) ∧ Wd w g K o (m + 1) f f' w' ∧ S (from_ f' o) (m + 1) + t * S fb m = S (from_ f o) (m + 1) + x * bp (m + 1)
set_option maxRecDepth 100000 in
set_option maxHeartbeats 4000000 in
theorem subtractTimes_c (w0 : World) (g o m c K cb t : Nat) (ab : Option Addr) (f fb : Nat → Nat) (w : World) (hb : Rl w0 ab m fb) (hB : Below w0.heap.size w0 w) (hg : w0.heap.size ≤ g) (hf : Bf w g K f) (hK : o + m + 1 ≤ K) (hK2 : K ≤ 100000) (ht : t < 18446744073709551616) :
    Calls Tryd.prog 77 #[.slice (some ⟨g, o, none⟩) (m + 1) c, .slice ab m cb, .int .u64 t] w (SubTPost w g K o m f fb t) := by
  have HRB := Lib.hid hb
  have HBW := Lib.hid hB
  have HF := Lib.hid hf
  have HG := Lib.hid hg
  clear hb hB hf hg
  go_enter Tryd.func77, Tryd.ntmps77
  go_wp2
  go_loopw [7, 16] (fun v i wr => ∃ (j y : Nat) (f' : Nat → Nat), j ≤ m ∧ i = .int .i64 j ∧ v = .int .u64 y ∧ y < 18446744073709551616 ∧ Hid (Wd w g K o j f f' wr ∧ S (from_ f' o) j + t * S fb j = S (from_ f o) j + y * bp j)) (fun _ i _ => m - (intOf i).toNat)
  case atStart => exact ⟨0, 0, f, Nat.zero_le _, rfl, rfl, by omega, ⟨HF.out, fun _ _ => rfl, World.grownBy.refl _ _⟩, by simp only [S_zero]; omega⟩
  case round =>
    obtain ⟨j, y, f', hj, rfl, rfl, hy, hR⟩ := hrel
    have hBj := hR.out.1.bf.2.2 (o + j) (by omega)
    have hz := hR.out.1.bf.2.1 (o + j) (by omega)
    have ez : f' (o + j) = f (o + j) := hR.out.1.out _ (.inr (by omega))
    have hc2 := hBj.1
    have hf2 := hBj.2
    rw [ez] at hc2 hz
    by_cases hlt : j < m
    · have hlt' : (j : Int) < (m : Int) := by omega
      have hBw := bel_grown HBW.out HG.out hR.out.1.grown
      obtain ⟨b, off, rfl, hbl, hc1⟩ := (HRB.out.below hBw).at_ hlt
      have hx := HRB.out.2.1 j hlt
      obtain ⟨hi, lo, hmul, hm1, hm2, hm3⟩ := muls (fb j) t hx ht
      have HMUL := Lib.hid hmul
      obtain ⟨s1, d1, hadd1, ha1, ha2, ha3⟩ := adds lo y 0 rfl rfl (show (0 : Int) = ((0 : Nat) : Int) from rfl) hm2 hy (by omega)
      obtain ⟨s2, d2, hsub2, hb1, hb2, hb3⟩ := subs (f (o + j)) s1 0 rfl rfl (show (0 : Int) = ((0 : Nat) : Int) from rfl) hz ha2 (by omega)
      have hbd : hi + d1 + d2 < 18446744073709551616 := by
        have a : fb j * t ≤ 18446744073709551615 * 18446744073709551615 := Nat.mul_le_mul (by omega) (by omega)
        omega
      have NX : Hid (Wd w g K o (j + 1) f (put f' (o + j) s2) (wr.setCell ⟨g, o + j, none⟩ (.int .u64 s2)) ∧ S (from_ (put f' (o + j) s2) o) (j + 1) + t * S fb (j + 1) = S (from_ f o) (j + 1) + (hi + d1 + d2) * bp (j + 1)) := by
        refine ⟨⟨hR.out.1.bf.put (by omega) hb2, fun i hi => by rw [put_ne (by omega)]; exact hR.out.1.out i (by omega), grown_set hR.out.1.grown⟩, ?_⟩
        rw [from_put, S_put, bp_succ, S_succ, S_succ]
        have e : from_ f o j = f (o + j) := rfl
        rw [e]
        exact step_submul hR.out.2 (by omega)
      clear hBj hmul hm1 ha1 hb1 ez hBw
      generalize fb j = x at *
      generalize f (o + j) = z at *
      go_wp2_with (first | (go_at_call 46; refine (HMUL.out _).mono ?_; rintro e w' ⟨rfl, rfl⟩) | (rw [hadd1]) | (rw [hsub2]))
      go_roundw
      case rel => exact ⟨j + 1, hi + d1 + d2, put f' (o + j) s2, by omega, by go_num, by go_num, hbd, NX.out⟩
      case measure => simp [intOf]; omega
    · obtain rfl : j = m := by omega
      obtain ⟨s, d, hsub, hb1, hb2, hb3⟩ := subs (f (o + j)) y 0 rfl rfl (show (0 : Int) = ((0 : Nat) : Int) from rfl) hz hy (by omega)
      have NX : Hid (Wd w g K o (j + 1) f (put f' (o + j) s) (wr.setCell ⟨g, o + j, none⟩ (.int .u64 s)) ∧ S (from_ (put f' (o + j) s) o) (j + 1) + t * S fb j = S (from_ f o) (j + 1) + d * bp (j + 1)) := by
        refine ⟨⟨hR.out.1.bf.put (by omega) hb2, fun i hi => by rw [put_ne (by omega)]; exact hR.out.1.out i (by omega), grown_set hR.out.1.grown⟩, ?_⟩
        rw [from_put, S_put, bp_succ, S_succ]
        have e : from_ f o j = f (o + j) := rfl
        rw [e]
        have := hR.out.2
        generalize S (from_ f' o) j = A at *
        generalize S (from_ f o) j = C at *
        generalize t * S fb j = D at *
        generalize bp j = P at *
        have hb1' : s + y = f (o + j) + d * 18446744073709551616 := by omega
        generalize f (o + j) = z at *
        grind
      clear hBj ez hb1
      generalize f (o + j) = z at *
      have hd : Hid (decide (0 < d) = decide (d = 1)) := by unfold Hid; apply decide_eq_decide.2; omega
      go_wp2_with (rw [hsub])
      go_ret
      exact ⟨d, put f' (o + j) s, hb3, by rw [← hd.out]; rfl, NX.out.1, NX.out.2⟩
end Go.Proofs.YtaibpppobblnoaaDoor
