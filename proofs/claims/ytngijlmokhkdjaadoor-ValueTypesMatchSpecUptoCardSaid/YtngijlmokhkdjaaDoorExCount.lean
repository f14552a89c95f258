/-
  countParts of the reference: the parts of an expression, and how many of them are within one another.
-/
import Derived.Test.YtngijlmokhkdjaaDoorExMath
namespace Go.Proofs.YtngijlmokhkdjaaDoor
open Go.RowKit

def CountC (w0 : World) (h : Hd) (xs : Fo) : Prop :=
  ∀ (v : Value) (w : World), IsX w0 h xs v → Below w0.heap.size w0 w →
    Calls Tryd.prog 24 #[v] w fun e w' => e = .returned (.tuple #[.int .i64 (xs.parts + 1), .int .i64 (xs.levels + 1)]) ∧ Below w0.heap.size w0 w'

set_option maxHeartbeats 2000000 in
theorem count_step (w0 : World) (h : Hd) (xs : Fo) (hlen : xs.parts ≤ 1048576) (ih : ∀ k h' a', xs.drop k = .cons h' a' (xs.drop (k + 1)) → CountC w0 h' a') : CountC w0 h xs := by
  intro v w hx hb
  obtain ⟨sv, a, n, c, rfl, hL, rfl, hs⟩ := hx
  have IH := Lib.hid ih; clear ih
  have HS := Lib.hid hs; clear hs
  obtain ⟨p, m, q, rfl⟩ := hL.form
  clear hL
  have hll := xs.len_le_parts
  have ST := Lib.hid (hb.alloc hb.size (.cells #[.int .i64 h.k, .int .i64 h.o, .string h.nm, .int .i64 h.vk, .int .i64 h.vn, .string h.vs, .slice p m q, .slice a xs.len c] 27))
  clear hb
  go_enter Tryd.func24, Tryd.ntmps24
  go_wp2_with fail
  generalize w.alloc (.cells #[.int .i64 h.k, .int .i64 h.o, .string h.nm, .int .i64 h.vk, .int .i64 h.vn, .string h.vs, .slice p m q, .slice a xs.len c] 27) = wS at ST
  have hp0 : Hid (1 + (xs.drop 0).parts = xs.parts + 1) := by unfold Hid; simp only [Fo.drop]; omega
  have hl0 : Hid (max 0 (xs.drop 0).levels = xs.levels) := by unfold Hid; simp only [Fo.drop]; omega
  go_loopw [4, 5, 7, 8, 9, 13] (fun pa le _ _ _ i wr => ∃ (k P lv : Nat), k ≤ xs.len ∧ i = .int .i64 k ∧ pa = .int .i64 P ∧ le = .int .i64 lv ∧ Hid (Below w0.heap.size w0 wr) ∧ Hid (P + (xs.drop k).parts = xs.parts + 1) ∧ Hid (max lv (xs.drop k).levels = xs.levels)) (fun _ _ _ _ _ i _ => xs.len - (intOf i).toNat)
  case atStart => exact ⟨0, 1, 0, Nat.zero_le _, rfl, rfl, rfl, ST.out, hp0, hl0⟩
  case round =>
    obtain ⟨k, P, lv, hk, rfl, rfl, rfl, hR, hPk, hLk⟩ := hrel
    clear hp0 hl0 ST
    by_cases hlt' : k < xs.len
    · have hkk : (k : Int) < (xs.len : Int) := by omega
      obtain ⟨b, off, rfl, hbl, hF⟩ : ∃ b off, a = some ⟨b, off, none⟩ ∧ b < w0.heap.size ∧ IsF w0 b xs off := by
        rcases HS.out with h | h
        · omega
        · exact h
      obtain ⟨h', a', hd⟩ := Fo.drop_at k xs hlt'
      obtain ⟨sp, sm, sq, p', n', c', g0, g1, g2, g3, g4, g5, g6, g7, hX⟩ := hF.cells hd
      have cc := fun (o : Nat) => hR.out.cell (p := ⟨b, o, none⟩) hbl
      have k0 := (cc _).trans g0
      have k1 := (cc _).trans g1
      have k2 := (cc _).trans g2
      have k3 := (cc _).trans g3
      have k4 := (cc _).trans g4
      have k5 := (cc _).trans g5
      have k6 := (cc _).trans g6
      have k7 := (cc _).trans g7
      have HX := Lib.hid hX
      have HD := Lib.hid hd
      clear g0 g1 g2 g3 g4 g5 g6 g7 hX hd cc hF
      go_wp2_with fail
      refine (IH.out k h' a' HD.out _ _ HX.out (hR.out.alloc hR.out.size _)).mono ?_
      rintro e w4 ⟨rfl, hB⟩
      have hp := Fo.parts_drop HD.out
      have hv := Fo.levels_drop HD.out
      have hsub := Fo.parts_sub HD.out
      have hlev := a'.levels_le_parts
      have hPk' := hPk.out
      have hLk' := hLk.out
      have f1 : Hid ((P + (a'.parts + 1)) + (xs.drop (k + 1)).parts = xs.parts + 1) := by unfold Hid; omega
      have f2 : Hid (max (max lv (a'.levels + 1)) (xs.drop (k + 1)).levels = xs.levels) := by unfold Hid; omega
      have b1 : P ≤ 1048577 := by omega
      have b2 : a'.parts ≤ 1048577 := by omega
      have b3 : a'.levels ≤ 1048577 := by omega
      have b4 : xs.levels ≤ 1048577 := Nat.le_trans xs.levels_le_parts (by omega)
      have b5 : lv ≤ 1048577 := by omega
      have HBB := Lib.hid hB
      clear hp hv hsub hlev hPk' hLk' hB
      rcases Nat.le_total lv (a'.levels + 1) with hm | hm
      · rw [Nat.max_eq_right hm] at f2
        have m1 : (lv : Int) ≤ (a'.levels : Int) + 1 := by omega
        go_wp2
        go_roundw
        case rel => exact ⟨k + 1, P + (a'.parts + 1), a'.levels + 1, by omega, by go_num, by go_num, by go_num, HBB.out, f1.out, f2.out⟩
        case measure => simp [intOf]; omega
      · rw [Nat.max_eq_left hm] at f2
        have m1 : (a'.levels : Int) + 1 ≤ (lv : Int) := by omega
        go_wp2
        go_roundw
        case rel => exact ⟨k + 1, P + (a'.parts + 1), lv, by omega, by go_num, by go_num, by go_num, HBB.out, f1.out, f2.out⟩
        case measure => simp [intOf]; omega
    · obtain rfl : k = xs.len := by omega
      have hz := Fo.drop_end (xs := xs) rfl
      have e1 : Hid (P = xs.parts + 1) := by
        have := hPk.out; rw [hz] at this; simp only [Fo.parts] at this; exact this
      have e2 : Hid (lv = xs.levels) := by
        have := hLk.out; rw [hz] at this; simp only [Fo.levels] at this; unfold Hid; omega
      have b4 : xs.levels ≤ 1048577 := Nat.le_trans xs.levels_le_parts (by omega)
      have b5 : lv ≤ 1048577 := by rw [e2.out]; exact b4
      go_wp2
      go_ret2
      exact ⟨by rw [e1.out, e2.out]; simp, hR.out⟩
theorem count_c (w0 : World) (h : Hd) (xs : Fo) : xs.parts ≤ 1048576 → CountC w0 h xs :=
  forest_ind (fun h xs => xs.parts ≤ 1048576 → CountC w0 h xs) (fun h a ih hp => count_step w0 h a hp (fun k h' a' hd => ih k h' a' hd (by have := Fo.parts_sub hd; omega))) h xs
end Go.Proofs.YtngijlmokhkdjaaDoor
