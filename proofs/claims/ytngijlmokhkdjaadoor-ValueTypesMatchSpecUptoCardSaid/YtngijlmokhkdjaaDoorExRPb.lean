/-
  partForm of the reference, case by case (made by a program).
-/
import Derived.Test.YtngijlmokhkdjaaDoorExSpec
import Derived.Test.YtngijlmokhkdjaaDoorExRName
import Derived.Test.YtngijlmokhkdjaaDoorTxtRefChkB
namespace Go.Proofs.YtngijlmokhkdjaaDoor
open Go.RowKit

set_option maxRecDepth 100000 in
set_option maxHeartbeats 2000000 in
theorem rpart_i2t (h : Hd) (xs : Fo) (p : Option Addr) (q : Nat) (a : Option Addr) (c : Nat) (w : World) (ho : h.o = 0) (hn : xs.len = 0) (hz : zeroS h.vk h.vn h.vs h.vl.length = true) (hi : nameS h.nm = true) (hE : Env w) :
    Calls Tryd.prog 48 #[.agg #[.int .i64 2, .int .i64 h.o, .string h.nm, .int .i64 h.vk, .int .i64 h.vn, .string h.vs, .slice p h.vl.length q, .slice a xs.len c]] w fun e w' => e = .returned (.int .i64 (0)) ∧ Below w.heap.size w w' := by
  have B0 : Hid (Below w.heap.size w (w.alloc (.cells #[.int .i64 2, .int .i64 h.o, .string h.nm, .int .i64 h.vk, .int .i64 h.vn, .string h.vs, .slice p h.vl.length q, .slice a xs.len c] 27))) := (Below.refl _ _).alloc (Nat.le_refl _) _
  have hW1 := Lib.hid (fun w => within_y 2 1 5 w (by omega) (by omega))
  have o1 : (h.o != 0) = false := by simp [ho]
  have o2 : (h.o == 0) = true := by simp [ho]
  clear ho
  have n1 : decide (0 < xs.len) = false := by simp; omega
  clear hn
  have hZ := Lib.hid (fun w => by have := rZero_c h.vk h.vn h.vs p h.vl.length q w; rw [hz] at this; exact this); clear hz
  have HE := Lib.hid hE; clear hE
  have hI := Lib.hid (fun w (hE : Env w) => by have := rIsName_c h.nm w hE; rw [hi] at this; exact this); clear hi
  go_enter Tryd.func48, Tryd.ntmps48
  go_wp2_with fail
  refine (hW1.out _).mono ?_
  rintro e w1 ⟨rfl, rfl⟩
  go_wp2_with fail
  refine (hZ.out _).mono ?_
  rintro e w2 ⟨rfl, hB⟩
  have B2 := Lib.hid (B0.out.trans (hB.mono (by simp)))
  have zz2 : w.heap.size < w2.heap.size := by have := hB.size; simp at this; omega
  obtain ⟨bc2, bf2⟩ := bcell hB
  clear hB
  go_wp2_with fail
  refine (hI.out _ (HE.out.below B2.out)).mono ?_
  rintro e w3 ⟨rfl, hB⟩
  have B3 := Lib.hid (B2.out.trans (hB.mono B2.out.size))
  have zz3 : w.heap.size < w3.heap.size := by have := hB.size; omega
  obtain ⟨bc3, bf3⟩ := bcell hB
  clear hB
  go_wp2
  go_ret
  exact ⟨rfl, B3.out⟩
set_option maxRecDepth 100000 in
set_option maxHeartbeats 2000000 in
theorem rpart_z3 (h : Hd) (xs : Fo) (p : Option Addr) (q : Nat) (a : Option Addr) (c : Nat) (w : World) (ho : h.o = 0) (hn : xs.len = 0) (hz : zeroS h.vk h.vn h.vs h.vl.length = false) :
    Calls Tryd.prog 48 #[.agg #[.int .i64 3, .int .i64 h.o, .string h.nm, .int .i64 h.vk, .int .i64 h.vn, .string h.vs, .slice p h.vl.length q, .slice a xs.len c]] w fun e w' => e = .returned (.int .i64 (3)) ∧ Below w.heap.size w w' := by
  have B0 : Hid (Below w.heap.size w (w.alloc (.cells #[.int .i64 3, .int .i64 h.o, .string h.nm, .int .i64 h.vk, .int .i64 h.vn, .string h.vs, .slice p h.vl.length q, .slice a xs.len c] 27))) := (Below.refl _ _).alloc (Nat.le_refl _) _
  have hW1 := Lib.hid (fun w => within_y 3 1 5 w (by omega) (by omega))
  have o1 : (h.o != 0) = false := by simp [ho]
  have o2 : (h.o == 0) = true := by simp [ho]
  clear ho
  have n1 : decide (0 < xs.len) = false := by simp; omega
  clear hn
  have hZ := Lib.hid (fun w => by have := rZero_c h.vk h.vn h.vs p h.vl.length q w; rw [hz] at this; exact this); clear hz
  go_enter Tryd.func48, Tryd.ntmps48
  go_wp2_with fail
  refine (hW1.out _).mono ?_
  rintro e w1 ⟨rfl, rfl⟩
  go_wp2_with fail
  refine (hZ.out _).mono ?_
  rintro e w2 ⟨rfl, hB⟩
  have B2 := Lib.hid (B0.out.trans (hB.mono (by simp)))
  have zz2 : w.heap.size < w2.heap.size := by have := hB.size; simp at this; omega
  obtain ⟨bc2, bf2⟩ := bcell hB
  clear hB
  go_wp2
  go_ret
  exact ⟨rfl, B2.out⟩
set_option maxRecDepth 100000 in
set_option maxHeartbeats 2000000 in
theorem rpart_i3f (h : Hd) (xs : Fo) (p : Option Addr) (q : Nat) (a : Option Addr) (c : Nat) (w : World) (ho : h.o = 0) (hn : xs.len = 0) (hz : zeroS h.vk h.vn h.vs h.vl.length = true) (hi : nameS h.nm = false) (hE : Env w) :
    Calls Tryd.prog 48 #[.agg #[.int .i64 3, .int .i64 h.o, .string h.nm, .int .i64 h.vk, .int .i64 h.vn, .string h.vs, .slice p h.vl.length q, .slice a xs.len c]] w fun e w' => e = .returned (.int .i64 (5)) ∧ Below w.heap.size w w' := by
  have B0 : Hid (Below w.heap.size w (w.alloc (.cells #[.int .i64 3, .int .i64 h.o, .string h.nm, .int .i64 h.vk, .int .i64 h.vn, .string h.vs, .slice p h.vl.length q, .slice a xs.len c] 27))) := (Below.refl _ _).alloc (Nat.le_refl _) _
  have hW1 := Lib.hid (fun w => within_y 3 1 5 w (by omega) (by omega))
  have o1 : (h.o != 0) = false := by simp [ho]
  have o2 : (h.o == 0) = true := by simp [ho]
  clear ho
  have n1 : decide (0 < xs.len) = false := by simp; omega
  clear hn
  have hZ := Lib.hid (fun w => by have := rZero_c h.vk h.vn h.vs p h.vl.length q w; rw [hz] at this; exact this); clear hz
  have HE := Lib.hid hE; clear hE
  have hI := Lib.hid (fun w (hE : Env w) => by have := rIsName_c h.nm w hE; rw [hi] at this; exact this); clear hi
  go_enter Tryd.func48, Tryd.ntmps48
  go_wp2_with fail
  refine (hW1.out _).mono ?_
  rintro e w1 ⟨rfl, rfl⟩
  go_wp2_with fail
  refine (hZ.out _).mono ?_
  rintro e w2 ⟨rfl, hB⟩
  have B2 := Lib.hid (B0.out.trans (hB.mono (by simp)))
  have zz2 : w.heap.size < w2.heap.size := by have := hB.size; simp at this; omega
  obtain ⟨bc2, bf2⟩ := bcell hB
  clear hB
  go_wp2_with fail
  refine (hI.out _ (HE.out.below B2.out)).mono ?_
  rintro e w3 ⟨rfl, hB⟩
  have B3 := Lib.hid (B2.out.trans (hB.mono B2.out.size))
  clear hB
  go_wp2
  go_ret
  exact ⟨rfl, B3.out⟩
set_option maxRecDepth 100000 in
set_option maxHeartbeats 2000000 in
theorem rpart_i3t (h : Hd) (xs : Fo) (p : Option Addr) (q : Nat) (a : Option Addr) (c : Nat) (w : World) (ho : h.o = 0) (hn : xs.len = 0) (hz : zeroS h.vk h.vn h.vs h.vl.length = true) (hi : nameS h.nm = true) (hE : Env w) :
    Calls Tryd.prog 48 #[.agg #[.int .i64 3, .int .i64 h.o, .string h.nm, .int .i64 h.vk, .int .i64 h.vn, .string h.vs, .slice p h.vl.length q, .slice a xs.len c]] w fun e w' => e = .returned (.int .i64 (0)) ∧ Below w.heap.size w w' := by
  have B0 : Hid (Below w.heap.size w (w.alloc (.cells #[.int .i64 3, .int .i64 h.o, .string h.nm, .int .i64 h.vk, .int .i64 h.vn, .string h.vs, .slice p h.vl.length q, .slice a xs.len c] 27))) := (Below.refl _ _).alloc (Nat.le_refl _) _
  have hW1 := Lib.hid (fun w => within_y 3 1 5 w (by omega) (by omega))
  have o1 : (h.o != 0) = false := by simp [ho]
  have o2 : (h.o == 0) = true := by simp [ho]
  clear ho
  have n1 : decide (0 < xs.len) = false := by simp; omega
  clear hn
  have hZ := Lib.hid (fun w => by have := rZero_c h.vk h.vn h.vs p h.vl.length q w; rw [hz] at this; exact this); clear hz
  have HE := Lib.hid hE; clear hE
  have hI := Lib.hid (fun w (hE : Env w) => by have := rIsName_c h.nm w hE; rw [hi] at this; exact this); clear hi
  go_enter Tryd.func48, Tryd.ntmps48
  go_wp2_with fail
  refine (hW1.out _).mono ?_
  rintro e w1 ⟨rfl, rfl⟩
  go_wp2_with fail
  refine (hZ.out _).mono ?_
  rintro e w2 ⟨rfl, hB⟩
  have B2 := Lib.hid (B0.out.trans (hB.mono (by simp)))
  have zz2 : w.heap.size < w2.heap.size := by have := hB.size; simp at this; omega
  obtain ⟨bc2, bf2⟩ := bcell hB
  clear hB
  go_wp2_with fail
  refine (hI.out _ (HE.out.below B2.out)).mono ?_
  rintro e w3 ⟨rfl, hB⟩
  have B3 := Lib.hid (B2.out.trans (hB.mono B2.out.size))
  have zz3 : w.heap.size < w3.heap.size := by have := hB.size; omega
  obtain ⟨bc3, bf3⟩ := bcell hB
  clear hB
  go_wp2
  go_ret
  exact ⟨rfl, B3.out⟩
set_option maxRecDepth 100000 in
set_option maxHeartbeats 2000000 in
theorem rpart_z5 (h : Hd) (xs : Fo) (p : Option Addr) (q : Nat) (a : Option Addr) (c : Nat) (w : World) (hol : 1 ≤ h.o) (hoh : h.o ≤ 6) (hz : zeroS h.vk h.vn h.vs h.vl.length = false) :
    Calls Tryd.prog 48 #[.agg #[.int .i64 5, .int .i64 h.o, .string h.nm, .int .i64 h.vk, .int .i64 h.vn, .string h.vs, .slice p h.vl.length q, .slice a xs.len c]] w fun e w' => e = .returned (.int .i64 (3)) ∧ Below w.heap.size w w' := by
  have B0 : Hid (Below w.heap.size w (w.alloc (.cells #[.int .i64 5, .int .i64 h.o, .string h.nm, .int .i64 h.vk, .int .i64 h.vn, .string h.vs, .slice p h.vl.length q, .slice a xs.len c] 27))) := (Below.refl _ _).alloc (Nat.le_refl _) _
  have hW1 := Lib.hid (fun w => within_y 5 1 5 w (by omega) (by omega))
  have hW2 := Lib.hid (fun w => within_y h.o 1 6 w (by omega) (by omega))
  clear hol hoh
  have hZ := Lib.hid (fun w => by have := rZero_c h.vk h.vn h.vs p h.vl.length q w; rw [hz] at this; exact this); clear hz
  go_enter Tryd.func48, Tryd.ntmps48
  go_wp2_with fail
  refine (hW1.out _).mono ?_
  rintro e w1 ⟨rfl, rfl⟩
  go_wp2_with fail
  refine (hW2.out _).mono ?_
  rintro e w2 ⟨rfl, rfl⟩
  go_wp2_with fail
  refine (hZ.out _).mono ?_
  rintro e w3 ⟨rfl, hB⟩
  have B3 := Lib.hid (B0.out.trans (hB.mono (by simp)))
  have zz3 : w.heap.size < w3.heap.size := by have := hB.size; simp at this; omega
  obtain ⟨bc3, bf3⟩ := bcell hB
  clear hB
  go_wp2
  go_ret
  exact ⟨rfl, B3.out⟩
set_option maxRecDepth 100000 in
set_option maxHeartbeats 2000000 in
theorem rpart_n5 (h : Hd) (xs : Fo) (p : Option Addr) (q : Nat) (a : Option Addr) (c : Nat) (w : World) (hol : 1 ≤ h.o) (hoh : h.o ≤ 6) (hz : zeroS h.vk h.vn h.vs h.vl.length = true) (hn : xs.len ≠ 1) :
    Calls Tryd.prog 48 #[.agg #[.int .i64 5, .int .i64 h.o, .string h.nm, .int .i64 h.vk, .int .i64 h.vn, .string h.vs, .slice p h.vl.length q, .slice a xs.len c]] w fun e w' => e = .returned (.int .i64 (3)) ∧ Below w.heap.size w w' := by
  have B0 : Hid (Below w.heap.size w (w.alloc (.cells #[.int .i64 5, .int .i64 h.o, .string h.nm, .int .i64 h.vk, .int .i64 h.vn, .string h.vs, .slice p h.vl.length q, .slice a xs.len c] 27))) := (Below.refl _ _).alloc (Nat.le_refl _) _
  have hW1 := Lib.hid (fun w => within_y 5 1 5 w (by omega) (by omega))
  have hW2 := Lib.hid (fun w => within_y h.o 1 6 w (by omega) (by omega))
  clear hol hoh
  have hZ := Lib.hid (fun w => by have := rZero_c h.vk h.vn h.vs p h.vl.length q w; rw [hz] at this; exact this); clear hz
  have n1 : ((xs.len : Int) != 1) = true := by simp; omega
  have n2 : ((xs.len : Int) == 1) = false := by rw [beq_eq_false_iff_ne]; omega
  clear hn
  go_enter Tryd.func48, Tryd.ntmps48
  go_wp2_with fail
  refine (hW1.out _).mono ?_
  rintro e w1 ⟨rfl, rfl⟩
  go_wp2_with fail
  refine (hW2.out _).mono ?_
  rintro e w2 ⟨rfl, rfl⟩
  go_wp2_with fail
  refine (hZ.out _).mono ?_
  rintro e w3 ⟨rfl, hB⟩
  have B3 := Lib.hid (B0.out.trans (hB.mono (by simp)))
  have zz3 : w.heap.size < w3.heap.size := by have := hB.size; simp at this; omega
  obtain ⟨bc3, bf3⟩ := bcell hB
  clear hB
  go_wp2
  go_ret
  exact ⟨rfl, B3.out⟩
set_option maxRecDepth 100000 in
set_option maxHeartbeats 2000000 in
theorem rpart_i5f (h : Hd) (xs : Fo) (p : Option Addr) (q : Nat) (a : Option Addr) (c : Nat) (w : World) (hol : 1 ≤ h.o) (hoh : h.o ≤ 6) (hz : zeroS h.vk h.vn h.vs h.vl.length = true) (hn : xs.len = 1) (hi : nameS h.nm = false) (hE : Env w) :
    Calls Tryd.prog 48 #[.agg #[.int .i64 5, .int .i64 h.o, .string h.nm, .int .i64 h.vk, .int .i64 h.vn, .string h.vs, .slice p h.vl.length q, .slice a xs.len c]] w fun e w' => e = .returned (.int .i64 (5)) ∧ Below w.heap.size w w' := by
  have B0 : Hid (Below w.heap.size w (w.alloc (.cells #[.int .i64 5, .int .i64 h.o, .string h.nm, .int .i64 h.vk, .int .i64 h.vn, .string h.vs, .slice p h.vl.length q, .slice a xs.len c] 27))) := (Below.refl _ _).alloc (Nat.le_refl _) _
  have hW1 := Lib.hid (fun w => within_y 5 1 5 w (by omega) (by omega))
  have hW2 := Lib.hid (fun w => within_y h.o 1 6 w (by omega) (by omega))
  clear hol hoh
  have hZ := Lib.hid (fun w => by have := rZero_c h.vk h.vn h.vs p h.vl.length q w; rw [hz] at this; exact this); clear hz
  have n1 : ((xs.len : Int) != 1) = false := by simp [hn]
  have n2 : ((xs.len : Int) == 1) = true := by simp [hn]
  clear hn
  have HE := Lib.hid hE; clear hE
  have hI := Lib.hid (fun w (hE : Env w) => by have := rIsName_c h.nm w hE; rw [hi] at this; exact this); clear hi
  go_enter Tryd.func48, Tryd.ntmps48
  go_wp2_with fail
  refine (hW1.out _).mono ?_
  rintro e w1 ⟨rfl, rfl⟩
  go_wp2_with fail
  refine (hW2.out _).mono ?_
  rintro e w2 ⟨rfl, rfl⟩
  go_wp2_with fail
  refine (hZ.out _).mono ?_
  rintro e w3 ⟨rfl, hB⟩
  have B3 := Lib.hid (B0.out.trans (hB.mono (by simp)))
  have zz3 : w.heap.size < w3.heap.size := by have := hB.size; simp at this; omega
  obtain ⟨bc3, bf3⟩ := bcell hB
  clear hB
  go_wp2_with fail
  refine (hI.out _ (HE.out.below B3.out)).mono ?_
  rintro e w4 ⟨rfl, hB⟩
  have B4 := Lib.hid (B3.out.trans (hB.mono B3.out.size))
  clear hB
  go_wp2
  go_ret
  exact ⟨rfl, B4.out⟩
set_option maxRecDepth 100000 in
set_option maxHeartbeats 2000000 in
theorem rpart_i5t (h : Hd) (xs : Fo) (p : Option Addr) (q : Nat) (a : Option Addr) (c : Nat) (w : World) (hol : 1 ≤ h.o) (hoh : h.o ≤ 6) (hz : zeroS h.vk h.vn h.vs h.vl.length = true) (hn : xs.len = 1) (hi : nameS h.nm = true) (hE : Env w) :
    Calls Tryd.prog 48 #[.agg #[.int .i64 5, .int .i64 h.o, .string h.nm, .int .i64 h.vk, .int .i64 h.vn, .string h.vs, .slice p h.vl.length q, .slice a xs.len c]] w fun e w' => e = .returned (.int .i64 (0)) ∧ Below w.heap.size w w' := by
  have B0 : Hid (Below w.heap.size w (w.alloc (.cells #[.int .i64 5, .int .i64 h.o, .string h.nm, .int .i64 h.vk, .int .i64 h.vn, .string h.vs, .slice p h.vl.length q, .slice a xs.len c] 27))) := (Below.refl _ _).alloc (Nat.le_refl _) _
  have hW1 := Lib.hid (fun w => within_y 5 1 5 w (by omega) (by omega))
  have hW2 := Lib.hid (fun w => within_y h.o 1 6 w (by omega) (by omega))
  clear hol hoh
  have hZ := Lib.hid (fun w => by have := rZero_c h.vk h.vn h.vs p h.vl.length q w; rw [hz] at this; exact this); clear hz
  have n1 : ((xs.len : Int) != 1) = false := by simp [hn]
  have n2 : ((xs.len : Int) == 1) = true := by simp [hn]
  clear hn
  have HE := Lib.hid hE; clear hE
  have hI := Lib.hid (fun w (hE : Env w) => by have := rIsName_c h.nm w hE; rw [hi] at this; exact this); clear hi
  go_enter Tryd.func48, Tryd.ntmps48
  go_wp2_with fail
  refine (hW1.out _).mono ?_
  rintro e w1 ⟨rfl, rfl⟩
  go_wp2_with fail
  refine (hW2.out _).mono ?_
  rintro e w2 ⟨rfl, rfl⟩
  go_wp2_with fail
  refine (hZ.out _).mono ?_
  rintro e w3 ⟨rfl, hB⟩
  have B3 := Lib.hid (B0.out.trans (hB.mono (by simp)))
  have zz3 : w.heap.size < w3.heap.size := by have := hB.size; simp at this; omega
  obtain ⟨bc3, bf3⟩ := bcell hB
  clear hB
  go_wp2_with fail
  refine (hI.out _ (HE.out.below B3.out)).mono ?_
  rintro e w4 ⟨rfl, hB⟩
  have B4 := Lib.hid (B3.out.trans (hB.mono B3.out.size))
  have zz4 : w.heap.size < w4.heap.size := by have := hB.size; omega
  obtain ⟨bc4, bf4⟩ := bcell hB
  clear hB
  go_wp2
  go_ret
  exact ⟨rfl, B4.out⟩
set_option maxRecDepth 100000 in
set_option maxHeartbeats 2000000 in
theorem rpart_m4 (h : Hd) (xs : Fo) (p : Option Addr) (q : Nat) (a : Option Addr) (c : Nat) (w : World) (hol : 1 ≤ h.o) (hoh : h.o ≤ 39) (hm : h.nm.data.toList ≠ []) :
    Calls Tryd.prog 48 #[.agg #[.int .i64 4, .int .i64 h.o, .string h.nm, .int .i64 h.vk, .int .i64 h.vn, .string h.vs, .slice p h.vl.length q, .slice a xs.len c]] w fun e w' => e = .returned (.int .i64 (3)) ∧ Below w.heap.size w w' := by
  have B0 : Hid (Below w.heap.size w (w.alloc (.cells #[.int .i64 4, .int .i64 h.o, .string h.nm, .int .i64 h.vk, .int .i64 h.vn, .string h.vs, .slice p h.vl.length q, .slice a xs.len c] 27))) := (Below.refl _ _).alloc (Nat.le_refl _) _
  have hW1 := Lib.hid (fun w => within_y 4 1 5 w (by omega) (by omega))
  have hW2 := Lib.hid (fun w => within_y h.o 1 39 w (by omega) (by omega))
  clear hol hoh
  have m1 : (h.nm.toList == []) = false := beq_no hm
  have m2 : (h.nm.toList != []) = true := by rw [bne, m1]; rfl
  have m3 : ¬ h.nm.toList = [] := by rw [Lib.toList_data]; exact hm
  clear hm
  go_enter Tryd.func48, Tryd.ntmps48
  go_wp2_with fail
  refine (hW1.out _).mono ?_
  rintro e w1 ⟨rfl, rfl⟩
  go_wp2_with fail
  refine (hW2.out _).mono ?_
  rintro e w2 ⟨rfl, rfl⟩
  go_wp2
  go_ret
  exact ⟨rfl, B0.out⟩
set_option maxRecDepth 100000 in
set_option maxHeartbeats 2000000 in
theorem rpart_z4 (h : Hd) (xs : Fo) (p : Option Addr) (q : Nat) (a : Option Addr) (c : Nat) (w : World) (hol : 1 ≤ h.o) (hoh : h.o ≤ 39) (hm : h.nm.data.toList = []) (hz : zeroS h.vk h.vn h.vs h.vl.length = false) :
    Calls Tryd.prog 48 #[.agg #[.int .i64 4, .int .i64 h.o, .string h.nm, .int .i64 h.vk, .int .i64 h.vn, .string h.vs, .slice p h.vl.length q, .slice a xs.len c]] w fun e w' => e = .returned (.int .i64 (3)) ∧ Below w.heap.size w w' := by
  have B0 : Hid (Below w.heap.size w (w.alloc (.cells #[.int .i64 4, .int .i64 h.o, .string h.nm, .int .i64 h.vk, .int .i64 h.vn, .string h.vs, .slice p h.vl.length q, .slice a xs.len c] 27))) := (Below.refl _ _).alloc (Nat.le_refl _) _
  have hW1 := Lib.hid (fun w => within_y 4 1 5 w (by omega) (by omega))
  have hW2 := Lib.hid (fun w => within_y h.o 1 39 w (by omega) (by omega))
  clear hol hoh
  have m1 : (h.nm.toList == []) = true := by rw [Lib.toList_data, hm]; rfl
  have m2 : (h.nm.toList != []) = false := by rw [bne, m1]; rfl
  clear hm
  have hZ := Lib.hid (fun w => by have := rZero_c h.vk h.vn h.vs p h.vl.length q w; rw [hz] at this; exact this); clear hz
  go_enter Tryd.func48, Tryd.ntmps48
  go_wp2_with fail
  refine (hW1.out _).mono ?_
  rintro e w1 ⟨rfl, rfl⟩
  go_wp2_with fail
  refine (hW2.out _).mono ?_
  rintro e w2 ⟨rfl, rfl⟩
  go_wp2_with fail
  refine (hZ.out _).mono ?_
  rintro e w3 ⟨rfl, hB⟩
  have B3 := Lib.hid (B0.out.trans (hB.mono (by simp)))
  have zz3 : w.heap.size < w3.heap.size := by have := hB.size; simp at this; omega
  obtain ⟨bc3, bf3⟩ := bcell hB
  clear hB
  go_wp2
  go_ret
  exact ⟨rfl, B3.out⟩
set_option maxRecDepth 100000 in
set_option maxHeartbeats 2000000 in
theorem rpart_a4 (h : Hd) (xs : Fo) (p : Option Addr) (q : Nat) (a : Option Addr) (c : Nat) (w : World) (hol : 1 ≤ h.o) (hoh : h.o ≤ 39) (hm : h.nm.data.toList = []) (hz : zeroS h.vk h.vn h.vs h.vl.length = true) (ha : arityS h.o xs.len = false) :
    Calls Tryd.prog 48 #[.agg #[.int .i64 4, .int .i64 h.o, .string h.nm, .int .i64 h.vk, .int .i64 h.vn, .string h.vs, .slice p h.vl.length q, .slice a xs.len c]] w fun e w' => e = .returned (.int .i64 (3)) ∧ Below w.heap.size w w' := by
  have B0 : Hid (Below w.heap.size w (w.alloc (.cells #[.int .i64 4, .int .i64 h.o, .string h.nm, .int .i64 h.vk, .int .i64 h.vn, .string h.vs, .slice p h.vl.length q, .slice a xs.len c] 27))) := (Below.refl _ _).alloc (Nat.le_refl _) _
  have hA := Lib.hid (fun w => by have := rArity_c h.o xs.len w hol hoh; rw [ha] at this; exact this); clear ha
  have hW1 := Lib.hid (fun w => within_y 4 1 5 w (by omega) (by omega))
  have hW2 := Lib.hid (fun w => within_y h.o 1 39 w (by omega) (by omega))
  clear hol hoh
  have m1 : (h.nm.toList == []) = true := by rw [Lib.toList_data, hm]; rfl
  have m2 : (h.nm.toList != []) = false := by rw [bne, m1]; rfl
  clear hm
  have hZ := Lib.hid (fun w => by have := rZero_c h.vk h.vn h.vs p h.vl.length q w; rw [hz] at this; exact this); clear hz
  go_enter Tryd.func48, Tryd.ntmps48
  go_wp2_with fail
  refine (hW1.out _).mono ?_
  rintro e w1 ⟨rfl, rfl⟩
  go_wp2_with fail
  refine (hW2.out _).mono ?_
  rintro e w2 ⟨rfl, rfl⟩
  go_wp2_with fail
  refine (hZ.out _).mono ?_
  rintro e w3 ⟨rfl, hB⟩
  have B3 := Lib.hid (B0.out.trans (hB.mono (by simp)))
  have zz3 : w.heap.size < w3.heap.size := by have := hB.size; simp at this; omega
  obtain ⟨bc3, bf3⟩ := bcell hB
  clear hB
  go_wp2_with fail
  refine (hA.out _).mono ?_
  rintro e w4 ⟨rfl, hB⟩
  have B4 := Lib.hid (B3.out.trans (hB.mono B3.out.size))
  have zz4 : w.heap.size < w4.heap.size := by have := hB.size; omega
  obtain ⟨bc4, bf4⟩ := bcell hB
  clear hB
  go_wp2
  go_ret
  exact ⟨rfl, B4.out⟩
set_option maxRecDepth 100000 in
set_option maxHeartbeats 2000000 in
theorem rpart_p4 (h : Hd) (xs : Fo) (p : Option Addr) (q : Nat) (a : Option Addr) (c : Nat) (w : World) (hol : 1 ≤ h.o) (hoh : h.o ≤ 39) (hm : h.nm.data.toList = []) (hz : zeroS h.vk h.vn h.vs h.vl.length = true) (ha : arityS h.o xs.len = true) (hb : h.o < 12 ∨ 14 < h.o) :
    Calls Tryd.prog 48 #[.agg #[.int .i64 4, .int .i64 h.o, .string h.nm, .int .i64 h.vk, .int .i64 h.vn, .string h.vs, .slice p h.vl.length q, .slice a xs.len c]] w fun e w' => e = .returned (.int .i64 (0)) ∧ Below w.heap.size w w' := by
  have B0 : Hid (Below w.heap.size w (w.alloc (.cells #[.int .i64 4, .int .i64 h.o, .string h.nm, .int .i64 h.vk, .int .i64 h.vn, .string h.vs, .slice p h.vl.length q, .slice a xs.len c] 27))) := (Below.refl _ _).alloc (Nat.le_refl _) _
  have hA := Lib.hid (fun w => by have := rArity_c h.o xs.len w hol hoh; rw [ha] at this; exact this); clear ha
  have hW1 := Lib.hid (fun w => within_y 4 1 5 w (by omega) (by omega))
  have hW2 := Lib.hid (fun w => within_y h.o 1 39 w (by omega) (by omega))
  have hW3 := Lib.hid (fun w => within_n h.o 12 14 w (by omega))
  clear hb
  clear hol hoh
  have m1 : (h.nm.toList == []) = true := by rw [Lib.toList_data, hm]; rfl
  have m2 : (h.nm.toList != []) = false := by rw [bne, m1]; rfl
  clear hm
  have hZ := Lib.hid (fun w => by have := rZero_c h.vk h.vn h.vs p h.vl.length q w; rw [hz] at this; exact this); clear hz
  go_enter Tryd.func48, Tryd.ntmps48
  go_wp2_with fail
  refine (hW1.out _).mono ?_
  rintro e w1 ⟨rfl, rfl⟩
  go_wp2_with fail
  refine (hW2.out _).mono ?_
  rintro e w2 ⟨rfl, rfl⟩
  go_wp2_with fail
  refine (hZ.out _).mono ?_
  rintro e w3 ⟨rfl, hB⟩
  have B3 := Lib.hid (B0.out.trans (hB.mono (by simp)))
  have zz3 : w.heap.size < w3.heap.size := by have := hB.size; simp at this; omega
  obtain ⟨bc3, bf3⟩ := bcell hB
  clear hB
  go_wp2_with fail
  refine (hA.out _).mono ?_
  rintro e w4 ⟨rfl, hB⟩
  have B4 := Lib.hid (B3.out.trans (hB.mono B3.out.size))
  have zz4 : w.heap.size < w4.heap.size := by have := hB.size; omega
  obtain ⟨bc4, bf4⟩ := bcell hB
  clear hB
  go_wp2_with fail
  refine (hW3.out _).mono ?_
  rintro e w5 ⟨rfl, rfl⟩
  go_wp2
  go_ret
  exact ⟨rfl, B4.out⟩
set_option maxRecDepth 100000 in
set_option maxHeartbeats 2000000 in
theorem rpart_fn (h : Hd) (xs : Fo) (p : Option Addr) (q : Nat) (c : Nat) (w : World) (hol : 1 ≤ h.o) (hoh : h.o ≤ 39) (hm : h.nm.data.toList = []) (hz : zeroS h.vk h.vn h.vs h.vl.length = true) (ha : arityS h.o xs.len = true) (hb1 : 12 ≤ h.o) (hb2 : h.o ≤ 14) (hn : 0 < xs.len) (b off : Nat) (hbl : b < w.heap.size) (hc : w.cell? ⟨b, off, none⟩ = some (.int .i64 xs.fk)) (hfk : (xs.fk == 2) = false) (hfk2 : (xs.fk != 2) = true) :
    Calls Tryd.prog 48 #[.agg #[.int .i64 4, .int .i64 h.o, .string h.nm, .int .i64 h.vk, .int .i64 h.vn, .string h.vs, .slice p h.vl.length q, .slice (some ⟨b, off, none⟩) xs.len c]] w fun e w' => e = .returned (.int .i64 (3)) ∧ Below w.heap.size w w' := by
  have B0 : Hid (Below w.heap.size w (w.alloc (.cells #[.int .i64 4, .int .i64 h.o, .string h.nm, .int .i64 h.vk, .int .i64 h.vn, .string h.vs, .slice p h.vl.length q, .slice (some ⟨b, off, none⟩) xs.len c] 27))) := (Below.refl _ _).alloc (Nat.le_refl _) _
  have hA := Lib.hid (fun w => by have := rArity_c h.o xs.len w hol hoh; rw [ha] at this; exact this); clear ha
  have hW1 := Lib.hid (fun w => within_y 4 1 5 w (by omega) (by omega))
  have hW2 := Lib.hid (fun w => within_y h.o 1 39 w (by omega) (by omega))
  have hW3 := Lib.hid (fun w => within_y h.o 12 14 w (by omega) (by omega))
  clear hb1 hb2
  clear hol hoh
  have m1 : (h.nm.toList == []) = true := by rw [Lib.toList_data, hm]; rfl
  have m2 : (h.nm.toList != []) = false := by rw [bne, m1]; rfl
  clear hm
  have hZ := Lib.hid (fun w => by have := rZero_c h.vk h.vn h.vs p h.vl.length q w; rw [hz] at this; exact this); clear hz
  have HC := Lib.hid hc; clear hc
  have hni : (0 : Int) < (xs.len : Int) := by omega
  go_enter Tryd.func48, Tryd.ntmps48
  go_wp2_with fail
  refine (hW1.out _).mono ?_
  rintro e w1 ⟨rfl, rfl⟩
  go_wp2_with fail
  refine (hW2.out _).mono ?_
  rintro e w2 ⟨rfl, rfl⟩
  go_wp2_with fail
  refine (hZ.out _).mono ?_
  rintro e w3 ⟨rfl, hB⟩
  have B3 := Lib.hid (B0.out.trans (hB.mono (by simp)))
  have zz3 : w.heap.size < w3.heap.size := by have := hB.size; simp at this; omega
  obtain ⟨bc3, bf3⟩ := bcell hB
  clear hB
  go_wp2_with fail
  refine (hA.out _).mono ?_
  rintro e w4 ⟨rfl, hB⟩
  have B4 := Lib.hid (B3.out.trans (hB.mono B3.out.size))
  have zz4 : w.heap.size < w4.heap.size := by have := hB.size; omega
  obtain ⟨bc4, bf4⟩ := bcell hB
  clear hB
  go_wp2_with fail
  refine (hW3.out _).mono ?_
  rintro e w5 ⟨rfl, rfl⟩
  have c0 : w5.cell? ⟨b, off, none⟩ = some (.int .i64 xs.fk) := by rw [B4.out.cell (p := ⟨b, off, none⟩) hbl]; exact HC.out
  go_wp2
  go_ret
  exact ⟨rfl, B4.out⟩
set_option maxRecDepth 100000 in
set_option maxHeartbeats 2000000 in
theorem rpart_fy (h : Hd) (xs : Fo) (p : Option Addr) (q : Nat) (c : Nat) (w : World) (hol : 1 ≤ h.o) (hoh : h.o ≤ 39) (hm : h.nm.data.toList = []) (hz : zeroS h.vk h.vn h.vs h.vl.length = true) (ha : arityS h.o xs.len = true) (hb1 : 12 ≤ h.o) (hb2 : h.o ≤ 14) (hn : 0 < xs.len) (b off : Nat) (hbl : b < w.heap.size) (hc : w.cell? ⟨b, off, none⟩ = some (.int .i64 xs.fk)) (hfk : (xs.fk == 2) = true) (hfk2 : (xs.fk != 2) = false) :
    Calls Tryd.prog 48 #[.agg #[.int .i64 4, .int .i64 h.o, .string h.nm, .int .i64 h.vk, .int .i64 h.vn, .string h.vs, .slice p h.vl.length q, .slice (some ⟨b, off, none⟩) xs.len c]] w fun e w' => e = .returned (.int .i64 (0)) ∧ Below w.heap.size w w' := by
  have B0 : Hid (Below w.heap.size w (w.alloc (.cells #[.int .i64 4, .int .i64 h.o, .string h.nm, .int .i64 h.vk, .int .i64 h.vn, .string h.vs, .slice p h.vl.length q, .slice (some ⟨b, off, none⟩) xs.len c] 27))) := (Below.refl _ _).alloc (Nat.le_refl _) _
  have hA := Lib.hid (fun w => by have := rArity_c h.o xs.len w hol hoh; rw [ha] at this; exact this); clear ha
  have hW1 := Lib.hid (fun w => within_y 4 1 5 w (by omega) (by omega))
  have hW2 := Lib.hid (fun w => within_y h.o 1 39 w (by omega) (by omega))
  have hW3 := Lib.hid (fun w => within_y h.o 12 14 w (by omega) (by omega))
  clear hb1 hb2
  clear hol hoh
  have m1 : (h.nm.toList == []) = true := by rw [Lib.toList_data, hm]; rfl
  have m2 : (h.nm.toList != []) = false := by rw [bne, m1]; rfl
  clear hm
  have hZ := Lib.hid (fun w => by have := rZero_c h.vk h.vn h.vs p h.vl.length q w; rw [hz] at this; exact this); clear hz
  have HC := Lib.hid hc; clear hc
  have hni : (0 : Int) < (xs.len : Int) := by omega
  go_enter Tryd.func48, Tryd.ntmps48
  go_wp2_with fail
  refine (hW1.out _).mono ?_
  rintro e w1 ⟨rfl, rfl⟩
  go_wp2_with fail
  refine (hW2.out _).mono ?_
  rintro e w2 ⟨rfl, rfl⟩
  go_wp2_with fail
  refine (hZ.out _).mono ?_
  rintro e w3 ⟨rfl, hB⟩
  have B3 := Lib.hid (B0.out.trans (hB.mono (by simp)))
  have zz3 : w.heap.size < w3.heap.size := by have := hB.size; simp at this; omega
  obtain ⟨bc3, bf3⟩ := bcell hB
  clear hB
  go_wp2_with fail
  refine (hA.out _).mono ?_
  rintro e w4 ⟨rfl, hB⟩
  have B4 := Lib.hid (B3.out.trans (hB.mono B3.out.size))
  have zz4 : w.heap.size < w4.heap.size := by have := hB.size; omega
  obtain ⟨bc4, bf4⟩ := bcell hB
  clear hB
  go_wp2_with fail
  refine (hW3.out _).mono ?_
  rintro e w5 ⟨rfl, rfl⟩
  have c0 : w5.cell? ⟨b, off, none⟩ = some (.int .i64 xs.fk) := by rw [B4.out.cell (p := ⟨b, off, none⟩) hbl]; exact HC.out
  go_wp2
  go_ret
  exact ⟨rfl, B4.out⟩
end Go.Proofs.YtngijlmokhkdjaaDoor
