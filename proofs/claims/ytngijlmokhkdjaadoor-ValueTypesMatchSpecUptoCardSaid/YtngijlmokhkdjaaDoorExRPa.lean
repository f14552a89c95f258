/-
  partForm of the reference, case by case (made by a program).
-/
import Derived.Test.YtngijlmokhkdjaaDoorExSpec
import Derived.Test.YtngijlmokhkdjaaDoorExRName
import Derived.Test.YtngijlmokhkdjaaDoorTxtRefChkB
namespace Go.Proofs.YtngijlmokhkdjaaDoor
open Go.RowKit

set_option maxRecDepth 100000 in
set_option maxHeartbeats 2000000 in
theorem rpart_unknown (h : Hd) (xs : Fo) (p : Option Addr) (q : Nat) (a : Option Addr) (c : Nat) (w : World) (hk : h.k < 1 ∨ 5 < h.k) :
    Calls Tryd.prog 48 #[.agg #[.int .i64 h.k, .int .i64 h.o, .string h.nm, .int .i64 h.vk, .int .i64 h.vn, .string h.vs, .slice p h.vl.length q, .slice a xs.len c]] w fun e w' => e = .returned (.int .i64 (4)) ∧ Below w.heap.size w w' := by
  have B0 : Hid (Below w.heap.size w (w.alloc (.cells #[.int .i64 h.k, .int .i64 h.o, .string h.nm, .int .i64 h.vk, .int .i64 h.vn, .string h.vs, .slice p h.vl.length q, .slice a xs.len c] 27))) := (Below.refl _ _).alloc (Nat.le_refl _) _
  have hW1 := Lib.hid (fun w => within_n h.k 1 5 w (by omega))
  clear hk
  go_enter Tryd.func48, Tryd.ntmps48
  go_wp2_with fail
  refine (hW1.out _).mono ?_
  rintro e w1 ⟨rfl, rfl⟩
  go_wp2
  go_ret
  exact ⟨rfl, B0.out⟩
set_option maxRecDepth 100000 in
set_option maxHeartbeats 2000000 in
theorem rpart_op4 (h : Hd) (xs : Fo) (p : Option Addr) (q : Nat) (a : Option Addr) (c : Nat) (w : World) (ho : h.o < 1 ∨ 39 < h.o) :
    Calls Tryd.prog 48 #[.agg #[.int .i64 4, .int .i64 h.o, .string h.nm, .int .i64 h.vk, .int .i64 h.vn, .string h.vs, .slice p h.vl.length q, .slice a xs.len c]] w fun e w' => e = .returned (.int .i64 (4)) ∧ Below w.heap.size w w' := by
  have B0 : Hid (Below w.heap.size w (w.alloc (.cells #[.int .i64 4, .int .i64 h.o, .string h.nm, .int .i64 h.vk, .int .i64 h.vn, .string h.vs, .slice p h.vl.length q, .slice a xs.len c] 27))) := (Below.refl _ _).alloc (Nat.le_refl _) _
  have hW1 := Lib.hid (fun w => within_y 4 1 5 w (by omega) (by omega))
  have hW2 := Lib.hid (fun w => within_n h.o 1 39 w (by omega))
  clear ho
  go_enter Tryd.func48, Tryd.ntmps48
  go_wp2_with fail
  refine (hW1.out _).mono ?_
  rintro e w1 ⟨rfl, rfl⟩
  go_wp2_with fail
  refine (hW2.out _).mono ?_
  rintro e w2 ⟨rfl, rfl⟩
  go_wp2
  go_ret
  exact ⟨rfl, B0.out⟩
set_option maxRecDepth 100000 in
set_option maxHeartbeats 2000000 in
theorem rpart_op5 (h : Hd) (xs : Fo) (p : Option Addr) (q : Nat) (a : Option Addr) (c : Nat) (w : World) (ho : h.o < 1 ∨ 6 < h.o) :
    Calls Tryd.prog 48 #[.agg #[.int .i64 5, .int .i64 h.o, .string h.nm, .int .i64 h.vk, .int .i64 h.vn, .string h.vs, .slice p h.vl.length q, .slice a xs.len c]] w fun e w' => e = .returned (.int .i64 (4)) ∧ Below w.heap.size w w' := by
  have B0 : Hid (Below w.heap.size w (w.alloc (.cells #[.int .i64 5, .int .i64 h.o, .string h.nm, .int .i64 h.vk, .int .i64 h.vn, .string h.vs, .slice p h.vl.length q, .slice a xs.len c] 27))) := (Below.refl _ _).alloc (Nat.le_refl _) _
  have hW1 := Lib.hid (fun w => within_y 5 1 5 w (by omega) (by omega))
  have hW2 := Lib.hid (fun w => within_n h.o 1 6 w (by omega))
  clear ho
  go_enter Tryd.func48, Tryd.ntmps48
  go_wp2_with fail
  refine (hW1.out _).mono ?_
  rintro e w1 ⟨rfl, rfl⟩
  go_wp2_with fail
  refine (hW2.out _).mono ?_
  rintro e w2 ⟨rfl, rfl⟩
  go_wp2
  go_ret
  exact ⟨rfl, B0.out⟩
set_option maxRecDepth 100000 in
set_option maxHeartbeats 2000000 in
theorem rpart_o1 (h : Hd) (xs : Fo) (p : Option Addr) (q : Nat) (a : Option Addr) (c : Nat) (w : World) (ho : h.o ≠ 0) :
    Calls Tryd.prog 48 #[.agg #[.int .i64 1, .int .i64 h.o, .string h.nm, .int .i64 h.vk, .int .i64 h.vn, .string h.vs, .slice p h.vl.length q, .slice a xs.len c]] w fun e w' => e = .returned (.int .i64 (3)) ∧ Below w.heap.size w w' := by
  have B0 : Hid (Below w.heap.size w (w.alloc (.cells #[.int .i64 1, .int .i64 h.o, .string h.nm, .int .i64 h.vk, .int .i64 h.vn, .string h.vs, .slice p h.vl.length q, .slice a xs.len c] 27))) := (Below.refl _ _).alloc (Nat.le_refl _) _
  have hW1 := Lib.hid (fun w => within_y 1 1 5 w (by omega) (by omega))
  have o1 : (h.o != 0) = true := by simpa using ho
  have o2 : (h.o == 0) = false := by rw [beq_eq_false_iff_ne]; exact ho
  clear ho
  go_enter Tryd.func48, Tryd.ntmps48
  go_wp2_with fail
  refine (hW1.out _).mono ?_
  rintro e w1 ⟨rfl, rfl⟩
  go_wp2
  go_ret
  exact ⟨rfl, B0.out⟩
set_option maxRecDepth 100000 in
set_option maxHeartbeats 2000000 in
theorem rpart_n1 (h : Hd) (xs : Fo) (p : Option Addr) (q : Nat) (a : Option Addr) (c : Nat) (w : World) (ho : h.o = 0) (hn : 0 < xs.len) :
    Calls Tryd.prog 48 #[.agg #[.int .i64 1, .int .i64 h.o, .string h.nm, .int .i64 h.vk, .int .i64 h.vn, .string h.vs, .slice p h.vl.length q, .slice a xs.len c]] w fun e w' => e = .returned (.int .i64 (3)) ∧ Below w.heap.size w w' := by
  have B0 : Hid (Below w.heap.size w (w.alloc (.cells #[.int .i64 1, .int .i64 h.o, .string h.nm, .int .i64 h.vk, .int .i64 h.vn, .string h.vs, .slice p h.vl.length q, .slice a xs.len c] 27))) := (Below.refl _ _).alloc (Nat.le_refl _) _
  have hW1 := Lib.hid (fun w => within_y 1 1 5 w (by omega) (by omega))
  have o1 : (h.o != 0) = false := by simp [ho]
  have o2 : (h.o == 0) = true := by simp [ho]
  clear ho
  have n1 : (0 : Int) < (xs.len : Int) := by omega
  have n2 : decide (0 < xs.len) = true := by simp; omega
  go_enter Tryd.func48, Tryd.ntmps48
  go_wp2_with fail
  refine (hW1.out _).mono ?_
  rintro e w1 ⟨rfl, rfl⟩
  go_wp2
  go_ret
  exact ⟨rfl, B0.out⟩
set_option maxRecDepth 100000 in
set_option maxHeartbeats 2000000 in
theorem rpart_o2 (h : Hd) (xs : Fo) (p : Option Addr) (q : Nat) (a : Option Addr) (c : Nat) (w : World) (ho : h.o ≠ 0) :
    Calls Tryd.prog 48 #[.agg #[.int .i64 2, .int .i64 h.o, .string h.nm, .int .i64 h.vk, .int .i64 h.vn, .string h.vs, .slice p h.vl.length q, .slice a xs.len c]] w fun e w' => e = .returned (.int .i64 (3)) ∧ Below w.heap.size w w' := by
  have B0 : Hid (Below w.heap.size w (w.alloc (.cells #[.int .i64 2, .int .i64 h.o, .string h.nm, .int .i64 h.vk, .int .i64 h.vn, .string h.vs, .slice p h.vl.length q, .slice a xs.len c] 27))) := (Below.refl _ _).alloc (Nat.le_refl _) _
  have hW1 := Lib.hid (fun w => within_y 2 1 5 w (by omega) (by omega))
  have o1 : (h.o != 0) = true := by simpa using ho
  have o2 : (h.o == 0) = false := by rw [beq_eq_false_iff_ne]; exact ho
  clear ho
  go_enter Tryd.func48, Tryd.ntmps48
  go_wp2_with fail
  refine (hW1.out _).mono ?_
  rintro e w1 ⟨rfl, rfl⟩
  go_wp2
  go_ret
  exact ⟨rfl, B0.out⟩
set_option maxRecDepth 100000 in
set_option maxHeartbeats 2000000 in
theorem rpart_n2 (h : Hd) (xs : Fo) (p : Option Addr) (q : Nat) (a : Option Addr) (c : Nat) (w : World) (ho : h.o = 0) (hn : 0 < xs.len) :
    Calls Tryd.prog 48 #[.agg #[.int .i64 2, .int .i64 h.o, .string h.nm, .int .i64 h.vk, .int .i64 h.vn, .string h.vs, .slice p h.vl.length q, .slice a xs.len c]] w fun e w' => e = .returned (.int .i64 (3)) ∧ Below w.heap.size w w' := by
  have B0 : Hid (Below w.heap.size w (w.alloc (.cells #[.int .i64 2, .int .i64 h.o, .string h.nm, .int .i64 h.vk, .int .i64 h.vn, .string h.vs, .slice p h.vl.length q, .slice a xs.len c] 27))) := (Below.refl _ _).alloc (Nat.le_refl _) _
  have hW1 := Lib.hid (fun w => within_y 2 1 5 w (by omega) (by omega))
  have o1 : (h.o != 0) = false := by simp [ho]
  have o2 : (h.o == 0) = true := by simp [ho]
  clear ho
  have n1 : (0 : Int) < (xs.len : Int) := by omega
  have n2 : decide (0 < xs.len) = true := by simp; omega
  go_enter Tryd.func48, Tryd.ntmps48
  go_wp2_with fail
  refine (hW1.out _).mono ?_
  rintro e w1 ⟨rfl, rfl⟩
  go_wp2
  go_ret
  exact ⟨rfl, B0.out⟩
set_option maxRecDepth 100000 in
set_option maxHeartbeats 2000000 in
theorem rpart_o3 (h : Hd) (xs : Fo) (p : Option Addr) (q : Nat) (a : Option Addr) (c : Nat) (w : World) (ho : h.o ≠ 0) :
    Calls Tryd.prog 48 #[.agg #[.int .i64 3, .int .i64 h.o, .string h.nm, .int .i64 h.vk, .int .i64 h.vn, .string h.vs, .slice p h.vl.length q, .slice a xs.len c]] w fun e w' => e = .returned (.int .i64 (3)) ∧ Below w.heap.size w w' := by
  have B0 : Hid (Below w.heap.size w (w.alloc (.cells #[.int .i64 3, .int .i64 h.o, .string h.nm, .int .i64 h.vk, .int .i64 h.vn, .string h.vs, .slice p h.vl.length q, .slice a xs.len c] 27))) := (Below.refl _ _).alloc (Nat.le_refl _) _
  have hW1 := Lib.hid (fun w => within_y 3 1 5 w (by omega) (by omega))
  have o1 : (h.o != 0) = true := by simpa using ho
  have o2 : (h.o == 0) = false := by rw [beq_eq_false_iff_ne]; exact ho
  clear ho
  go_enter Tryd.func48, Tryd.ntmps48
  go_wp2_with fail
  refine (hW1.out _).mono ?_
  rintro e w1 ⟨rfl, rfl⟩
  go_wp2
  go_ret
  exact ⟨rfl, B0.out⟩
set_option maxRecDepth 100000 in
set_option maxHeartbeats 2000000 in
theorem rpart_n3 (h : Hd) (xs : Fo) (p : Option Addr) (q : Nat) (a : Option Addr) (c : Nat) (w : World) (ho : h.o = 0) (hn : 0 < xs.len) :
    Calls Tryd.prog 48 #[.agg #[.int .i64 3, .int .i64 h.o, .string h.nm, .int .i64 h.vk, .int .i64 h.vn, .string h.vs, .slice p h.vl.length q, .slice a xs.len c]] w fun e w' => e = .returned (.int .i64 (3)) ∧ Below w.heap.size w w' := by
  have B0 : Hid (Below w.heap.size w (w.alloc (.cells #[.int .i64 3, .int .i64 h.o, .string h.nm, .int .i64 h.vk, .int .i64 h.vn, .string h.vs, .slice p h.vl.length q, .slice a xs.len c] 27))) := (Below.refl _ _).alloc (Nat.le_refl _) _
  have hW1 := Lib.hid (fun w => within_y 3 1 5 w (by omega) (by omega))
  have o1 : (h.o != 0) = false := by simp [ho]
  have o2 : (h.o == 0) = true := by simp [ho]
  clear ho
  have n1 : (0 : Int) < (xs.len : Int) := by omega
  have n2 : decide (0 < xs.len) = true := by simp; omega
  go_enter Tryd.func48, Tryd.ntmps48
  go_wp2_with fail
  refine (hW1.out _).mono ?_
  rintro e w1 ⟨rfl, rfl⟩
  go_wp2
  go_ret
  exact ⟨rfl, B0.out⟩
set_option maxRecDepth 100000 in
set_option maxHeartbeats 2000000 in
theorem rpart_m1 (h : Hd) (xs : Fo) (p : Option Addr) (q : Nat) (a : Option Addr) (c : Nat) (w : World) (ho : h.o = 0) (hn : xs.len = 0) (hm : h.nm.data.toList ≠ []) :
    Calls Tryd.prog 48 #[.agg #[.int .i64 1, .int .i64 h.o, .string h.nm, .int .i64 h.vk, .int .i64 h.vn, .string h.vs, .slice p h.vl.length q, .slice a xs.len c]] w fun e w' => e = .returned (.int .i64 (3)) ∧ Below w.heap.size w w' := by
  have B0 : Hid (Below w.heap.size w (w.alloc (.cells #[.int .i64 1, .int .i64 h.o, .string h.nm, .int .i64 h.vk, .int .i64 h.vn, .string h.vs, .slice p h.vl.length q, .slice a xs.len c] 27))) := (Below.refl _ _).alloc (Nat.le_refl _) _
  have hW1 := Lib.hid (fun w => within_y 1 1 5 w (by omega) (by omega))
  have o1 : (h.o != 0) = false := by simp [ho]
  have o2 : (h.o == 0) = true := by simp [ho]
  clear ho
  have n1 : decide (0 < xs.len) = false := by simp; omega
  clear hn
  have m1 : (h.nm.toList == []) = false := beq_no hm
  have m2 : (h.nm.toList != []) = true := by rw [bne, m1]; rfl
  have m3 : ¬ h.nm.toList = [] := by rw [Lib.toList_data]; exact hm
  clear hm
  go_enter Tryd.func48, Tryd.ntmps48
  go_wp2_with fail
  refine (hW1.out _).mono ?_
  rintro e w1 ⟨rfl, rfl⟩
  go_wp2
  go_ret
  exact ⟨rfl, B0.out⟩
set_option maxRecDepth 100000 in
set_option maxHeartbeats 2000000 in
theorem rpart_v0 (h : Hd) (xs : Fo) (p : Option Addr) (q : Nat) (a : Option Addr) (c : Nat) (w : World) (ho : h.o = 0) (hn : xs.len = 0) (hm : h.nm.data.toList = []) :
    Calls Tryd.prog 48 #[.agg #[.int .i64 1, .int .i64 h.o, .string h.nm, .int .i64 0, .int .i64 h.vn, .string h.vs, .slice p h.vl.length q, .slice a xs.len c]] w fun e w' => e = .returned (.int .i64 (4)) ∧ Below w.heap.size w w' := by
  have B0 : Hid (Below w.heap.size w (w.alloc (.cells #[.int .i64 1, .int .i64 h.o, .string h.nm, .int .i64 0, .int .i64 h.vn, .string h.vs, .slice p h.vl.length q, .slice a xs.len c] 27))) := (Below.refl _ _).alloc (Nat.le_refl _) _
  have hW1 := Lib.hid (fun w => within_y 1 1 5 w (by omega) (by omega))
  have o1 : (h.o != 0) = false := by simp [ho]
  have o2 : (h.o == 0) = true := by simp [ho]
  clear ho
  have n1 : decide (0 < xs.len) = false := by simp; omega
  clear hn
  have m1 : (h.nm.toList == []) = true := by rw [Lib.toList_data, hm]; rfl
  have m2 : (h.nm.toList != []) = false := by rw [bne, m1]; rfl
  clear hm
  go_enter Tryd.func48, Tryd.ntmps48
  go_wp2_with fail
  refine (hW1.out _).mono ?_
  rintro e w1 ⟨rfl, rfl⟩
  go_wp2
  go_ret
  exact ⟨rfl, B0.out⟩
set_option maxRecDepth 100000 in
set_option maxHeartbeats 2000000 in
theorem rpart_v1 (h : Hd) (xs : Fo) (p : Option Addr) (q : Nat) (a : Option Addr) (c : Nat) (w : World) (ho : h.o = 0) (hn : xs.len = 0) (hm : h.nm.data.toList = []) :
    Calls Tryd.prog 48 #[.agg #[.int .i64 1, .int .i64 h.o, .string h.nm, .int .i64 1, .int .i64 h.vn, .string h.vs, .slice p h.vl.length q, .slice a xs.len c]] w fun e w' => e = .returned (.int .i64 (4)) ∧ Below w.heap.size w w' := by
  have B0 : Hid (Below w.heap.size w (w.alloc (.cells #[.int .i64 1, .int .i64 h.o, .string h.nm, .int .i64 1, .int .i64 h.vn, .string h.vs, .slice p h.vl.length q, .slice a xs.len c] 27))) := (Below.refl _ _).alloc (Nat.le_refl _) _
  have hW1 := Lib.hid (fun w => within_y 1 1 5 w (by omega) (by omega))
  have o1 : (h.o != 0) = false := by simp [ho]
  have o2 : (h.o == 0) = true := by simp [ho]
  clear ho
  have n1 : decide (0 < xs.len) = false := by simp; omega
  clear hn
  have m1 : (h.nm.toList == []) = true := by rw [Lib.toList_data, hm]; rfl
  have m2 : (h.nm.toList != []) = false := by rw [bne, m1]; rfl
  clear hm
  go_enter Tryd.func48, Tryd.ntmps48
  go_wp2_with fail
  refine (hW1.out _).mono ?_
  rintro e w1 ⟨rfl, rfl⟩
  go_wp2
  go_ret
  exact ⟨rfl, B0.out⟩
set_option maxRecDepth 100000 in
set_option maxHeartbeats 2000000 in
theorem rpart_const (h : Hd) (xs : Fo) (p : Option Addr) (q : Nat) (a : Option Addr) (c : Nat) (w : World) (ho : h.o = 0) (hn : xs.len = 0) (hm : h.nm.data.toList = []) (v0 : (h.vk == 0) = false) (v1 : (h.vk == 1) = false) (hL : IsL w (.slice p h.vl.length q) h.vl) (hs : h.vs.size ≤ 9223372036854775807) :
    Calls Tryd.prog 48 #[.agg #[.int .i64 1, .int .i64 h.o, .string h.nm, .int .i64 h.vk, .int .i64 h.vn, .string h.vs, .slice p h.vl.length q, .slice a xs.len c]] w fun e w' => e = .returned (.int .i64 (cChk h.vk h.vn h.vs h.vl)) ∧ Below w.heap.size w w' := by
  have B0 : Hid (Below w.heap.size w (w.alloc (.cells #[.int .i64 1, .int .i64 h.o, .string h.nm, .int .i64 h.vk, .int .i64 h.vn, .string h.vs, .slice p h.vl.length q, .slice a xs.len c] 27))) := (Below.refl _ _).alloc (Nat.le_refl _) _
  have hW1 := Lib.hid (fun w => within_y 1 1 5 w (by omega) (by omega))
  have o1 : (h.o != 0) = false := by simp [ho]
  have o2 : (h.o == 0) = true := by simp [ho]
  clear ho
  have n1 : decide (0 < xs.len) = false := by simp; omega
  clear hn
  have m1 : (h.nm.toList == []) = true := by rw [Lib.toList_data, hm]; rfl
  have m2 : (h.nm.toList != []) = false := by rw [bne, m1]; rfl
  clear hm
  have HL := Lib.hid hL; clear hL
  have hC := Lib.hid (fun w (hL : IsL w (.slice p h.vl.length q) h.vl) => refCheck_c h.vk h.vn h.vs _ h.vl w hL hs); clear hs
  go_enter Tryd.func48, Tryd.ntmps48
  go_wp2_with fail
  refine (hW1.out _).mono ?_
  rintro e w1 ⟨rfl, rfl⟩
  go_wp2_with fail
  refine (hC.out _ (HL.out.below B0.out)).mono ?_
  rintro e w2 ⟨rfl, hB⟩
  have B2 := Lib.hid (B0.out.trans (hB.mono (by simp)))
  clear hB
  go_wp2
  go_ret
  exact ⟨rfl, B2.out⟩
set_option maxRecDepth 100000 in
set_option maxHeartbeats 2000000 in
theorem rpart_z2 (h : Hd) (xs : Fo) (p : Option Addr) (q : Nat) (a : Option Addr) (c : Nat) (w : World) (ho : h.o = 0) (hn : xs.len = 0) (hz : zeroS h.vk h.vn h.vs h.vl.length = false) :
    Calls Tryd.prog 48 #[.agg #[.int .i64 2, .int .i64 h.o, .string h.nm, .int .i64 h.vk, .int .i64 h.vn, .string h.vs, .slice p h.vl.length q, .slice a xs.len c]] w fun e w' => e = .returned (.int .i64 (3)) ∧ Below w.heap.size w w' := by
  have B0 : Hid (Below w.heap.size w (w.alloc (.cells #[.int .i64 2, .int .i64 h.o, .string h.nm, .int .i64 h.vk, .int .i64 h.vn, .string h.vs, .slice p h.vl.length q, .slice a xs.len c] 27))) := (Below.refl _ _).alloc (Nat.le_refl _) _
  have hW1 := Lib.hid (fun w => within_y 2 1 5 w (by omega) (by omega))
  have o1 : (h.o != 0) = false := by simp [ho]
  have o2 : (h.o == 0) = true := by simp [ho]
  clear ho
  have n1 : decide (0 < xs.len) = false := by simp; omega
  clear hn
  have hZ := Lib.hid (fun w => by have := rZero_c h.vk h.vn h.vs p h.vl.length q w; rw [hz] at this; exact this); clear hz
  go_enter Tryd.func48, Tryd.ntmps48
  go_wp2_with fail
  refine (hW1.out _).mono ?_
  rintro e w1 ⟨rfl, rfl⟩
  go_wp2_with fail
  refine (hZ.out _).mono ?_
  rintro e w2 ⟨rfl, hB⟩
  have B2 := Lib.hid (B0.out.trans (hB.mono (by simp)))
  have zz2 : w.heap.size < w2.heap.size := by have := hB.size; simp at this; omega
  obtain ⟨bc2, bf2⟩ := bcell hB
  clear hB
  go_wp2
  go_ret
  exact ⟨rfl, B2.out⟩
set_option maxRecDepth 100000 in
set_option maxHeartbeats 2000000 in
theorem rpart_i2f (h : Hd) (xs : Fo) (p : Option Addr) (q : Nat) (a : Option Addr) (c : Nat) (w : World) (ho : h.o = 0) (hn : xs.len = 0) (hz : zeroS h.vk h.vn h.vs h.vl.length = true) (hi : nameS h.nm = false) (hE : Env w) :
    Calls Tryd.prog 48 #[.agg #[.int .i64 2, .int .i64 h.o, .string h.nm, .int .i64 h.vk, .int .i64 h.vn, .string h.vs, .slice p h.vl.length q, .slice a xs.len c]] w fun e w' => e = .returned (.int .i64 (5)) ∧ Below w.heap.size w w' := by
  have B0 : Hid (Below w.heap.size w (w.alloc (.cells #[.int .i64 2, .int .i64 h.o, .string h.nm, .int .i64 h.vk, .int .i64 h.vn, .string h.vs, .slice p h.vl.length q, .slice a xs.len c] 27))) := (Below.refl _ _).alloc (Nat.le_refl _) _
  have hW1 := Lib.hid (fun w => within_y 2 1 5 w (by omega) (by omega))
  have o1 : (h.o != 0) = false := by simp [ho]
  have o2 : (h.o == 0) = true := by simp [ho]
  clear ho
  have n1 : decide (0 < xs.len) = false := by simp; omega
  clear hn
  have hZ := Lib.hid (fun w => by have := rZero_c h.vk h.vn h.vs p h.vl.length q w; rw [hz] at this; exact this); clear hz
  have HE := Lib.hid hE; clear hE
  have hI := Lib.hid (fun w (hE : Env w) => by have := rIsName_c h.nm w hE; rw [hi] at this; exact this); clear hi
  go_enter Tryd.func48, Tryd.ntmps48
  go_wp2_with fail
  refine (hW1.out _).mono ?_
  rintro e w1 ⟨rfl, rfl⟩
  go_wp2_with fail
  refine (hZ.out _).mono ?_
  rintro e w2 ⟨rfl, hB⟩
  have B2 := Lib.hid (B0.out.trans (hB.mono (by simp)))
  have zz2 : w.heap.size < w2.heap.size := by have := hB.size; simp at this; omega
  obtain ⟨bc2, bf2⟩ := bcell hB
  clear hB
  go_wp2_with fail
  refine (hI.out _ (HE.out.below B2.out)).mono ?_
  rintro e w3 ⟨rfl, hB⟩
  have B3 := Lib.hid (B2.out.trans (hB.mono B2.out.size))
  clear hB
  go_wp2
  go_ret
  exact ⟨rfl, B3.out⟩
end Go.Proofs.YtngijlmokhkdjaaDoor
