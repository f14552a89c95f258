/-
  checkPart of package value, case by case (made by a program).
-/
import Derived.Test.YtngijlmokhkdjaaDoorExSpec
namespace Go.Proofs.YtngijlmokhkdjaaDoor
open Go.RowKit

set_option maxHeartbeats 1000000 in
theorem part_unknown (h : Hd) (xs : Fo) (p : Option Addr) (q : Nat) (a : Option Addr) (c : Nat) (w : World) (hk : knownS h.k h.o = false) :
    Calls Tryd.prog 43 #[.agg #[.int .i64 h.k, .int .i64 h.o, .string h.nm, .int .i64 h.vk, .int .i64 h.vn, .string h.vs, .slice p h.vl.length q, .slice a xs.len c]] w fun e w' => e = .returned (.int .i64 (4)) ∧ Below w.heap.size w w' := by
  have B0 : Hid (Below w.heap.size w (w.alloc (.cells #[.int .i64 h.k, .int .i64 h.o, .string h.nm, .int .i64 h.vk, .int .i64 h.vn, .string h.vs, .slice p h.vl.length q, .slice a xs.len c] 27))) := (Below.refl _ _).alloc (Nat.le_refl _) _
  have hK := Lib.hid (fun w => by have := isKnown_c h.k h.o h.nm h.vk h.vn h.vs p h.vl.length q a xs.len c w; rw [hk] at this; exact this); clear hk
  go_enter Tryd.func43, Tryd.ntmps43
  go_wp2_with fail
  refine (hK.out _).mono ?_
  rintro e w1 ⟨rfl, hB⟩
  have B1 := Lib.hid (B0.out.trans (hB.mono (by simp)))
  clear hB
  go_wp2
  go_ret
  exact ⟨rfl, B1.out⟩
set_option maxHeartbeats 1000000 in
theorem part_form1 (h : Hd) (xs : Fo) (p : Option Addr) (q : Nat) (a : Option Addr) (c : Nat) (w : World) (hk : knownS 1 h.o = true) (hf : formS 1 h.o h.nm h.vk h.vn h.vs h.vl.length xs.len = false) :
    Calls Tryd.prog 43 #[.agg #[.int .i64 1, .int .i64 h.o, .string h.nm, .int .i64 h.vk, .int .i64 h.vn, .string h.vs, .slice p h.vl.length q, .slice a xs.len c]] w fun e w' => e = .returned (.int .i64 (3)) ∧ Below w.heap.size w w' := by
  have B0 : Hid (Below w.heap.size w (w.alloc (.cells #[.int .i64 1, .int .i64 h.o, .string h.nm, .int .i64 h.vk, .int .i64 h.vn, .string h.vs, .slice p h.vl.length q, .slice a xs.len c] 27))) := (Below.refl _ _).alloc (Nat.le_refl _) _
  have hK := Lib.hid (fun w => by have := isKnown_c 1 h.o h.nm h.vk h.vn h.vs p h.vl.length q a xs.len c w; rw [hk] at this; exact this); clear hk
  have hF := Lib.hid (fun w => by have := hasForm_1 h.o h.nm h.vk h.vn h.vs p h.vl.length q a xs.len c w; rw [hf] at this; exact this); clear hf
  go_enter Tryd.func43, Tryd.ntmps43
  go_wp2_with fail
  refine (hK.out _).mono ?_
  rintro e w1 ⟨rfl, hB⟩
  have B1 := Lib.hid (B0.out.trans (hB.mono (by simp)))
  have zz1 : w.heap.size < w1.heap.size := by have := hB.size; simp at this; omega
  obtain ⟨bc1, bf1⟩ := bcell hB
  clear hB
  go_wp2_with fail
  refine (hF.out _).mono ?_
  rintro e w2 ⟨rfl, hB⟩
  have B2 := Lib.hid (B1.out.trans (hB.mono B1.out.size))
  clear hB
  go_wp2
  go_ret
  exact ⟨rfl, B2.out⟩
set_option maxHeartbeats 1000000 in
theorem part_form2 (h : Hd) (xs : Fo) (p : Option Addr) (q : Nat) (a : Option Addr) (c : Nat) (w : World) (hk : knownS 2 h.o = true) (hf : formS 2 h.o h.nm h.vk h.vn h.vs h.vl.length xs.len = false) :
    Calls Tryd.prog 43 #[.agg #[.int .i64 2, .int .i64 h.o, .string h.nm, .int .i64 h.vk, .int .i64 h.vn, .string h.vs, .slice p h.vl.length q, .slice a xs.len c]] w fun e w' => e = .returned (.int .i64 (3)) ∧ Below w.heap.size w w' := by
  have B0 : Hid (Below w.heap.size w (w.alloc (.cells #[.int .i64 2, .int .i64 h.o, .string h.nm, .int .i64 h.vk, .int .i64 h.vn, .string h.vs, .slice p h.vl.length q, .slice a xs.len c] 27))) := (Below.refl _ _).alloc (Nat.le_refl _) _
  have hK := Lib.hid (fun w => by have := isKnown_c 2 h.o h.nm h.vk h.vn h.vs p h.vl.length q a xs.len c w; rw [hk] at this; exact this); clear hk
  have hF := Lib.hid (fun w => by have := hasForm_2 h.o h.nm h.vk h.vn h.vs p h.vl.length q a xs.len c w; rw [hf] at this; exact this); clear hf
  go_enter Tryd.func43, Tryd.ntmps43
  go_wp2_with fail
  refine (hK.out _).mono ?_
  rintro e w1 ⟨rfl, hB⟩
  have B1 := Lib.hid (B0.out.trans (hB.mono (by simp)))
  have zz1 : w.heap.size < w1.heap.size := by have := hB.size; simp at this; omega
  obtain ⟨bc1, bf1⟩ := bcell hB
  clear hB
  go_wp2_with fail
  refine (hF.out _).mono ?_
  rintro e w2 ⟨rfl, hB⟩
  have B2 := Lib.hid (B1.out.trans (hB.mono B1.out.size))
  clear hB
  go_wp2
  go_ret
  exact ⟨rfl, B2.out⟩
set_option maxHeartbeats 1000000 in
theorem part_form3 (h : Hd) (xs : Fo) (p : Option Addr) (q : Nat) (a : Option Addr) (c : Nat) (w : World) (hk : knownS 3 h.o = true) (hf : formS 3 h.o h.nm h.vk h.vn h.vs h.vl.length xs.len = false) :
    Calls Tryd.prog 43 #[.agg #[.int .i64 3, .int .i64 h.o, .string h.nm, .int .i64 h.vk, .int .i64 h.vn, .string h.vs, .slice p h.vl.length q, .slice a xs.len c]] w fun e w' => e = .returned (.int .i64 (3)) ∧ Below w.heap.size w w' := by
  have B0 : Hid (Below w.heap.size w (w.alloc (.cells #[.int .i64 3, .int .i64 h.o, .string h.nm, .int .i64 h.vk, .int .i64 h.vn, .string h.vs, .slice p h.vl.length q, .slice a xs.len c] 27))) := (Below.refl _ _).alloc (Nat.le_refl _) _
  have hK := Lib.hid (fun w => by have := isKnown_c 3 h.o h.nm h.vk h.vn h.vs p h.vl.length q a xs.len c w; rw [hk] at this; exact this); clear hk
  have hF := Lib.hid (fun w => by have := hasForm_3 h.o h.nm h.vk h.vn h.vs p h.vl.length q a xs.len c w; rw [hf] at this; exact this); clear hf
  go_enter Tryd.func43, Tryd.ntmps43
  go_wp2_with fail
  refine (hK.out _).mono ?_
  rintro e w1 ⟨rfl, hB⟩
  have B1 := Lib.hid (B0.out.trans (hB.mono (by simp)))
  have zz1 : w.heap.size < w1.heap.size := by have := hB.size; simp at this; omega
  obtain ⟨bc1, bf1⟩ := bcell hB
  clear hB
  go_wp2_with fail
  refine (hF.out _).mono ?_
  rintro e w2 ⟨rfl, hB⟩
  have B2 := Lib.hid (B1.out.trans (hB.mono B1.out.size))
  clear hB
  go_wp2
  go_ret
  exact ⟨rfl, B2.out⟩
set_option maxHeartbeats 1000000 in
theorem part_form4 (h : Hd) (xs : Fo) (p : Option Addr) (q : Nat) (a : Option Addr) (c : Nat) (w : World) (hk : knownS 4 h.o = true) (hf : formS 4 h.o h.nm h.vk h.vn h.vs h.vl.length xs.len = false) :
    Calls Tryd.prog 43 #[.agg #[.int .i64 4, .int .i64 h.o, .string h.nm, .int .i64 h.vk, .int .i64 h.vn, .string h.vs, .slice p h.vl.length q, .slice a xs.len c]] w fun e w' => e = .returned (.int .i64 (3)) ∧ Below w.heap.size w w' := by
  have B0 : Hid (Below w.heap.size w (w.alloc (.cells #[.int .i64 4, .int .i64 h.o, .string h.nm, .int .i64 h.vk, .int .i64 h.vn, .string h.vs, .slice p h.vl.length q, .slice a xs.len c] 27))) := (Below.refl _ _).alloc (Nat.le_refl _) _
  have hK := Lib.hid (fun w => by have := isKnown_c 4 h.o h.nm h.vk h.vn h.vs p h.vl.length q a xs.len c w; rw [hk] at this; exact this); clear hk
  have hF := Lib.hid (fun w => by have := hasForm_4 h.o h.nm h.vk h.vn h.vs p h.vl.length q a xs.len c w; rw [hf] at this; exact this); clear hf
  go_enter Tryd.func43, Tryd.ntmps43
  go_wp2_with fail
  refine (hK.out _).mono ?_
  rintro e w1 ⟨rfl, hB⟩
  have B1 := Lib.hid (B0.out.trans (hB.mono (by simp)))
  have zz1 : w.heap.size < w1.heap.size := by have := hB.size; simp at this; omega
  obtain ⟨bc1, bf1⟩ := bcell hB
  clear hB
  go_wp2_with fail
  refine (hF.out _).mono ?_
  rintro e w2 ⟨rfl, hB⟩
  have B2 := Lib.hid (B1.out.trans (hB.mono B1.out.size))
  clear hB
  go_wp2
  go_ret
  exact ⟨rfl, B2.out⟩
set_option maxHeartbeats 1000000 in
theorem part_form5 (h : Hd) (xs : Fo) (p : Option Addr) (q : Nat) (a : Option Addr) (c : Nat) (w : World) (hk : knownS 5 h.o = true) (hf : formS 5 h.o h.nm h.vk h.vn h.vs h.vl.length xs.len = false) :
    Calls Tryd.prog 43 #[.agg #[.int .i64 5, .int .i64 h.o, .string h.nm, .int .i64 h.vk, .int .i64 h.vn, .string h.vs, .slice p h.vl.length q, .slice a xs.len c]] w fun e w' => e = .returned (.int .i64 (3)) ∧ Below w.heap.size w w' := by
  have B0 : Hid (Below w.heap.size w (w.alloc (.cells #[.int .i64 5, .int .i64 h.o, .string h.nm, .int .i64 h.vk, .int .i64 h.vn, .string h.vs, .slice p h.vl.length q, .slice a xs.len c] 27))) := (Below.refl _ _).alloc (Nat.le_refl _) _
  have hK := Lib.hid (fun w => by have := isKnown_c 5 h.o h.nm h.vk h.vn h.vs p h.vl.length q a xs.len c w; rw [hk] at this; exact this); clear hk
  have hF := Lib.hid (fun w => by have := hasForm_5 h.o h.nm h.vk h.vn h.vs p h.vl.length q a xs.len c w; rw [hf] at this; exact this); clear hf
  go_enter Tryd.func43, Tryd.ntmps43
  go_wp2_with fail
  refine (hK.out _).mono ?_
  rintro e w1 ⟨rfl, hB⟩
  have B1 := Lib.hid (B0.out.trans (hB.mono (by simp)))
  have zz1 : w.heap.size < w1.heap.size := by have := hB.size; simp at this; omega
  obtain ⟨bc1, bf1⟩ := bcell hB
  clear hB
  go_wp2_with fail
  refine (hF.out _).mono ?_
  rintro e w2 ⟨rfl, hB⟩
  have B2 := Lib.hid (B1.out.trans (hB.mono B1.out.size))
  clear hB
  go_wp2
  go_ret
  exact ⟨rfl, B2.out⟩
set_option maxHeartbeats 1000000 in
theorem part_none0 (h : Hd) (xs : Fo) (p : Option Addr) (q : Nat) (a : Option Addr) (c : Nat) (w : World) (hk : knownS 1 h.o = true) (hv : h.vk = 0) (hf : formS 1 h.o h.nm 0 h.vn h.vs h.vl.length xs.len = true) :
    Calls Tryd.prog 43 #[.agg #[.int .i64 1, .int .i64 h.o, .string h.nm, .int .i64 0, .int .i64 h.vn, .string h.vs, .slice p h.vl.length q, .slice a xs.len c]] w fun e w' => e = .returned (.int .i64 (4)) ∧ Below w.heap.size w w' := by
  have B0 : Hid (Below w.heap.size w (w.alloc (.cells #[.int .i64 1, .int .i64 h.o, .string h.nm, .int .i64 0, .int .i64 h.vn, .string h.vs, .slice p h.vl.length q, .slice a xs.len c] 27))) := (Below.refl _ _).alloc (Nat.le_refl _) _
  have hK := Lib.hid (fun w => by have := isKnown_c 1 h.o h.nm 0 h.vn h.vs p h.vl.length q a xs.len c w; rw [hk] at this; exact this); clear hk
  have hF := Lib.hid (fun w => by have := hasForm_1 h.o h.nm 0 h.vn h.vs p h.vl.length q a xs.len c w; rw [hf] at this; exact this); clear hf
  clear hv
  go_enter Tryd.func43, Tryd.ntmps43
  go_wp2_with fail
  refine (hK.out _).mono ?_
  rintro e w1 ⟨rfl, hB⟩
  have B1 := Lib.hid (B0.out.trans (hB.mono (by simp)))
  have zz1 : w.heap.size < w1.heap.size := by have := hB.size; simp at this; omega
  obtain ⟨bc1, bf1⟩ := bcell hB
  clear hB
  go_wp2_with fail
  refine (hF.out _).mono ?_
  rintro e w2 ⟨rfl, hB⟩
  have B2 := Lib.hid (B1.out.trans (hB.mono B1.out.size))
  have zz2 : w.heap.size < w2.heap.size := by have := hB.size; omega
  obtain ⟨bc2, bf2⟩ := bcell hB
  clear hB
  go_wp2
  go_ret
  exact ⟨rfl, B2.out⟩
set_option maxHeartbeats 1000000 in
theorem part_none1 (h : Hd) (xs : Fo) (p : Option Addr) (q : Nat) (a : Option Addr) (c : Nat) (w : World) (hk : knownS 1 h.o = true) (hv : h.vk = 1) (hf : formS 1 h.o h.nm 1 h.vn h.vs h.vl.length xs.len = true) :
    Calls Tryd.prog 43 #[.agg #[.int .i64 1, .int .i64 h.o, .string h.nm, .int .i64 1, .int .i64 h.vn, .string h.vs, .slice p h.vl.length q, .slice a xs.len c]] w fun e w' => e = .returned (.int .i64 (4)) ∧ Below w.heap.size w w' := by
  have B0 : Hid (Below w.heap.size w (w.alloc (.cells #[.int .i64 1, .int .i64 h.o, .string h.nm, .int .i64 1, .int .i64 h.vn, .string h.vs, .slice p h.vl.length q, .slice a xs.len c] 27))) := (Below.refl _ _).alloc (Nat.le_refl _) _
  have hK := Lib.hid (fun w => by have := isKnown_c 1 h.o h.nm 1 h.vn h.vs p h.vl.length q a xs.len c w; rw [hk] at this; exact this); clear hk
  have hF := Lib.hid (fun w => by have := hasForm_1 h.o h.nm 1 h.vn h.vs p h.vl.length q a xs.len c w; rw [hf] at this; exact this); clear hf
  clear hv
  go_enter Tryd.func43, Tryd.ntmps43
  go_wp2_with fail
  refine (hK.out _).mono ?_
  rintro e w1 ⟨rfl, hB⟩
  have B1 := Lib.hid (B0.out.trans (hB.mono (by simp)))
  have zz1 : w.heap.size < w1.heap.size := by have := hB.size; simp at this; omega
  obtain ⟨bc1, bf1⟩ := bcell hB
  clear hB
  go_wp2_with fail
  refine (hF.out _).mono ?_
  rintro e w2 ⟨rfl, hB⟩
  have B2 := Lib.hid (B1.out.trans (hB.mono B1.out.size))
  have zz2 : w.heap.size < w2.heap.size := by have := hB.size; omega
  obtain ⟨bc2, bf2⟩ := bcell hB
  clear hB
  go_wp2
  go_ret
  exact ⟨rfl, B2.out⟩
set_option maxHeartbeats 1000000 in
theorem part_const (h : Hd) (xs : Fo) (p : Option Addr) (q : Nat) (a : Option Addr) (c : Nat) (w : World) (hk : knownS 1 h.o = true) (hf : formS 1 h.o h.nm h.vk h.vn h.vs h.vl.length xs.len = true) (v0 : (h.vk == 0) = false) (v1 : (h.vk == 1) = false) (hL : IsL w (.slice p h.vl.length q) h.vl) (hz : h.vs.size ≤ 9223372036854775807) :
    Calls Tryd.prog 43 #[.agg #[.int .i64 1, .int .i64 h.o, .string h.nm, .int .i64 h.vk, .int .i64 h.vn, .string h.vs, .slice p h.vl.length q, .slice a xs.len c]] w fun e w' => e = .returned (.int .i64 (cChk h.vk h.vn h.vs h.vl)) ∧ Below w.heap.size w w' := by
  have B0 : Hid (Below w.heap.size w (w.alloc (.cells #[.int .i64 1, .int .i64 h.o, .string h.nm, .int .i64 h.vk, .int .i64 h.vn, .string h.vs, .slice p h.vl.length q, .slice a xs.len c] 27))) := (Below.refl _ _).alloc (Nat.le_refl _) _
  have hK := Lib.hid (fun w => by have := isKnown_c 1 h.o h.nm h.vk h.vn h.vs p h.vl.length q a xs.len c w; rw [hk] at this; exact this); clear hk
  have hF := Lib.hid (fun w => by have := hasForm_1 h.o h.nm h.vk h.vn h.vs p h.vl.length q a xs.len c w; rw [hf] at this; exact this); clear hf
  have HL := Lib.hid hL; clear hL
  have hC := Lib.hid (fun w (hL : IsL w (.slice p h.vl.length q) h.vl) => check_c h.vk h.vn h.vs _ h.vl w hL hz); clear hz
  go_enter Tryd.func43, Tryd.ntmps43
  go_wp2_with fail
  refine (hK.out _).mono ?_
  rintro e w1 ⟨rfl, hB⟩
  have B1 := Lib.hid (B0.out.trans (hB.mono (by simp)))
  have zz1 : w.heap.size < w1.heap.size := by have := hB.size; simp at this; omega
  obtain ⟨bc1, bf1⟩ := bcell hB
  clear hB
  go_wp2_with fail
  refine (hF.out _).mono ?_
  rintro e w2 ⟨rfl, hB⟩
  have B2 := Lib.hid (B1.out.trans (hB.mono B1.out.size))
  have zz2 : w.heap.size < w2.heap.size := by have := hB.size; omega
  obtain ⟨bc2, bf2⟩ := bcell hB
  clear hB
  go_wp2_with fail
  refine (hC.out _ (HL.out.below B2.out)).mono ?_
  rintro e w3 ⟨rfl, hB⟩
  have B3 := Lib.hid (B2.out.trans (hB.mono B2.out.size))
  clear hB
  go_wp2
  go_ret
  exact ⟨rfl, B3.out⟩
set_option maxHeartbeats 1000000 in
theorem part_name2f (h : Hd) (xs : Fo) (p : Option Addr) (q : Nat) (a : Option Addr) (c : Nat) (w : World) (hk : knownS 2 h.o = true) (hf : formS 2 h.o h.nm h.vk h.vn h.vs h.vl.length xs.len = true) (hn : nameS h.nm = false) :
    Calls Tryd.prog 43 #[.agg #[.int .i64 2, .int .i64 h.o, .string h.nm, .int .i64 h.vk, .int .i64 h.vn, .string h.vs, .slice p h.vl.length q, .slice a xs.len c]] w fun e w' => e = .returned (.int .i64 (5)) ∧ Below w.heap.size w w' := by
  have B0 : Hid (Below w.heap.size w (w.alloc (.cells #[.int .i64 2, .int .i64 h.o, .string h.nm, .int .i64 h.vk, .int .i64 h.vn, .string h.vs, .slice p h.vl.length q, .slice a xs.len c] 27))) := (Below.refl _ _).alloc (Nat.le_refl _) _
  have hK := Lib.hid (fun w => by have := isKnown_c 2 h.o h.nm h.vk h.vn h.vs p h.vl.length q a xs.len c w; rw [hk] at this; exact this); clear hk
  have hF := Lib.hid (fun w => by have := hasForm_2 h.o h.nm h.vk h.vn h.vs p h.vl.length q a xs.len c w; rw [hf] at this; exact this); clear hf
  have hN := Lib.hid (fun w => by have := isName_c h.nm w; rw [hn] at this; exact this); clear hn
  go_enter Tryd.func43, Tryd.ntmps43
  go_wp2_with fail
  refine (hK.out _).mono ?_
  rintro e w1 ⟨rfl, hB⟩
  have B1 := Lib.hid (B0.out.trans (hB.mono (by simp)))
  have zz1 : w.heap.size < w1.heap.size := by have := hB.size; simp at this; omega
  obtain ⟨bc1, bf1⟩ := bcell hB
  clear hB
  go_wp2_with fail
  refine (hF.out _).mono ?_
  rintro e w2 ⟨rfl, hB⟩
  have B2 := Lib.hid (B1.out.trans (hB.mono B1.out.size))
  have zz2 : w.heap.size < w2.heap.size := by have := hB.size; omega
  obtain ⟨bc2, bf2⟩ := bcell hB
  clear hB
  go_wp2_with fail
  refine (hN.out _).mono ?_
  rintro e w3 ⟨rfl, rfl⟩
  go_wp2
  go_ret
  exact ⟨rfl, B2.out⟩
set_option maxHeartbeats 1000000 in
theorem part_name2t (h : Hd) (xs : Fo) (p : Option Addr) (q : Nat) (a : Option Addr) (c : Nat) (w : World) (hk : knownS 2 h.o = true) (hf : formS 2 h.o h.nm h.vk h.vn h.vs h.vl.length xs.len = true) (hn : nameS h.nm = true) :
    Calls Tryd.prog 43 #[.agg #[.int .i64 2, .int .i64 h.o, .string h.nm, .int .i64 h.vk, .int .i64 h.vn, .string h.vs, .slice p h.vl.length q, .slice a xs.len c]] w fun e w' => e = .returned (.int .i64 (0)) ∧ Below w.heap.size w w' := by
  have B0 : Hid (Below w.heap.size w (w.alloc (.cells #[.int .i64 2, .int .i64 h.o, .string h.nm, .int .i64 h.vk, .int .i64 h.vn, .string h.vs, .slice p h.vl.length q, .slice a xs.len c] 27))) := (Below.refl _ _).alloc (Nat.le_refl _) _
  have hK := Lib.hid (fun w => by have := isKnown_c 2 h.o h.nm h.vk h.vn h.vs p h.vl.length q a xs.len c w; rw [hk] at this; exact this); clear hk
  have hF := Lib.hid (fun w => by have := hasForm_2 h.o h.nm h.vk h.vn h.vs p h.vl.length q a xs.len c w; rw [hf] at this; exact this); clear hf
  have hN := Lib.hid (fun w => by have := isName_c h.nm w; rw [hn] at this; exact this); clear hn
  go_enter Tryd.func43, Tryd.ntmps43
  go_wp2_with fail
  refine (hK.out _).mono ?_
  rintro e w1 ⟨rfl, hB⟩
  have B1 := Lib.hid (B0.out.trans (hB.mono (by simp)))
  have zz1 : w.heap.size < w1.heap.size := by have := hB.size; simp at this; omega
  obtain ⟨bc1, bf1⟩ := bcell hB
  clear hB
  go_wp2_with fail
  refine (hF.out _).mono ?_
  rintro e w2 ⟨rfl, hB⟩
  have B2 := Lib.hid (B1.out.trans (hB.mono B1.out.size))
  have zz2 : w.heap.size < w2.heap.size := by have := hB.size; omega
  obtain ⟨bc2, bf2⟩ := bcell hB
  clear hB
  go_wp2_with fail
  refine (hN.out _).mono ?_
  rintro e w3 ⟨rfl, rfl⟩
  go_wp2
  go_ret
  exact ⟨rfl, B2.out⟩
set_option maxHeartbeats 1000000 in
theorem part_name3f (h : Hd) (xs : Fo) (p : Option Addr) (q : Nat) (a : Option Addr) (c : Nat) (w : World) (hk : knownS 3 h.o = true) (hf : formS 3 h.o h.nm h.vk h.vn h.vs h.vl.length xs.len = true) (hn : nameS h.nm = false) :
    Calls Tryd.prog 43 #[.agg #[.int .i64 3, .int .i64 h.o, .string h.nm, .int .i64 h.vk, .int .i64 h.vn, .string h.vs, .slice p h.vl.length q, .slice a xs.len c]] w fun e w' => e = .returned (.int .i64 (5)) ∧ Below w.heap.size w w' := by
  have B0 : Hid (Below w.heap.size w (w.alloc (.cells #[.int .i64 3, .int .i64 h.o, .string h.nm, .int .i64 h.vk, .int .i64 h.vn, .string h.vs, .slice p h.vl.length q, .slice a xs.len c] 27))) := (Below.refl _ _).alloc (Nat.le_refl _) _
  have hK := Lib.hid (fun w => by have := isKnown_c 3 h.o h.nm h.vk h.vn h.vs p h.vl.length q a xs.len c w; rw [hk] at this; exact this); clear hk
  have hF := Lib.hid (fun w => by have := hasForm_3 h.o h.nm h.vk h.vn h.vs p h.vl.length q a xs.len c w; rw [hf] at this; exact this); clear hf
  have hN := Lib.hid (fun w => by have := isName_c h.nm w; rw [hn] at this; exact this); clear hn
  go_enter Tryd.func43, Tryd.ntmps43
  go_wp2_with fail
  refine (hK.out _).mono ?_
  rintro e w1 ⟨rfl, hB⟩
  have B1 := Lib.hid (B0.out.trans (hB.mono (by simp)))
  have zz1 : w.heap.size < w1.heap.size := by have := hB.size; simp at this; omega
  obtain ⟨bc1, bf1⟩ := bcell hB
  clear hB
  go_wp2_with fail
  refine (hF.out _).mono ?_
  rintro e w2 ⟨rfl, hB⟩
  have B2 := Lib.hid (B1.out.trans (hB.mono B1.out.size))
  have zz2 : w.heap.size < w2.heap.size := by have := hB.size; omega
  obtain ⟨bc2, bf2⟩ := bcell hB
  clear hB
  go_wp2_with fail
  refine (hN.out _).mono ?_
  rintro e w3 ⟨rfl, rfl⟩
  go_wp2
  go_ret
  exact ⟨rfl, B2.out⟩
set_option maxHeartbeats 1000000 in
theorem part_name3t (h : Hd) (xs : Fo) (p : Option Addr) (q : Nat) (a : Option Addr) (c : Nat) (w : World) (hk : knownS 3 h.o = true) (hf : formS 3 h.o h.nm h.vk h.vn h.vs h.vl.length xs.len = true) (hn : nameS h.nm = true) :
    Calls Tryd.prog 43 #[.agg #[.int .i64 3, .int .i64 h.o, .string h.nm, .int .i64 h.vk, .int .i64 h.vn, .string h.vs, .slice p h.vl.length q, .slice a xs.len c]] w fun e w' => e = .returned (.int .i64 (0)) ∧ Below w.heap.size w w' := by
  have B0 : Hid (Below w.heap.size w (w.alloc (.cells #[.int .i64 3, .int .i64 h.o, .string h.nm, .int .i64 h.vk, .int .i64 h.vn, .string h.vs, .slice p h.vl.length q, .slice a xs.len c] 27))) := (Below.refl _ _).alloc (Nat.le_refl _) _
  have hK := Lib.hid (fun w => by have := isKnown_c 3 h.o h.nm h.vk h.vn h.vs p h.vl.length q a xs.len c w; rw [hk] at this; exact this); clear hk
  have hF := Lib.hid (fun w => by have := hasForm_3 h.o h.nm h.vk h.vn h.vs p h.vl.length q a xs.len c w; rw [hf] at this; exact this); clear hf
  have hN := Lib.hid (fun w => by have := isName_c h.nm w; rw [hn] at this; exact this); clear hn
  go_enter Tryd.func43, Tryd.ntmps43
  go_wp2_with fail
  refine (hK.out _).mono ?_
  rintro e w1 ⟨rfl, hB⟩
  have B1 := Lib.hid (B0.out.trans (hB.mono (by simp)))
  have zz1 : w.heap.size < w1.heap.size := by have := hB.size; simp at this; omega
  obtain ⟨bc1, bf1⟩ := bcell hB
  clear hB
  go_wp2_with fail
  refine (hF.out _).mono ?_
  rintro e w2 ⟨rfl, hB⟩
  have B2 := Lib.hid (B1.out.trans (hB.mono B1.out.size))
  have zz2 : w.heap.size < w2.heap.size := by have := hB.size; omega
  obtain ⟨bc2, bf2⟩ := bcell hB
  clear hB
  go_wp2_with fail
  refine (hN.out _).mono ?_
  rintro e w3 ⟨rfl, rfl⟩
  go_wp2
  go_ret
  exact ⟨rfl, B2.out⟩
set_option maxHeartbeats 1000000 in
theorem part_name5f (h : Hd) (xs : Fo) (p : Option Addr) (q : Nat) (a : Option Addr) (c : Nat) (w : World) (hk : knownS 5 h.o = true) (hf : formS 5 h.o h.nm h.vk h.vn h.vs h.vl.length xs.len = true) (hn : nameS h.nm = false) :
    Calls Tryd.prog 43 #[.agg #[.int .i64 5, .int .i64 h.o, .string h.nm, .int .i64 h.vk, .int .i64 h.vn, .string h.vs, .slice p h.vl.length q, .slice a xs.len c]] w fun e w' => e = .returned (.int .i64 (5)) ∧ Below w.heap.size w w' := by
  have B0 : Hid (Below w.heap.size w (w.alloc (.cells #[.int .i64 5, .int .i64 h.o, .string h.nm, .int .i64 h.vk, .int .i64 h.vn, .string h.vs, .slice p h.vl.length q, .slice a xs.len c] 27))) := (Below.refl _ _).alloc (Nat.le_refl _) _
  have hK := Lib.hid (fun w => by have := isKnown_c 5 h.o h.nm h.vk h.vn h.vs p h.vl.length q a xs.len c w; rw [hk] at this; exact this); clear hk
  have hF := Lib.hid (fun w => by have := hasForm_5 h.o h.nm h.vk h.vn h.vs p h.vl.length q a xs.len c w; rw [hf] at this; exact this); clear hf
  have hN := Lib.hid (fun w => by have := isName_c h.nm w; rw [hn] at this; exact this); clear hn
  go_enter Tryd.func43, Tryd.ntmps43
  go_wp2_with fail
  refine (hK.out _).mono ?_
  rintro e w1 ⟨rfl, hB⟩
  have B1 := Lib.hid (B0.out.trans (hB.mono (by simp)))
  have zz1 : w.heap.size < w1.heap.size := by have := hB.size; simp at this; omega
  obtain ⟨bc1, bf1⟩ := bcell hB
  clear hB
  go_wp2_with fail
  refine (hF.out _).mono ?_
  rintro e w2 ⟨rfl, hB⟩
  have B2 := Lib.hid (B1.out.trans (hB.mono B1.out.size))
  have zz2 : w.heap.size < w2.heap.size := by have := hB.size; omega
  obtain ⟨bc2, bf2⟩ := bcell hB
  clear hB
  go_wp2_with fail
  refine (hN.out _).mono ?_
  rintro e w3 ⟨rfl, rfl⟩
  go_wp2
  go_ret
  exact ⟨rfl, B2.out⟩
set_option maxHeartbeats 1000000 in
theorem part_name5t (h : Hd) (xs : Fo) (p : Option Addr) (q : Nat) (a : Option Addr) (c : Nat) (w : World) (hk : knownS 5 h.o = true) (hf : formS 5 h.o h.nm h.vk h.vn h.vs h.vl.length xs.len = true) (hn : nameS h.nm = true) :
    Calls Tryd.prog 43 #[.agg #[.int .i64 5, .int .i64 h.o, .string h.nm, .int .i64 h.vk, .int .i64 h.vn, .string h.vs, .slice p h.vl.length q, .slice a xs.len c]] w fun e w' => e = .returned (.int .i64 (0)) ∧ Below w.heap.size w w' := by
  have B0 : Hid (Below w.heap.size w (w.alloc (.cells #[.int .i64 5, .int .i64 h.o, .string h.nm, .int .i64 h.vk, .int .i64 h.vn, .string h.vs, .slice p h.vl.length q, .slice a xs.len c] 27))) := (Below.refl _ _).alloc (Nat.le_refl _) _
  have hK := Lib.hid (fun w => by have := isKnown_c 5 h.o h.nm h.vk h.vn h.vs p h.vl.length q a xs.len c w; rw [hk] at this; exact this); clear hk
  have hF := Lib.hid (fun w => by have := hasForm_5 h.o h.nm h.vk h.vn h.vs p h.vl.length q a xs.len c w; rw [hf] at this; exact this); clear hf
  have hN := Lib.hid (fun w => by have := isName_c h.nm w; rw [hn] at this; exact this); clear hn
  go_enter Tryd.func43, Tryd.ntmps43
  go_wp2_with fail
  refine (hK.out _).mono ?_
  rintro e w1 ⟨rfl, hB⟩
  have B1 := Lib.hid (B0.out.trans (hB.mono (by simp)))
  have zz1 : w.heap.size < w1.heap.size := by have := hB.size; simp at this; omega
  obtain ⟨bc1, bf1⟩ := bcell hB
  clear hB
  go_wp2_with fail
  refine (hF.out _).mono ?_
  rintro e w2 ⟨rfl, hB⟩
  have B2 := Lib.hid (B1.out.trans (hB.mono B1.out.size))
  have zz2 : w.heap.size < w2.heap.size := by have := hB.size; omega
  obtain ⟨bc2, bf2⟩ := bcell hB
  clear hB
  go_wp2_with fail
  refine (hN.out _).mono ?_
  rintro e w3 ⟨rfl, rfl⟩
  go_wp2
  go_ret
  exact ⟨rfl, B2.out⟩
set_option maxHeartbeats 1000000 in
theorem part_op (h : Hd) (xs : Fo) (p : Option Addr) (q : Nat) (a : Option Addr) (c : Nat) (w : World) (hk : knownS 4 h.o = true) (hf : formS 4 h.o h.nm h.vk h.vn h.vs h.vl.length xs.len = true) (ha : aboutS h.o = false) :
    Calls Tryd.prog 43 #[.agg #[.int .i64 4, .int .i64 h.o, .string h.nm, .int .i64 h.vk, .int .i64 h.vn, .string h.vs, .slice p h.vl.length q, .slice a xs.len c]] w fun e w' => e = .returned (.int .i64 (0)) ∧ Below w.heap.size w w' := by
  have B0 : Hid (Below w.heap.size w (w.alloc (.cells #[.int .i64 4, .int .i64 h.o, .string h.nm, .int .i64 h.vk, .int .i64 h.vn, .string h.vs, .slice p h.vl.length q, .slice a xs.len c] 27))) := (Below.refl _ _).alloc (Nat.le_refl _) _
  have hK := Lib.hid (fun w => by have := isKnown_c 4 h.o h.nm h.vk h.vn h.vs p h.vl.length q a xs.len c w; rw [hk] at this; exact this); clear hk
  have hF := Lib.hid (fun w => by have := hasForm_4 h.o h.nm h.vk h.vn h.vs p h.vl.length q a xs.len c w; rw [hf] at this; exact this); clear hf
  have hA := Lib.hid (fun w => by have := isAboutAnswer_c h.o w; rw [ha] at this; exact this); clear ha
  go_enter Tryd.func43, Tryd.ntmps43
  go_wp2_with fail
  refine (hK.out _).mono ?_
  rintro e w1 ⟨rfl, hB⟩
  have B1 := Lib.hid (B0.out.trans (hB.mono (by simp)))
  have zz1 : w.heap.size < w1.heap.size := by have := hB.size; simp at this; omega
  obtain ⟨bc1, bf1⟩ := bcell hB
  clear hB
  go_wp2_with fail
  refine (hF.out _).mono ?_
  rintro e w2 ⟨rfl, hB⟩
  have B2 := Lib.hid (B1.out.trans (hB.mono B1.out.size))
  have zz2 : w.heap.size < w2.heap.size := by have := hB.size; omega
  obtain ⟨bc2, bf2⟩ := bcell hB
  clear hB
  go_wp2_with fail
  refine (hA.out _).mono ?_
  rintro e w3 ⟨rfl, rfl⟩
  go_wp2
  go_ret
  exact ⟨rfl, B2.out⟩
set_option maxHeartbeats 1000000 in
theorem part_aboutn (h : Hd) (xs : Fo) (p : Option Addr) (q : Nat) (c : Nat) (w : World) (hk : knownS 4 h.o = true) (hf : formS 4 h.o h.nm h.vk h.vn h.vs h.vl.length xs.len = true) (ha : aboutS h.o = true) (hn : 0 < xs.len) (b off : Nat) (hb : b < w.heap.size) (hc : w.cell? ⟨b, off, none⟩ = some (.int .i64 xs.fk)) (hfk : (xs.fk == 2) = false) (hfk2 : (xs.fk != 2) = true) :
    Calls Tryd.prog 43 #[.agg #[.int .i64 4, .int .i64 h.o, .string h.nm, .int .i64 h.vk, .int .i64 h.vn, .string h.vs, .slice p h.vl.length q, .slice (some ⟨b, off, none⟩) xs.len c]] w fun e w' => e = .returned (.int .i64 (3)) ∧ Below w.heap.size w w' := by
  have B0 : Hid (Below w.heap.size w (w.alloc (.cells #[.int .i64 4, .int .i64 h.o, .string h.nm, .int .i64 h.vk, .int .i64 h.vn, .string h.vs, .slice p h.vl.length q, .slice (some ⟨b, off, none⟩) xs.len c] 27))) := (Below.refl _ _).alloc (Nat.le_refl _) _
  have hK := Lib.hid (fun w => by have := isKnown_c 4 h.o h.nm h.vk h.vn h.vs p h.vl.length q (some ⟨b, off, none⟩) xs.len c w; rw [hk] at this; exact this); clear hk
  have hF := Lib.hid (fun w => by have := hasForm_4 h.o h.nm h.vk h.vn h.vs p h.vl.length q (some ⟨b, off, none⟩) xs.len c w; rw [hf] at this; exact this); clear hf
  have hA := Lib.hid (fun w => by have := isAboutAnswer_c h.o w; rw [ha] at this; exact this); clear ha
  have HC := Lib.hid hc; clear hc
  have hni : (0 : Int) < (xs.len : Int) := by omega
  go_enter Tryd.func43, Tryd.ntmps43
  go_wp2_with fail
  refine (hK.out _).mono ?_
  rintro e w1 ⟨rfl, hB⟩
  have B1 := Lib.hid (B0.out.trans (hB.mono (by simp)))
  have zz1 : w.heap.size < w1.heap.size := by have := hB.size; simp at this; omega
  obtain ⟨bc1, bf1⟩ := bcell hB
  clear hB
  go_wp2_with fail
  refine (hF.out _).mono ?_
  rintro e w2 ⟨rfl, hB⟩
  have B2 := Lib.hid (B1.out.trans (hB.mono B1.out.size))
  have zz2 : w.heap.size < w2.heap.size := by have := hB.size; omega
  obtain ⟨bc2, bf2⟩ := bcell hB
  clear hB
  go_wp2_with fail
  refine (hA.out _).mono ?_
  rintro e w3 ⟨rfl, rfl⟩
  have c0 : w3.cell? ⟨b, off, none⟩ = some (.int .i64 xs.fk) := by rw [B2.out.cell (p := ⟨b, off, none⟩) hb]; exact HC.out
  go_wp2
  go_ret
  exact ⟨rfl, B2.out⟩
set_option maxHeartbeats 1000000 in
theorem part_abouty (h : Hd) (xs : Fo) (p : Option Addr) (q : Nat) (c : Nat) (w : World) (hk : knownS 4 h.o = true) (hf : formS 4 h.o h.nm h.vk h.vn h.vs h.vl.length xs.len = true) (ha : aboutS h.o = true) (hn : 0 < xs.len) (b off : Nat) (hb : b < w.heap.size) (hc : w.cell? ⟨b, off, none⟩ = some (.int .i64 xs.fk)) (hfk : (xs.fk == 2) = true) (hfk2 : (xs.fk != 2) = false) :
    Calls Tryd.prog 43 #[.agg #[.int .i64 4, .int .i64 h.o, .string h.nm, .int .i64 h.vk, .int .i64 h.vn, .string h.vs, .slice p h.vl.length q, .slice (some ⟨b, off, none⟩) xs.len c]] w fun e w' => e = .returned (.int .i64 (0)) ∧ Below w.heap.size w w' := by
  have B0 : Hid (Below w.heap.size w (w.alloc (.cells #[.int .i64 4, .int .i64 h.o, .string h.nm, .int .i64 h.vk, .int .i64 h.vn, .string h.vs, .slice p h.vl.length q, .slice (some ⟨b, off, none⟩) xs.len c] 27))) := (Below.refl _ _).alloc (Nat.le_refl _) _
  have hK := Lib.hid (fun w => by have := isKnown_c 4 h.o h.nm h.vk h.vn h.vs p h.vl.length q (some ⟨b, off, none⟩) xs.len c w; rw [hk] at this; exact this); clear hk
  have hF := Lib.hid (fun w => by have := hasForm_4 h.o h.nm h.vk h.vn h.vs p h.vl.length q (some ⟨b, off, none⟩) xs.len c w; rw [hf] at this; exact this); clear hf
  have hA := Lib.hid (fun w => by have := isAboutAnswer_c h.o w; rw [ha] at this; exact this); clear ha
  have HC := Lib.hid hc; clear hc
  have hni : (0 : Int) < (xs.len : Int) := by omega
  go_enter Tryd.func43, Tryd.ntmps43
  go_wp2_with fail
  refine (hK.out _).mono ?_
  rintro e w1 ⟨rfl, hB⟩
  have B1 := Lib.hid (B0.out.trans (hB.mono (by simp)))
  have zz1 : w.heap.size < w1.heap.size := by have := hB.size; simp at this; omega
  obtain ⟨bc1, bf1⟩ := bcell hB
  clear hB
  go_wp2_with fail
  refine (hF.out _).mono ?_
  rintro e w2 ⟨rfl, hB⟩
  have B2 := Lib.hid (B1.out.trans (hB.mono B1.out.size))
  have zz2 : w.heap.size < w2.heap.size := by have := hB.size; omega
  obtain ⟨bc2, bf2⟩ := bcell hB
  clear hB
  go_wp2_with fail
  refine (hA.out _).mono ?_
  rintro e w3 ⟨rfl, rfl⟩
  have c0 : w3.cell? ⟨b, off, none⟩ = some (.int .i64 xs.fk) := by rw [B2.out.cell (p := ⟨b, off, none⟩) hb]; exact HC.out
  go_wp2
  go_ret
  exact ⟨rfl, B2.out⟩
end Go.Proofs.YtngijlmokhkdjaaDoor
