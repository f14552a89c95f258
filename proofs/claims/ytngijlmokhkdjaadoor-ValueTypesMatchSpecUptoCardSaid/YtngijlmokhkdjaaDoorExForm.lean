/-
  hasForm of package value: whether a part uses just the fields of its kind, and has the number of arguments of its operation.
-/
import Derived.Test.YtngijlmokhkdjaaDoorExKnown
namespace Go.Proofs.YtngijlmokhkdjaaDoor
open Go.RowKit

def leastK (k o : Int) : Int := if k = 4 then leastS o else if k = 5 then 1 else 0
def mostK (k o : Int) : Int := if k = 4 then mostS o else if k = 5 then 1 else 0
theorem leastK_other {k o : Int} (h4 : k ≠ 4) (h5 : k ≠ 5) : leastK k o = 0 := by unfold leastK; rw [if_neg h4, if_neg h5]
theorem mostK_other {k o : Int} (h4 : k ≠ 4) (h5 : k ≠ 5) : mostK k o = 0 := by unfold mostK; rw [if_neg h4, if_neg h5]
def formS (k o : Int) (nm : ByteArray) (vk vn : Int) (vs : ByteArray) (m n : Nat) : Bool :=
  decide ((k = 4 ∨ k = 5 ∨ o = 0) ∧ (k = 2 ∨ k = 3 ∨ k = 5 ∨ nm.data.toList = []) ∧ (k = 1 ∨ zeroS vk vn vs m = true) ∧ leastK k o ≤ n ∧ (n : Int) ≤ mostK k o)
set_option maxHeartbeats 4000000 in
theorem hasForm_1 (o : Int) (nm : ByteArray) (vk vn : Int) (vs : ByteArray) (p : Option Addr) (m q : Nat) (a : Option Addr) (n c : Nat) (w : World) :
    Calls Tryd.prog 64 #[.agg #[.int .i64 1, .int .i64 o, .string nm, .int .i64 vk, .int .i64 vn, .string vs, .slice p m q, .slice a n c]] w fun e w' => e = .returned (.bool (formS 1 o nm vk vn vs m n)) ∧ Below w.heap.size w w' := by
  have eL : leastK 1 o = 0 := rfl
  have eM : mostK 1 o = 0 := rfl
  rcases (Classical.em (o = 0)).symm with ho | ho
  · have ho' : (o == 0) = false := by rw [beq_eq_false_iff_ne]; exact ho
    have e : Hid (formS 1 o nm vk vn vs m n = false) := decide_eq_false (fun h => absurd h.1 (by omega))
    clear ho eL eM
    go_enter Tryd.func64, Tryd.ntmps64
    go_wp2
    go_ret
    exact ⟨by rw [e.out]; first | rfl | (have hq := HM.out; simp; omega) | (have hq := HM.out; simp only [Ending.returned.injEq, Value.bool.injEq]; simp; omega), (Below.refl _ _).alloc (Nat.le_refl _) _⟩
  have ho' : (o == 0) = true := by simpa using ho
  rcases (Classical.em (nm.data.toList = [])).symm with hn | hn
  · have hn' : (nm.toList == []) = false := beq_no hn
    have e : Hid (formS 1 o nm vk vn vs m n = false) := decide_eq_false (fun h => absurd h.2.1 (by rintro (h | h | h | h) <;> first | (exact hn h) | omega))
    clear ho hn eL eM
    go_enter Tryd.func64, Tryd.ntmps64
    go_wp2
    go_ret
    exact ⟨by rw [e.out]; first | rfl | (have hq := HM.out; simp; omega) | (have hq := HM.out; simp only [Ending.returned.injEq, Value.bool.injEq]; simp; omega), (Below.refl _ _).alloc (Nat.le_refl _) _⟩
  have hn' : (nm.toList == []) = true := by rw [Lib.toList_data, hn]; rfl
  rcases (Classical.em ((n : Int) ≤ 0)).symm with hm | hm
  · have hm' : decide ((n : Int) ≤ 0) = false := by simp; omega
    have e : Hid (formS 1 o nm vk vn vs m n = false) := decide_eq_false (fun h => absurd h.2.2.2.2 (by rw [eM]; omega))
    have HM := Lib.hid hm
    clear ho hn hm eL eM
    go_enter Tryd.func64, Tryd.ntmps64
    go_wp2
    go_ret
    exact ⟨by rw [e.out]; first | rfl | (have hq := HM.out; simp; omega) | (have hq := HM.out; simp only [Ending.returned.injEq, Value.bool.injEq]; simp; omega), (Below.refl _ _).alloc (Nat.le_refl _) _⟩
  have hm' : decide ((n : Int) ≤ 0) = true := by simp; omega
  have e : Hid (formS 1 o nm vk vn vs m n = true) := decide_eq_true ⟨(by omega), (.inr (.inr (.inr hn))), (.inl rfl), (by rw [eL]; omega), (by rw [eM]; exact hm)⟩
  have HM := Lib.hid hm
  clear ho hn hm eL eM
  go_enter Tryd.func64, Tryd.ntmps64
  go_wp2
  go_ret
  exact ⟨by rw [e.out]; first | rfl | (have hq := HM.out; simp; omega) | (have hq := HM.out; simp only [Ending.returned.injEq, Value.bool.injEq]; simp; omega), (Below.refl _ _).alloc (Nat.le_refl _) _⟩
set_option maxHeartbeats 4000000 in
theorem hasForm_2 (o : Int) (nm : ByteArray) (vk vn : Int) (vs : ByteArray) (p : Option Addr) (m q : Nat) (a : Option Addr) (n c : Nat) (w : World) :
    Calls Tryd.prog 64 #[.agg #[.int .i64 2, .int .i64 o, .string nm, .int .i64 vk, .int .i64 vn, .string vs, .slice p m q, .slice a n c]] w fun e w' => e = .returned (.bool (formS 2 o nm vk vn vs m n)) ∧ Below w.heap.size w w' := by
  have eL : leastK 2 o = 0 := rfl
  have eM : mostK 2 o = 0 := rfl
  have B0 : Hid (Below w.heap.size w (w.alloc (.cells #[.int .i64 2, .int .i64 o, .string nm, .int .i64 vk, .int .i64 vn, .string vs, .slice p m q, .slice a n c] 27))) := (Below.refl _ _).alloc (Nat.le_refl _) _
  have hZ := Lib.hid (fun w => isZero_c vk vn vs p m q w)
  obtain ⟨z, hz⟩ : ∃ z, z = zeroS vk vn vs m := ⟨_, rfl⟩
  rw [← hz] at hZ
  rcases (Classical.em (o = 0)).symm with ho | ho
  · have ho' : (o == 0) = false := by rw [beq_eq_false_iff_ne]; exact ho
    have e : Hid (formS 2 o nm vk vn vs m n = false) := decide_eq_false (fun h => absurd h.1 (by omega))
    clear ho eL eM hz
    go_enter Tryd.func64, Tryd.ntmps64
    go_wp2
    go_ret
    exact ⟨by rw [e.out]; first | rfl | (have hq := HM.out; simp; omega) | (have hq := HM.out; simp only [Ending.returned.injEq, Value.bool.injEq]; simp; omega), (Below.refl _ _).alloc (Nat.le_refl _) _⟩
  have ho' : (o == 0) = true := by simpa using ho
  cases z
  · have e : Hid (formS 2 o nm vk vn vs m n = false) := decide_eq_false (fun h => absurd h.2.2.1 (by rintro (h | h) <;> first | omega | (rw [← hz] at h; cases h)))
    clear ho eL eM hz
    go_enter Tryd.func64, Tryd.ntmps64
    go_wp2_with fail
    refine (hZ.out _).mono ?_
    rintro e w1 ⟨rfl, hB⟩
    have HB := Lib.hid (B0.out.trans (hB.mono (by simp)))
    have C1 := hB
    obtain ⟨bc, bf⟩ := bcell C1
    clear hB C1
    go_wp2
    go_ret
    exact ⟨by rw [e.out]; first | rfl | (have hq := HM.out; simp; omega) | (have hq := HM.out; simp only [Ending.returned.injEq, Value.bool.injEq]; simp; omega), HB.out⟩
  have hz' : zeroS vk vn vs m = true := hz.symm
  rcases (Classical.em ((n : Int) ≤ 0)).symm with hm | hm
  · have hm' : decide ((n : Int) ≤ 0) = false := by simp; omega
    have e : Hid (formS 2 o nm vk vn vs m n = false) := decide_eq_false (fun h => absurd h.2.2.2.2 (by rw [eM]; omega))
    have HM := Lib.hid hm
    clear ho hz hz' hm eL eM
    go_enter Tryd.func64, Tryd.ntmps64
    go_wp2_with fail
    refine (hZ.out _).mono ?_
    rintro e w1 ⟨rfl, hB⟩
    have HB := Lib.hid (B0.out.trans (hB.mono (by simp)))
    have C1 := hB
    obtain ⟨bc, bf⟩ := bcell C1
    clear hB C1
    go_wp2
    go_ret
    exact ⟨by rw [e.out]; first | rfl | (have hq := HM.out; simp; omega) | (have hq := HM.out; simp only [Ending.returned.injEq, Value.bool.injEq]; simp; omega), HB.out⟩
  have hm' : decide ((n : Int) ≤ 0) = true := by simp; omega
  have e : Hid (formS 2 o nm vk vn vs m n = true) := decide_eq_true ⟨(by omega), (.inl rfl), (.inr hz'), (by rw [eL]; omega), (by rw [eM]; exact hm)⟩
  have HM := Lib.hid hm
  clear ho hz hz' hm eL eM
  go_enter Tryd.func64, Tryd.ntmps64
  go_wp2_with fail
  refine (hZ.out _).mono ?_
  rintro e w1 ⟨rfl, hB⟩
  have HB := Lib.hid (B0.out.trans (hB.mono (by simp)))
  have C1 := hB
  obtain ⟨bc, bf⟩ := bcell C1
  clear hB C1
  go_wp2
  go_ret
  exact ⟨by rw [e.out]; first | rfl | (have hq := HM.out; simp; omega) | (have hq := HM.out; simp only [Ending.returned.injEq, Value.bool.injEq]; simp; omega), HB.out⟩
set_option maxHeartbeats 4000000 in
theorem hasForm_3 (o : Int) (nm : ByteArray) (vk vn : Int) (vs : ByteArray) (p : Option Addr) (m q : Nat) (a : Option Addr) (n c : Nat) (w : World) :
    Calls Tryd.prog 64 #[.agg #[.int .i64 3, .int .i64 o, .string nm, .int .i64 vk, .int .i64 vn, .string vs, .slice p m q, .slice a n c]] w fun e w' => e = .returned (.bool (formS 3 o nm vk vn vs m n)) ∧ Below w.heap.size w w' := by
  have eL : leastK 3 o = 0 := rfl
  have eM : mostK 3 o = 0 := rfl
  have B0 : Hid (Below w.heap.size w (w.alloc (.cells #[.int .i64 3, .int .i64 o, .string nm, .int .i64 vk, .int .i64 vn, .string vs, .slice p m q, .slice a n c] 27))) := (Below.refl _ _).alloc (Nat.le_refl _) _
  have hZ := Lib.hid (fun w => isZero_c vk vn vs p m q w)
  obtain ⟨z, hz⟩ : ∃ z, z = zeroS vk vn vs m := ⟨_, rfl⟩
  rw [← hz] at hZ
  rcases (Classical.em (o = 0)).symm with ho | ho
  · have ho' : (o == 0) = false := by rw [beq_eq_false_iff_ne]; exact ho
    have e : Hid (formS 3 o nm vk vn vs m n = false) := decide_eq_false (fun h => absurd h.1 (by omega))
    clear ho eL eM hz
    go_enter Tryd.func64, Tryd.ntmps64
    go_wp2
    go_ret
    exact ⟨by rw [e.out]; first | rfl | (have hq := HM.out; simp; omega) | (have hq := HM.out; simp only [Ending.returned.injEq, Value.bool.injEq]; simp; omega), (Below.refl _ _).alloc (Nat.le_refl _) _⟩
  have ho' : (o == 0) = true := by simpa using ho
  cases z
  · have e : Hid (formS 3 o nm vk vn vs m n = false) := decide_eq_false (fun h => absurd h.2.2.1 (by rintro (h | h) <;> first | omega | (rw [← hz] at h; cases h)))
    clear ho eL eM hz
    go_enter Tryd.func64, Tryd.ntmps64
    go_wp2_with fail
    refine (hZ.out _).mono ?_
    rintro e w1 ⟨rfl, hB⟩
    have HB := Lib.hid (B0.out.trans (hB.mono (by simp)))
    have C1 := hB
    obtain ⟨bc, bf⟩ := bcell C1
    clear hB C1
    go_wp2
    go_ret
    exact ⟨by rw [e.out]; first | rfl | (have hq := HM.out; simp; omega) | (have hq := HM.out; simp only [Ending.returned.injEq, Value.bool.injEq]; simp; omega), HB.out⟩
  have hz' : zeroS vk vn vs m = true := hz.symm
  rcases (Classical.em ((n : Int) ≤ 0)).symm with hm | hm
  · have hm' : decide ((n : Int) ≤ 0) = false := by simp; omega
    have e : Hid (formS 3 o nm vk vn vs m n = false) := decide_eq_false (fun h => absurd h.2.2.2.2 (by rw [eM]; omega))
    have HM := Lib.hid hm
    clear ho hz hz' hm eL eM
    go_enter Tryd.func64, Tryd.ntmps64
    go_wp2_with fail
    refine (hZ.out _).mono ?_
    rintro e w1 ⟨rfl, hB⟩
    have HB := Lib.hid (B0.out.trans (hB.mono (by simp)))
    have C1 := hB
    obtain ⟨bc, bf⟩ := bcell C1
    clear hB C1
    go_wp2
    go_ret
    exact ⟨by rw [e.out]; first | rfl | (have hq := HM.out; simp; omega) | (have hq := HM.out; simp only [Ending.returned.injEq, Value.bool.injEq]; simp; omega), HB.out⟩
  have hm' : decide ((n : Int) ≤ 0) = true := by simp; omega
  have e : Hid (formS 3 o nm vk vn vs m n = true) := decide_eq_true ⟨(by omega), (.inr (.inl rfl)), (.inr hz'), (by rw [eL]; omega), (by rw [eM]; exact hm)⟩
  have HM := Lib.hid hm
  clear ho hz hz' hm eL eM
  go_enter Tryd.func64, Tryd.ntmps64
  go_wp2_with fail
  refine (hZ.out _).mono ?_
  rintro e w1 ⟨rfl, hB⟩
  have HB := Lib.hid (B0.out.trans (hB.mono (by simp)))
  have C1 := hB
  obtain ⟨bc, bf⟩ := bcell C1
  clear hB C1
  go_wp2
  go_ret
  exact ⟨by rw [e.out]; first | rfl | (have hq := HM.out; simp; omega) | (have hq := HM.out; simp only [Ending.returned.injEq, Value.bool.injEq]; simp; omega), HB.out⟩
set_option maxHeartbeats 4000000 in
theorem hasForm_4 (o : Int) (nm : ByteArray) (vk vn : Int) (vs : ByteArray) (p : Option Addr) (m q : Nat) (a : Option Addr) (n c : Nat) (w : World) :
    Calls Tryd.prog 64 #[.agg #[.int .i64 4, .int .i64 o, .string nm, .int .i64 vk, .int .i64 vn, .string vs, .slice p m q, .slice a n c]] w fun e w' => e = .returned (.bool (formS 4 o nm vk vn vs m n)) ∧ Below w.heap.size w w' := by
  have eL : leastK 4 o = leastS o := rfl
  have eM : mostK 4 o = mostS o := rfl
  have B0 : Hid (Below w.heap.size w (w.alloc (.cells #[.int .i64 4, .int .i64 o, .string nm, .int .i64 vk, .int .i64 vn, .string vs, .slice p m q, .slice a n c] 27))) := (Below.refl _ _).alloc (Nat.le_refl _) _
  have hZ := Lib.hid (fun w => isZero_c vk vn vs p m q w)
  obtain ⟨z, hz⟩ : ∃ z, z = zeroS vk vn vs m := ⟨_, rfl⟩
  rw [← hz] at hZ
  have hA := Lib.hid (fun w => argsOf_c o w)
  generalize leastS o = L at eL hA
  generalize mostS o = M at eM hA
  rcases (Classical.em (nm.data.toList = [])).symm with hn | hn
  · have hn' : (nm.toList == []) = false := beq_no hn
    have e : Hid (formS 4 o nm vk vn vs m n = false) := decide_eq_false (fun h => absurd h.2.1 (by rintro (h | h | h | h) <;> first | (exact hn h) | omega))
    clear hn eL eM hz
    go_enter Tryd.func64, Tryd.ntmps64
    go_wp2_with fail
    refine (hA.out _).mono ?_
    rintro e w1 ⟨rfl, rfl⟩
    go_wp2
    go_ret
    exact ⟨by rw [e.out]; first | rfl | (have hq := HM.out; simp; omega) | (have hq := HM.out; simp only [Ending.returned.injEq, Value.bool.injEq]; simp; omega), (Below.refl _ _).alloc (Nat.le_refl _) _⟩
  have hn' : (nm.toList == []) = true := by rw [Lib.toList_data, hn]; rfl
  cases z
  · have e : Hid (formS 4 o nm vk vn vs m n = false) := decide_eq_false (fun h => absurd h.2.2.1 (by rintro (h | h) <;> first | omega | (rw [← hz] at h; cases h)))
    clear hn eL eM hz
    go_enter Tryd.func64, Tryd.ntmps64
    go_wp2_with fail
    refine (hA.out _).mono ?_
    rintro e w1 ⟨rfl, rfl⟩
    go_wp2_with fail
    refine (hZ.out _).mono ?_
    rintro e w1 ⟨rfl, hB⟩
    have HB := Lib.hid (B0.out.trans (hB.mono (by simp)))
    have C1 := hB
    obtain ⟨bc, bf⟩ := bcell C1
    clear hB C1
    go_wp2
    go_ret
    exact ⟨by rw [e.out]; first | rfl | (have hq := HM.out; simp; omega) | (have hq := HM.out; simp only [Ending.returned.injEq, Value.bool.injEq]; simp; omega), HB.out⟩
  have hz' : zeroS vk vn vs m = true := hz.symm
  rcases (Classical.em (L ≤ (n : Int))).symm with hl | hl
  · have hl' : decide (L ≤ (n : Int)) = false := by simp; omega
    have e : Hid (formS 4 o nm vk vn vs m n = false) := decide_eq_false (fun h => absurd h.2.2.2.1 (by rw [eL]; omega))
    have HM := Lib.hid hl
    clear hn hz hz' hl eL eM
    go_enter Tryd.func64, Tryd.ntmps64
    go_wp2_with fail
    refine (hA.out _).mono ?_
    rintro e w1 ⟨rfl, rfl⟩
    go_wp2_with fail
    refine (hZ.out _).mono ?_
    rintro e w1 ⟨rfl, hB⟩
    have HB := Lib.hid (B0.out.trans (hB.mono (by simp)))
    have C1 := hB
    obtain ⟨bc, bf⟩ := bcell C1
    clear hB C1
    go_wp2
    go_ret
    exact ⟨by rw [e.out]; first | rfl | (have hq := HM.out; simp; omega) | (have hq := HM.out; simp only [Ending.returned.injEq, Value.bool.injEq]; simp; omega), HB.out⟩
  have hl' : decide (L ≤ (n : Int)) = true := by simp; omega
  rcases (Classical.em ((n : Int) ≤ M)).symm with hm | hm
  · have hm' : decide ((n : Int) ≤ M) = false := by simp; omega
    have e : Hid (formS 4 o nm vk vn vs m n = false) := decide_eq_false (fun h => absurd h.2.2.2.2 (by rw [eM]; omega))
    have HM := Lib.hid hm
    clear hn hz hz' hm hl eL eM
    go_enter Tryd.func64, Tryd.ntmps64
    go_wp2_with fail
    refine (hA.out _).mono ?_
    rintro e w1 ⟨rfl, rfl⟩
    go_wp2_with fail
    refine (hZ.out _).mono ?_
    rintro e w1 ⟨rfl, hB⟩
    have HB := Lib.hid (B0.out.trans (hB.mono (by simp)))
    have C1 := hB
    obtain ⟨bc, bf⟩ := bcell C1
    clear hB C1
    go_wp2
    go_ret
    exact ⟨by rw [e.out]; first | rfl | (have hq := HM.out; simp; omega) | (have hq := HM.out; simp only [Ending.returned.injEq, Value.bool.injEq]; simp; omega), HB.out⟩
  have hm' : decide ((n : Int) ≤ M) = true := by simp; omega
  have e : Hid (formS 4 o nm vk vn vs m n = true) := decide_eq_true ⟨(by omega), (.inr (.inr (.inr hn))), (.inr hz'), (by rw [eL]; omega), (by rw [eM]; exact hm)⟩
  have HM := Lib.hid hm
  clear hn hz hz' hm hl eL eM
  go_enter Tryd.func64, Tryd.ntmps64
  go_wp2_with fail
  refine (hA.out _).mono ?_
  rintro e w1 ⟨rfl, rfl⟩
  go_wp2_with fail
  refine (hZ.out _).mono ?_
  rintro e w1 ⟨rfl, hB⟩
  have HB := Lib.hid (B0.out.trans (hB.mono (by simp)))
  have C1 := hB
  obtain ⟨bc, bf⟩ := bcell C1
  clear hB C1
  go_wp2
  go_ret
  exact ⟨by rw [e.out]; first | rfl | (have hq := HM.out; simp; omega) | (have hq := HM.out; simp only [Ending.returned.injEq, Value.bool.injEq]; simp; omega), HB.out⟩
set_option maxHeartbeats 4000000 in
theorem hasForm_5 (o : Int) (nm : ByteArray) (vk vn : Int) (vs : ByteArray) (p : Option Addr) (m q : Nat) (a : Option Addr) (n c : Nat) (w : World) :
    Calls Tryd.prog 64 #[.agg #[.int .i64 5, .int .i64 o, .string nm, .int .i64 vk, .int .i64 vn, .string vs, .slice p m q, .slice a n c]] w fun e w' => e = .returned (.bool (formS 5 o nm vk vn vs m n)) ∧ Below w.heap.size w w' := by
  have eL : leastK 5 o = 1 := rfl
  have eM : mostK 5 o = 1 := rfl
  have B0 : Hid (Below w.heap.size w (w.alloc (.cells #[.int .i64 5, .int .i64 o, .string nm, .int .i64 vk, .int .i64 vn, .string vs, .slice p m q, .slice a n c] 27))) := (Below.refl _ _).alloc (Nat.le_refl _) _
  have hZ := Lib.hid (fun w => isZero_c vk vn vs p m q w)
  obtain ⟨z, hz⟩ : ∃ z, z = zeroS vk vn vs m := ⟨_, rfl⟩
  rw [← hz] at hZ
  cases z
  · have e : Hid (formS 5 o nm vk vn vs m n = false) := decide_eq_false (fun h => absurd h.2.2.1 (by rintro (h | h) <;> first | omega | (rw [← hz] at h; cases h)))
    clear eL eM hz
    go_enter Tryd.func64, Tryd.ntmps64
    go_wp2_with fail
    refine (hZ.out _).mono ?_
    rintro e w1 ⟨rfl, hB⟩
    have HB := Lib.hid (B0.out.trans (hB.mono (by simp)))
    have C1 := hB
    obtain ⟨bc, bf⟩ := bcell C1
    clear hB C1
    go_wp2
    go_ret
    exact ⟨by rw [e.out]; first | rfl | (have hq := HM.out; simp; omega) | (have hq := HM.out; simp only [Ending.returned.injEq, Value.bool.injEq]; simp; omega), HB.out⟩
  have hz' : zeroS vk vn vs m = true := hz.symm
  rcases (Classical.em (1 ≤ (n : Int))).symm with hl | hl
  · have hl' : decide (1 ≤ (n : Int)) = false := by simp; omega
    have e : Hid (formS 5 o nm vk vn vs m n = false) := decide_eq_false (fun h => absurd h.2.2.2.1 (by rw [eL]; omega))
    have HM := Lib.hid hl
    clear hz hz' hl eL eM
    go_enter Tryd.func64, Tryd.ntmps64
    go_wp2_with fail
    refine (hZ.out _).mono ?_
    rintro e w1 ⟨rfl, hB⟩
    have HB := Lib.hid (B0.out.trans (hB.mono (by simp)))
    have C1 := hB
    obtain ⟨bc, bf⟩ := bcell C1
    clear hB C1
    go_wp2
    go_ret
    exact ⟨by rw [e.out]; first | rfl | (have hq := HM.out; simp; omega) | (have hq := HM.out; simp only [Ending.returned.injEq, Value.bool.injEq]; simp; omega), HB.out⟩
  have hl' : decide (1 ≤ (n : Int)) = true := by simp; omega
  rcases (Classical.em ((n : Int) ≤ 1)).symm with hm | hm
  · have hm' : decide ((n : Int) ≤ 1) = false := by simp; omega
    have e : Hid (formS 5 o nm vk vn vs m n = false) := decide_eq_false (fun h => absurd h.2.2.2.2 (by rw [eM]; omega))
    have HM := Lib.hid hm
    clear hz hz' hm hl eL eM
    go_enter Tryd.func64, Tryd.ntmps64
    go_wp2_with fail
    refine (hZ.out _).mono ?_
    rintro e w1 ⟨rfl, hB⟩
    have HB := Lib.hid (B0.out.trans (hB.mono (by simp)))
    have C1 := hB
    obtain ⟨bc, bf⟩ := bcell C1
    clear hB C1
    go_wp2
    go_ret
    exact ⟨by rw [e.out]; first | rfl | (have hq := HM.out; simp; omega) | (have hq := HM.out; simp only [Ending.returned.injEq, Value.bool.injEq]; simp; omega), HB.out⟩
  have hm' : decide ((n : Int) ≤ 1) = true := by simp; omega
  have e : Hid (formS 5 o nm vk vn vs m n = true) := decide_eq_true ⟨(by omega), (.inr (.inr (.inl rfl))), (.inr hz'), (by rw [eL]; omega), (by rw [eM]; exact hm)⟩
  have HM := Lib.hid hm
  clear hz hz' hm hl eL eM
  go_enter Tryd.func64, Tryd.ntmps64
  go_wp2_with fail
  refine (hZ.out _).mono ?_
  rintro e w1 ⟨rfl, hB⟩
  have HB := Lib.hid (B0.out.trans (hB.mono (by simp)))
  have C1 := hB
  obtain ⟨bc, bf⟩ := bcell C1
  clear hB C1
  go_wp2
  go_ret
  exact ⟨by rw [e.out]; first | rfl | (have hq := HM.out; simp; omega) | (have hq := HM.out; simp only [Ending.returned.injEq, Value.bool.injEq]; simp; omega), HB.out⟩
end Go.Proofs.YtngijlmokhkdjaaDoor
