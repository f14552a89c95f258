/-
  Small functions of the reference on parts of expressions: bytes of names, zero values, numbers of arguments.
-/
import Derived.Test.YtngijlmokhkdjaaDoorExForm
import Derived.Test.YtngijlmokhkdjaaDoorTxtRefChk
namespace Go.Proofs.YtngijlmokhkdjaaDoor
open Go.RowKit

theorem rWordByte_c (n : Int) (w : World) : Calls Tryd.prog 50 #[.int .u8 n] w fun e w' => e = .returned (.bool (wordB n)) ∧ w' = w := by
  have hc : (97 ≤ n ∧ n ≤ 122) ∨ (122 < n) ∨ (n = 95) ∨ (48 ≤ n ∧ n ≤ 57) ∨ (n < 48) ∨ (57 < n ∧ n ≤ 96 ∧ n ≠ 95) := by omega
  rcases hc with hc | hc | hc | hc | hc | hc
  · have e : Hid (wordB n = true) := by unfold Hid wordB letB digB; simp; omega
    have t1 : decide (97 ≤ n) = true := by simp; omega
    have t2 : decide (n ≤ 122) = true := by simp; omega
    clear hc
    go_enter Tryd.func50, Tryd.ntmps50
    go_wp2
    go_ret
    exact ⟨by rw [e.out]; rfl, rfl⟩
  · have e : Hid (wordB n = false) := by unfold Hid wordB letB digB; simp; omega
    have t1 : decide (97 ≤ n) = true := by simp; omega
    have t2 : decide (n ≤ 122) = false := by simp; omega
    have t3 : decide (48 ≤ n) = true := by simp; omega
    have t4 : decide (n ≤ 57) = false := by simp; omega
    have t5 : (n == 95) = false := by rw [beq_eq_false_iff_ne]; omega
    clear hc
    go_enter Tryd.func50, Tryd.ntmps50
    go_wp2
    go_ret
    exact ⟨by rw [e.out]; rfl, rfl⟩
  · have e : Hid (wordB n = true) := by unfold Hid wordB letB digB; simp; omega
    have t1 : decide (97 ≤ n) = false := by simp; omega
    have t3 : decide (48 ≤ n) = true := by simp; omega
    have t4 : decide (n ≤ 57) = false := by simp; omega
    have t5 : (n == 95) = true := by rw [beq_iff_eq]; omega
    clear hc
    go_enter Tryd.func50, Tryd.ntmps50
    go_wp2
    go_ret
    exact ⟨by rw [e.out]; rfl, rfl⟩
  · have e : Hid (wordB n = true) := by unfold Hid wordB letB digB; simp; omega
    have t1 : decide (97 ≤ n) = false := by simp; omega
    have t3 : decide (48 ≤ n) = true := by simp; omega
    have t4 : decide (n ≤ 57) = true := by simp; omega
    clear hc
    go_enter Tryd.func50, Tryd.ntmps50
    go_wp2
    go_ret
    exact ⟨by rw [e.out]; rfl, rfl⟩
  · have e : Hid (wordB n = false) := by unfold Hid wordB letB digB; simp; omega
    have t1 : decide (97 ≤ n) = false := by simp; omega
    have t3 : decide (48 ≤ n) = false := by simp; omega
    have t5 : (n == 95) = false := by rw [beq_eq_false_iff_ne]; omega
    clear hc
    go_enter Tryd.func50, Tryd.ntmps50
    go_wp2
    go_ret
    exact ⟨by rw [e.out]; rfl, rfl⟩
  · have e : Hid (wordB n = false) := by unfold Hid wordB letB digB; simp; omega
    have t1 : decide (97 ≤ n) = false := by simp; omega
    have t3 : decide (48 ≤ n) = true := by simp; omega
    have t4 : decide (n ≤ 57) = false := by simp; omega
    have t5 : (n == 95) = false := by rw [beq_eq_false_iff_ne]; omega
    clear hc
    go_enter Tryd.func50, Tryd.ntmps50
    go_wp2
    go_ret
    exact ⟨by rw [e.out]; rfl, rfl⟩
set_option maxHeartbeats 1000000 in
theorem rZero_c (vk vn : Int) (vs : ByteArray) (p : Option Addr) (m q : Nat) (w : World) :
    Calls Tryd.prog 72 #[.agg #[.int .i64 vk, .int .i64 vn, .string vs, .slice p m q]] w fun e w' => e = .returned (.bool (zeroS vk vn vs m)) ∧ Below w.heap.size w w' := by
  by_cases h1 : vk = 0
  · subst h1
    by_cases h2 : vn = 0
    · subst h2
      by_cases h3 : vs.data.toList = []
      · have b3 : (vs.toList == []) = true := by rw [Lib.toList_data, h3]; rfl
        by_cases h4 : m = 0
        · subst h4
          have e : Hid (zeroS 0 0 vs 0 = true) := by unfold Hid zeroS; simp [h3]
          clear h3
          go_enter Tryd.func72, Tryd.ntmps72
          go_wp2
          go_ret
          exact ⟨by rw [e.out]; rfl, (Below.refl _ _).alloc (Nat.le_refl _) _⟩
        · have e : Hid (zeroS 0 0 vs m = false) := by unfold Hid zeroS; simp [h4]
          have b4 : ((m : Int) == 0) = false := by rw [beq_eq_false_iff_ne]; omega
          clear h3 h4
          go_enter Tryd.func72, Tryd.ntmps72
          go_wp2
          go_ret
          exact ⟨by rw [e.out]; rfl, (Below.refl _ _).alloc (Nat.le_refl _) _⟩
      · have b3 : (vs.toList == []) = false := beq_no h3
        have e : Hid (zeroS 0 0 vs m = false) := by unfold Hid zeroS; simp only [h3]; simp
        clear h3
        go_enter Tryd.func72, Tryd.ntmps72
        go_wp2
        go_ret
        exact ⟨by rw [e.out]; rfl, (Below.refl _ _).alloc (Nat.le_refl _) _⟩
    · have e : Hid (zeroS 0 vn vs m = false) := by unfold Hid zeroS; simp [h2]
      have b2 : (vn == 0) = false := by rw [beq_eq_false_iff_ne]; exact h2
      clear h2
      go_enter Tryd.func72, Tryd.ntmps72
      go_wp2
      go_ret
      exact ⟨by rw [e.out]; rfl, (Below.refl _ _).alloc (Nat.le_refl _) _⟩
  · have e : Hid (zeroS vk vn vs m = false) := by unfold Hid zeroS; simp [h1]
    have b1 : (vk == 0) = false := by rw [beq_eq_false_iff_ne]; exact h1
    clear h1
    go_enter Tryd.func72, Tryd.ntmps72
    go_wp2
    go_ret
    exact ⟨by rw [e.out]; rfl, (Below.refl _ _).alloc (Nat.le_refl _) _⟩

/-- The number of arguments that an operation can have. -/
def arityS (o : Int) (n : Nat) : Bool := if o = 2 ∨ o = 3 ∨ o = 24 ∨ o = 25 then decide (2 ≤ (n : Int)) else ((n : Int) == leastS o)
def lenS (o : Int) : Nat := if o = 26 then 3 else if o = 1 ∨ o = 2 ∨ o = 3 ∨ o = 12 ∨ o = 13 ∨ o = 14 ∨ o = 20 ∨ o = 21 ∨ o = 22 ∨ o = 23 ∨ o = 24 ∨ o = 25 ∨ o = 28 ∨ o = 29 ∨ o = 30 ∨ o = 34 ∨ o = 35 ∨ o = 36 then 1 else 2
def moreS (o : Int) : Bool := decide (o = 2 ∨ o = 3 ∨ o = 24 ∨ o = 25)
def ShapeP (o : Int) (w : World) (e : Ending) (w' : World) : Prop := ∃ (a : Option Addr) (c : Nat) (r : Int), e = .returned (.agg #[.slice a (lenS o) c, .int .i64 r, .bool (moreS o)]) ∧ Below w.heap.size w w'
set_option maxHeartbeats 8000000 in
theorem rShape_0 (o : Int) (w : World) (h1 : 1 ≤ o) (h2 : o ≤ 13) :
    Calls Tryd.prog 54 #[.int .i64 o] w (ShapeP o w) := by
  have ho : o = 1 ∨ o = 2 ∨ o = 3 ∨ o = 4 ∨ o = 5 ∨ o = 6 ∨ o = 7 ∨ o = 8 ∨ o = 9 ∨ o = 10 ∨ o = 11 ∨ o = 12 ∨ o = 13 := by omega
  clear h1 h2
  rcases ho with rfl | rfl | rfl | rfl | rfl | rfl | rfl | rfl | rfl | rfl | rfl | rfl | rfl
  · go_enter Tryd.func54, Tryd.ntmps54
    go_wp2
    exact bodyPost_ret (v := .agg #[.slice (some ⟨w.heap.size + 1, 0, none⟩) 1 1, .int .i64 7, .bool false]) (by simp [results, Tryd.results54, go_sem]) rfl ⟨_, _, _, rfl, ((Below.refl _ _).alloc (Nat.le_refl _) _).alloc (by simp) _⟩
  · go_enter Tryd.func54, Tryd.ntmps54
    go_wp2
    exact bodyPost_ret (v := .agg #[.slice (some ⟨w.heap.size + 1, 0, none⟩) 1 1, .int .i64 7, .bool true]) (by simp [results, Tryd.results54, go_sem]) rfl ⟨_, _, _, rfl, ((Below.refl _ _).alloc (Nat.le_refl _) _).alloc (by simp) _⟩
  · go_enter Tryd.func54, Tryd.ntmps54
    go_wp2
    exact bodyPost_ret (v := .agg #[.slice (some ⟨w.heap.size + 1, 0, none⟩) 1 1, .int .i64 7, .bool true]) (by simp [results, Tryd.results54, go_sem]) rfl ⟨_, _, _, rfl, ((Below.refl _ _).alloc (Nat.le_refl _) _).alloc (by simp) _⟩
  · go_enter Tryd.func54, Tryd.ntmps54
    go_wp2
    exact bodyPost_ret (v := .agg #[.slice (some ⟨w.heap.size + 1, 0, none⟩) 2 2, .int .i64 7, .bool false]) (by simp [results, Tryd.results54, go_sem]) rfl ⟨_, _, _, rfl, ((Below.refl _ _).alloc (Nat.le_refl _) _).alloc (by simp) _⟩
  · go_enter Tryd.func54, Tryd.ntmps54
    go_wp2
    exact bodyPost_ret (v := .agg #[.slice (some ⟨w.heap.size + 1, 0, none⟩) 2 2, .int .i64 7, .bool false]) (by simp [results, Tryd.results54, go_sem]) rfl ⟨_, _, _, rfl, ((Below.refl _ _).alloc (Nat.le_refl _) _).alloc (by simp) _⟩
  · go_enter Tryd.func54, Tryd.ntmps54
    go_wp2
    exact bodyPost_ret (v := .agg #[.slice (some ⟨w.heap.size + 1, 0, none⟩) 2 2, .int .i64 7, .bool false]) (by simp [results, Tryd.results54, go_sem]) rfl ⟨_, _, _, rfl, ((Below.refl _ _).alloc (Nat.le_refl _) _).alloc (by simp) _⟩
  · go_enter Tryd.func54, Tryd.ntmps54
    go_wp2
    exact bodyPost_ret (v := .agg #[.slice (some ⟨w.heap.size + 1, 0, none⟩) 2 2, .int .i64 7, .bool false]) (by simp [results, Tryd.results54, go_sem]) rfl ⟨_, _, _, rfl, ((Below.refl _ _).alloc (Nat.le_refl _) _).alloc (by simp) _⟩
  · go_enter Tryd.func54, Tryd.ntmps54
    go_wp2
    exact bodyPost_ret (v := .agg #[.slice (some ⟨w.heap.size + 1, 0, none⟩) 2 2, .int .i64 7, .bool false]) (by simp [results, Tryd.results54, go_sem]) rfl ⟨_, _, _, rfl, ((Below.refl _ _).alloc (Nat.le_refl _) _).alloc (by simp) _⟩
  · go_enter Tryd.func54, Tryd.ntmps54
    go_wp2
    exact bodyPost_ret (v := .agg #[.slice (some ⟨w.heap.size + 1, 0, none⟩) 2 2, .int .i64 7, .bool false]) (by simp [results, Tryd.results54, go_sem]) rfl ⟨_, _, _, rfl, ((Below.refl _ _).alloc (Nat.le_refl _) _).alloc (by simp) _⟩
  · go_enter Tryd.func54, Tryd.ntmps54
    go_wp2
    exact bodyPost_ret (v := .agg #[.slice (some ⟨w.heap.size + 1, 0, none⟩) 2 2, .int .i64 7, .bool false]) (by simp [results, Tryd.results54, go_sem]) rfl ⟨_, _, _, rfl, ((Below.refl _ _).alloc (Nat.le_refl _) _).alloc (by simp) _⟩
  · go_enter Tryd.func54, Tryd.ntmps54
    go_wp2
    exact bodyPost_ret (v := .agg #[.slice (some ⟨w.heap.size + 1, 0, none⟩) 2 2, .int .i64 7, .bool false]) (by simp [results, Tryd.results54, go_sem]) rfl ⟨_, _, _, rfl, ((Below.refl _ _).alloc (Nat.le_refl _) _).alloc (by simp) _⟩
  · go_enter Tryd.func54, Tryd.ntmps54
    go_wp2
    exact bodyPost_ret (v := .agg #[.slice (some ⟨w.heap.size + 1, 0, none⟩) 1 1, .int .i64 7, .bool false]) (by simp [results, Tryd.results54, go_sem]) rfl ⟨_, _, _, rfl, ((Below.refl _ _).alloc (Nat.le_refl _) _).alloc (by simp) _⟩
  · go_enter Tryd.func54, Tryd.ntmps54
    go_wp2
    exact bodyPost_ret (v := .agg #[.slice (some ⟨w.heap.size + 1, 0, none⟩) 1 1, .int .i64 7, .bool false]) (by simp [results, Tryd.results54, go_sem]) rfl ⟨_, _, _, rfl, ((Below.refl _ _).alloc (Nat.le_refl _) _).alloc (by simp) _⟩
set_option maxHeartbeats 8000000 in
theorem rShape_1 (o : Int) (w : World) (h1 : 14 ≤ o) (h2 : o ≤ 26) :
    Calls Tryd.prog 54 #[.int .i64 o] w (ShapeP o w) := by
  have ho : o = 14 ∨ o = 15 ∨ o = 16 ∨ o = 17 ∨ o = 18 ∨ o = 19 ∨ o = 20 ∨ o = 21 ∨ o = 22 ∨ o = 23 ∨ o = 24 ∨ o = 25 ∨ o = 26 := by omega
  clear h1 h2
  rcases ho with rfl | rfl | rfl | rfl | rfl | rfl | rfl | rfl | rfl | rfl | rfl | rfl | rfl
  · go_enter Tryd.func54, Tryd.ntmps54
    go_wp2
    exact bodyPost_ret (v := .agg #[.slice (some ⟨w.heap.size + 1, 0, none⟩) 1 1, .int .i64 2, .bool false]) (by simp [results, Tryd.results54, go_sem]) rfl ⟨_, _, _, rfl, ((Below.refl _ _).alloc (Nat.le_refl _) _).alloc (by simp) _⟩
  · go_enter Tryd.func54, Tryd.ntmps54
    go_wp2
    exact bodyPost_ret (v := .agg #[.slice (some ⟨w.heap.size + 1, 0, none⟩) 2 2, .int .i64 2, .bool false]) (by simp [results, Tryd.results54, go_sem]) rfl ⟨_, _, _, rfl, ((Below.refl _ _).alloc (Nat.le_refl _) _).alloc (by simp) _⟩
  · go_enter Tryd.func54, Tryd.ntmps54
    go_wp2
    exact bodyPost_ret (v := .agg #[.slice (some ⟨w.heap.size + 1, 0, none⟩) 2 2, .int .i64 2, .bool false]) (by simp [results, Tryd.results54, go_sem]) rfl ⟨_, _, _, rfl, ((Below.refl _ _).alloc (Nat.le_refl _) _).alloc (by simp) _⟩
  · go_enter Tryd.func54, Tryd.ntmps54
    go_wp2
    exact bodyPost_ret (v := .agg #[.slice (some ⟨w.heap.size + 1, 0, none⟩) 2 2, .int .i64 2, .bool false]) (by simp [results, Tryd.results54, go_sem]) rfl ⟨_, _, _, rfl, ((Below.refl _ _).alloc (Nat.le_refl _) _).alloc (by simp) _⟩
  · go_enter Tryd.func54, Tryd.ntmps54
    go_wp2
    exact bodyPost_ret (v := .agg #[.slice (some ⟨w.heap.size + 1, 0, none⟩) 2 2, .int .i64 2, .bool false]) (by simp [results, Tryd.results54, go_sem]) rfl ⟨_, _, _, rfl, ((Below.refl _ _).alloc (Nat.le_refl _) _).alloc (by simp) _⟩
  · go_enter Tryd.func54, Tryd.ntmps54
    go_wp2
    exact bodyPost_ret (v := .agg #[.slice (some ⟨w.heap.size + 1, 0, none⟩) 2 2, .int .i64 2, .bool false]) (by simp [results, Tryd.results54, go_sem]) rfl ⟨_, _, _, rfl, ((Below.refl _ _).alloc (Nat.le_refl _) _).alloc (by simp) _⟩
  · go_enter Tryd.func54, Tryd.ntmps54
    go_wp2
    exact bodyPost_ret (v := .agg #[.slice (some ⟨w.heap.size + 1, 0, none⟩) 1 1, .int .i64 2, .bool false]) (by simp [results, Tryd.results54, go_sem]) rfl ⟨_, _, _, rfl, ((Below.refl _ _).alloc (Nat.le_refl _) _).alloc (by simp) _⟩
  · go_enter Tryd.func54, Tryd.ntmps54
    go_wp2
    exact bodyPost_ret (v := .agg #[.slice (some ⟨w.heap.size + 1, 0, none⟩) 1 1, .int .i64 2, .bool false]) (by simp [results, Tryd.results54, go_sem]) rfl ⟨_, _, _, rfl, ((Below.refl _ _).alloc (Nat.le_refl _) _).alloc (by simp) _⟩
  · go_enter Tryd.func54, Tryd.ntmps54
    go_wp2
    exact bodyPost_ret (v := .agg #[.slice (some ⟨w.heap.size + 1, 0, none⟩) 1 1, .int .i64 2, .bool false]) (by simp [results, Tryd.results54, go_sem]) rfl ⟨_, _, _, rfl, ((Below.refl _ _).alloc (Nat.le_refl _) _).alloc (by simp) _⟩
  · go_enter Tryd.func54, Tryd.ntmps54
    go_wp2
    exact bodyPost_ret (v := .agg #[.slice (some ⟨w.heap.size + 1, 0, none⟩) 1 1, .int .i64 2, .bool false]) (by simp [results, Tryd.results54, go_sem]) rfl ⟨_, _, _, rfl, ((Below.refl _ _).alloc (Nat.le_refl _) _).alloc (by simp) _⟩
  · go_enter Tryd.func54, Tryd.ntmps54
    go_wp2
    exact bodyPost_ret (v := .agg #[.slice (some ⟨w.heap.size + 1, 0, none⟩) 1 1, .int .i64 (-2), .bool true]) (by simp [results, Tryd.results54, go_sem]) rfl ⟨_, _, _, rfl, ((Below.refl _ _).alloc (Nat.le_refl _) _).alloc (by simp) _⟩
  · go_enter Tryd.func54, Tryd.ntmps54
    go_wp2
    exact bodyPost_ret (v := .agg #[.slice (some ⟨w.heap.size + 1, 0, none⟩) 1 1, .int .i64 (-2), .bool true]) (by simp [results, Tryd.results54, go_sem]) rfl ⟨_, _, _, rfl, ((Below.refl _ _).alloc (Nat.le_refl _) _).alloc (by simp) _⟩
  · go_enter Tryd.func54, Tryd.ntmps54
    go_wp2
    exact bodyPost_ret (v := .agg #[.slice (some ⟨w.heap.size + 1, 0, none⟩) 3 3, .int .i64 (-1), .bool false]) (by simp [results, Tryd.results54, go_sem]) rfl ⟨_, _, _, rfl, ((Below.refl _ _).alloc (Nat.le_refl _) _).alloc (by simp) _⟩
set_option maxHeartbeats 8000000 in
theorem rShape_2 (o : Int) (w : World) (h1 : 27 ≤ o) (h2 : o ≤ 39) :
    Calls Tryd.prog 54 #[.int .i64 o] w (ShapeP o w) := by
  have ho : o = 27 ∨ o = 28 ∨ o = 29 ∨ o = 30 ∨ o = 31 ∨ o = 32 ∨ o = 33 ∨ o = 34 ∨ o = 35 ∨ o = 36 ∨ o = 37 ∨ o = 38 ∨ o = 39 := by omega
  clear h1 h2
  rcases ho with rfl | rfl | rfl | rfl | rfl | rfl | rfl | rfl | rfl | rfl | rfl | rfl | rfl
  · go_enter Tryd.func54, Tryd.ntmps54
    go_wp2
    exact bodyPost_ret (v := .agg #[.slice (some ⟨w.heap.size + 1, 0, none⟩) 2 2, .int .i64 (-1), .bool false]) (by simp [results, Tryd.results54, go_sem]) rfl ⟨_, _, _, rfl, ((Below.refl _ _).alloc (Nat.le_refl _) _).alloc (by simp) _⟩
  · go_enter Tryd.func54, Tryd.ntmps54
    go_wp2
    exact bodyPost_ret (v := .agg #[.slice (some ⟨w.heap.size + 1, 0, none⟩) 1 1, .int .i64 2, .bool false]) (by simp [results, Tryd.results54, go_sem]) rfl ⟨_, _, _, rfl, ((Below.refl _ _).alloc (Nat.le_refl _) _).alloc (by simp) _⟩
  · go_enter Tryd.func54, Tryd.ntmps54
    go_wp2
    exact bodyPost_ret (v := .agg #[.slice (some ⟨w.heap.size + 1, 0, none⟩) 1 1, .int .i64 2, .bool false]) (by simp [results, Tryd.results54, go_sem]) rfl ⟨_, _, _, rfl, ((Below.refl _ _).alloc (Nat.le_refl _) _).alloc (by simp) _⟩
  · go_enter Tryd.func54, Tryd.ntmps54
    go_wp2
    exact bodyPost_ret (v := .agg #[.slice (some ⟨w.heap.size + 1, 0, none⟩) 1 1, .int .i64 3, .bool false]) (by simp [results, Tryd.results54, go_sem]) rfl ⟨_, _, _, rfl, ((Below.refl _ _).alloc (Nat.le_refl _) _).alloc (by simp) _⟩
  · go_enter Tryd.func54, Tryd.ntmps54
    go_wp2
    exact bodyPost_ret (v := .agg #[.slice (some ⟨w.heap.size + 1, 0, none⟩) 2 2, .int .i64 3, .bool false]) (by simp [results, Tryd.results54, go_sem]) rfl ⟨_, _, _, rfl, ((Below.refl _ _).alloc (Nat.le_refl _) _).alloc (by simp) _⟩
  · go_enter Tryd.func54, Tryd.ntmps54
    go_wp2
    exact bodyPost_ret (v := .agg #[.slice (some ⟨w.heap.size + 1, 0, none⟩) 2 2, .int .i64 7, .bool false]) (by simp [results, Tryd.results54, go_sem]) rfl ⟨_, _, _, rfl, ((Below.refl _ _).alloc (Nat.le_refl _) _).alloc (by simp) _⟩
  · go_enter Tryd.func54, Tryd.ntmps54
    go_wp2
    exact bodyPost_ret (v := .agg #[.slice (some ⟨w.heap.size + 1, 0, none⟩) 2 2, .int .i64 7, .bool false]) (by simp [results, Tryd.results54, go_sem]) rfl ⟨_, _, _, rfl, ((Below.refl _ _).alloc (Nat.le_refl _) _).alloc (by simp) _⟩
  · go_enter Tryd.func54, Tryd.ntmps54
    go_wp2
    exact bodyPost_ret (v := .agg #[.slice (some ⟨w.heap.size + 1, 0, none⟩) 1 1, .int .i64 2, .bool false]) (by simp [results, Tryd.results54, go_sem]) rfl ⟨_, _, _, rfl, ((Below.refl _ _).alloc (Nat.le_refl _) _).alloc (by simp) _⟩
  · go_enter Tryd.func54, Tryd.ntmps54
    go_wp2
    exact bodyPost_ret (v := .agg #[.slice (some ⟨w.heap.size + 1, 0, none⟩) 1 1, .int .i64 2, .bool false]) (by simp [results, Tryd.results54, go_sem]) rfl ⟨_, _, _, rfl, ((Below.refl _ _).alloc (Nat.le_refl _) _).alloc (by simp) _⟩
  · go_enter Tryd.func54, Tryd.ntmps54
    go_wp2
    exact bodyPost_ret (v := .agg #[.slice (some ⟨w.heap.size + 1, 0, none⟩) 1 1, .int .i64 2, .bool false]) (by simp [results, Tryd.results54, go_sem]) rfl ⟨_, _, _, rfl, ((Below.refl _ _).alloc (Nat.le_refl _) _).alloc (by simp) _⟩
  · go_enter Tryd.func54, Tryd.ntmps54
    go_wp2
    exact bodyPost_ret (v := .agg #[.slice (some ⟨w.heap.size + 1, 0, none⟩) 2 2, .int .i64 2, .bool false]) (by simp [results, Tryd.results54, go_sem]) rfl ⟨_, _, _, rfl, ((Below.refl _ _).alloc (Nat.le_refl _) _).alloc (by simp) _⟩
  · go_enter Tryd.func54, Tryd.ntmps54
    go_wp2
    exact bodyPost_ret (v := .agg #[.slice (some ⟨w.heap.size + 1, 0, none⟩) 2 2, .int .i64 2, .bool false]) (by simp [results, Tryd.results54, go_sem]) rfl ⟨_, _, _, rfl, ((Below.refl _ _).alloc (Nat.le_refl _) _).alloc (by simp) _⟩
  · go_enter Tryd.func54, Tryd.ntmps54
    go_wp2
    exact bodyPost_ret (v := .agg #[.slice (some ⟨w.heap.size + 1, 0, none⟩) 2 2, .int .i64 6, .bool false]) (by simp [results, Tryd.results54, go_sem]) rfl ⟨_, _, _, rfl, ((Below.refl _ _).alloc (Nat.le_refl _) _).alloc (by simp) _⟩
theorem rShape_c (o : Int) (w : World) (h1 : 1 ≤ o) (h2 : o ≤ 39) : Calls Tryd.prog 54 #[.int .i64 o] w (ShapeP o w) := by
  by_cases h : o ≤ 13
  · exact rShape_0 o w h1 h
  by_cases h' : o ≤ 26
  · exact rShape_1 o w (by omega) h'
  · exact rShape_2 o w (by omega) h2
set_option maxHeartbeats 1000000 in
theorem rArity_c (o : Int) (n : Nat) (w : World) (h1 : 1 ≤ o) (h2 : o ≤ 39) :
    Calls Tryd.prog 73 #[.int .i64 o, .int .i64 n] w fun e w' => e = .returned (.bool (arityS o n)) ∧ Below w.heap.size w w' := by
  have hS := Lib.hid (rShape_c o w h1 h2)
  have hl : lenS o ≤ 3 := by unfold lenS; split <;> (try omega); split <;> omega
  by_cases hm : moreS o = true
  · have e : Hid (arityS o n = decide (2 ≤ (n : Int))) := by unfold Hid arityS; unfold moreS at hm; rw [if_pos (by simpa using hm)]
    have hS2 := Lib.hid (by have := hS.out; unfold ShapeP at this; rw [hm] at this; exact this)
    clear hS hm
    go_enter Tryd.func73, Tryd.ntmps73
    go_wp2_with fail
    refine hS2.out.mono ?_
    rintro e1 w1 ⟨a, c, r, rfl, hB⟩
    have HB := Lib.hid (hB.alloc hB.size (.cells #[.slice a (lenS o) c, .int .i64 r, .bool true] 96))
    clear hB
    go_wp2
    go_ret
    exact ⟨ret_bool e.out.symm, HB.out⟩
  · have e : Hid (arityS o n = ((n : Int) == (lenS o : Int))) := by
      unfold Hid arityS; unfold moreS at hm
      have hm' : ¬ (o = 2 ∨ o = 3 ∨ o = 24 ∨ o = 25) := by simpa using hm
      rw [if_neg hm']
      congr 1
      unfold leastS lenS
      split
      · rfl
      · split
        · rw [if_pos (by omega)]; rfl
        · rw [if_neg (by omega)]; rfl
    have hS2 := Lib.hid (by have := hS.out; unfold ShapeP at this; rw [show moreS o = false by simpa using hm] at this; exact this)
    clear hS hm
    go_enter Tryd.func73, Tryd.ntmps73
    go_wp2_with fail
    refine hS2.out.mono ?_
    rintro e1 w1 ⟨a, c, r, rfl, hB⟩
    have HB := Lib.hid (hB.alloc hB.size (.cells #[.slice a (lenS o) c, .int .i64 r, .bool false] 96))
    clear hB
    go_wp2
    go_ret
    exact ⟨ret_bool e.out.symm, HB.out⟩
end Go.Proofs.YtngijlmokhkdjaaDoor
