/-
  The reference's Check, for values of any parts.
-/
import Derived.Test.YtngijlmokhkdjaaDoorTxtChkV
namespace Go.Proofs.YtngijlmokhkdjaaDoor
open Go.RowKit

theorem IsL.len {w : World} {v : Value} {l : List Int} (h : IsL w v l) : ∃ a c, v = .slice a l.length c ∧ l.length ≤ 9223372036854775807 := by
  rcases h with ⟨a, c, rfl, rfl⟩ | ⟨b, off, cap, rfl, _, h3, _⟩
  · exact ⟨a, c, rfl, by simp⟩
  · exact ⟨_, cap, rfl, h3⟩
theorem IsL.cells {w : World} {a : Option Addr} {n c : Nat} {l : List Int} (h : IsL w (.slice a n c) l) (h0 : 0 < l.length) :
    ∃ b off, a = some ⟨b, off, none⟩ ∧ n = l.length ∧ ∀ j, j < l.length → w.cell? ⟨b, off + j, none⟩ = some (.int .i64 (l.getD j 0)) := by
  rcases h with ⟨a', c', e, rfl⟩ | ⟨b, off, cap, e, _, _, _, h5⟩
  · simp at h0
  · simp only [Value.slice.injEq] at e
    exact ⟨b, off, e.1, e.2.1, h5⟩

theorem within_y (n a b : Int) (w : World) (h1 : a ≤ n) (h2 : n ≤ b) :
    Calls Tryd.prog 28 #[.int .i64 n, .int .i64 a, .int .i64 b] w fun e w' => e = .returned (.bool true) ∧ w' = w := by
  go_enter Tryd.func28, Tryd.ntmps28
  go_wp2
  go_ret
  exact ⟨rfl, rfl⟩
theorem within_n (n a b : Int) (w : World) (h : n < a ∨ b < n) :
    Calls Tryd.prog 28 #[.int .i64 n, .int .i64 a, .int .i64 b] w fun e w' => e = .returned (.bool false) ∧ w' = w := by
  by_cases h1 : a ≤ n
  · have h2 : decide (n ≤ b) = false := by simp; omega
    clear h
    go_enter Tryd.func28, Tryd.ntmps28
    go_wp2
    go_ret
    exact ⟨rfl, rfl⟩
  · have h2 : decide (a ≤ n) = false := by simp; omega
    clear h h1
    go_enter Tryd.func28, Tryd.ntmps28
    go_wp2
    go_ret
    exact ⟨rfl, rfl⟩
theorem inRange_y (k n : Int) (w : World) (h : k = 1 ∨ k = 2 ∨ k = 4 ∨ k = 6 ∨ k = 7) (h1 : lo k ≤ n) (h2 : n ≤ hi k) :
    Calls Tryd.prog 61 #[.int .i64 k, .int .i64 n] w fun e w' => e = .returned (.bool true) ∧ w' = w := by
  rcases h with rfl | rfl | rfl | rfl | rfl
  all_goals
    simp [lo] at h1
    simp [hi] at h2
    go_enter Tryd.func61, Tryd.ntmps61
    go_wp2_with (go_at_call 28; refine (within_y _ _ _ _ h1 h2).mono ?_; rintro e w' ⟨rfl, rfl⟩)
    go_ret
    exact ⟨rfl, rfl⟩
theorem inRange_n (k n : Int) (w : World) (h : k = 1 ∨ k = 2 ∨ k = 4 ∨ k = 6 ∨ k = 7) (h1 : n < lo k ∨ hi k < n) :
    Calls Tryd.prog 61 #[.int .i64 k, .int .i64 n] w fun e w' => e = .returned (.bool false) ∧ w' = w := by
  rcases h with rfl | rfl | rfl | rfl | rfl
  all_goals
    simp [lo, hi] at h1
    have H := Lib.hid h1; clear h1
    go_enter Tryd.func61, Tryd.ntmps61
    go_wp2_with (go_at_call 28; refine (within_n _ _ _ _ H.out).mono ?_; rintro e w' ⟨rfl, rfl⟩)
    go_ret
    exact ⟨rfl, rfl⟩
theorem inRange_o (k n : Int) (w : World) (h : k = 0 ∨ k = 3 ∨ k = 5) :
    Calls Tryd.prog 61 #[.int .i64 k, .int .i64 n] w fun e w' => e = .returned (.bool true) ∧ w' = w := by
  rcases h with rfl | rfl | rfl
  all_goals
    go_enter Tryd.func61, Tryd.ntmps61
    go_wp2
    go_ret
    exact ⟨rfl, rfl⟩

set_option maxHeartbeats 8000000 in
theorem ref_kind (k n : Int) (s : ByteArray) (v : Value) (l : List Int) (w : World) (hk : k < 0 ∨ 7 < k) :
    Calls Tryd.prog 41 #[.agg #[.int .i64 k, .int .i64 n, .string s, v]] w fun e w' => e = .returned (.int .i64 (cChk k n s l)) ∧ Below w.heap.size w w' := by
  have e : Hid (cChk k n s l = 4) := by unfold Hid cChk; rw [if_pos hk]
  have HK := Lib.hid hk
  have k1 : (k == 1) = false := by simp; omega
  have k2 : (k == 2) = false := by simp; omega
  have k4 : (k == 4) = false := by simp; omega
  have k6 : (k == 6) = false := by simp; omega
  have k7 : (k == 7) = false := by simp; omega
  clear hk
  go_enter Tryd.func41, Tryd.ntmps41
  go_wp2_with fail
  refine (within_n _ _ _ _ HK.out).mono ?_
  rintro e w' ⟨rfl, rfl⟩
  go_wp2
  go_ret
  exact ⟨by rw [e.out]; rfl, (Below.refl _ _).alloc (Nat.le_refl _) _⟩

set_option maxHeartbeats 8000000 in
theorem ref_text (k n : Int) (s : ByteArray) (v : Value) (l : List Int) (w : World) (h : k = 1 ∨ k = 2 ∨ k = 4 ∨ k = 6 ∨ k = 7) (hs : s.size ≠ 0) :
    Calls Tryd.prog 41 #[.agg #[.int .i64 k, .int .i64 n, .string s, v]] w fun e w' => e = .returned (.int .i64 (cChk k n s l)) ∧ Below w.heap.size w w' := by
  have e : Hid (cChk k n s l = 3) := by
    rcases h with rfl | rfl | rfl | rfl | rfl <;> (unfold Hid cChk; simp [hs, usesN])
  rcases h with rfl | rfl | rfl | rfl | rfl
  all_goals
    obtain ⟨s1, s2⟩ := text_some hs
    clear hs
    go_enter Tryd.func41, Tryd.ntmps41
    go_wp2_with fail
    refine (within_y _ _ _ _ (by omega) (by omega)).mono ?_
    rintro e w' ⟨rfl, rfl⟩
    go_wp2
    go_ret
    exact ⟨by rw [e.out]; rfl, (Below.refl _ _).alloc (Nat.le_refl _) _⟩

set_option maxHeartbeats 8000000 in
theorem ref_set (k n : Int) (b off c : Nat) (l : List Int) (w : World) (h : k = 1 ∨ k = 2 ∨ k = 4 ∨ k = 6 ∨ k = 7) (hl : 0 < l.length) :
    Calls Tryd.prog 41 #[.agg #[.int .i64 k, .int .i64 n, .string ⟨#[]⟩, .slice (some ⟨b, off, none⟩) l.length c]] w fun e w' => e = .returned (.int .i64 (cChk k n ⟨#[]⟩ l)) ∧ Below w.heap.size w w' := by
  have e : Hid (cChk k n ⟨#[]⟩ l = 3) := by
    rcases h with rfl | rfl | rfl | rfl | rfl <;> (unfold Hid cChk; rw [if_neg (by omega), if_pos (.inr (.inr ⟨by omega, by omega⟩))])
  rcases h with rfl | rfl | rfl | rfl | rfl
  all_goals
    have hl' : (0 : Int) < (l.length : Int) := by omega
    clear hl
    go_enter Tryd.func41, Tryd.ntmps41
    go_wp2_with fail
    refine (within_y _ _ _ _ (by omega) (by omega)).mono ?_
    rintro e w' ⟨rfl, rfl⟩
    go_wp2
    go_ret
    exact ⟨by rw [e.out]; rfl, (Below.refl _ _).alloc (Nat.le_refl _) _⟩

set_option maxHeartbeats 8000000 in
theorem ref_range (k n : Int) (a : Option Addr) (c : Nat) (w : World) (h : k = 1 ∨ k = 2 ∨ k = 4 ∨ k = 6 ∨ k = 7) (hn : n < lo k ∨ hi k < n) :
    Calls Tryd.prog 41 #[.agg #[.int .i64 k, .int .i64 n, .string ⟨#[]⟩, .slice a 0 c]] w fun e w' => e = .returned (.int .i64 (cChk k n ⟨#[]⟩ [])) ∧ Below w.heap.size w w' := by
  have e : Hid (cChk k n ⟨#[]⟩ [] = 1) := by
    rcases h with rfl | rfl | rfl | rfl | rfl <;> (unfold Hid cChk; rw [if_neg (by omega), if_neg (by rintro (⟨h, _⟩ | ⟨_, h⟩ | ⟨_, h⟩) <;> first | exact h rfl | exact h (by simp [usesN])), if_pos ⟨by simp [usesN], hn⟩])
  rcases h with rfl | rfl | rfl | rfl | rfl
  all_goals
    have HN := Lib.hid hn; clear hn
    go_enter Tryd.func41, Tryd.ntmps41
    go_wp2_with fail
    refine (within_y _ _ _ _ (by omega) (by omega)).mono ?_
    rintro e w' ⟨rfl, rfl⟩
    go_wp2_with fail
    (first | (with_reducible refine (inRange_n 1 _ _ (by simp) HN.out).mono ?_) | (with_reducible refine (inRange_n 2 _ _ (by simp) HN.out).mono ?_) | (with_reducible refine (inRange_n 4 _ _ (by simp) HN.out).mono ?_) | (with_reducible refine (inRange_n 6 _ _ (by simp) HN.out).mono ?_) | (with_reducible refine (inRange_n 7 _ _ (by simp) HN.out).mono ?_))
    rintro e w' ⟨rfl, rfl⟩
    go_wp2
    go_ret
    exact ⟨by rw [e.out]; rfl, (Below.refl _ _).alloc (Nat.le_refl _) _⟩

set_option maxHeartbeats 8000000 in
theorem ref_ok (k n : Int) (a : Option Addr) (c : Nat) (w : World) (h : k = 1 ∨ k = 2 ∨ k = 4 ∨ k = 6 ∨ k = 7) (hn : lo k ≤ n ∧ n ≤ hi k) :
    Calls Tryd.prog 41 #[.agg #[.int .i64 k, .int .i64 n, .string ⟨#[]⟩, .slice a 0 c]] w fun e w' => e = .returned (.int .i64 (cChk k n ⟨#[]⟩ [])) ∧ Below w.heap.size w w' := by
  have e : Hid (cChk k n ⟨#[]⟩ [] = 0) := by
    rcases h with rfl | rfl | rfl | rfl | rfl <;> (unfold Hid cChk; rw [if_neg (by omega), if_neg (by rintro (⟨h, _⟩ | ⟨_, h⟩ | ⟨_, h⟩) <;> first | exact h rfl | exact h (by simp [usesN])), if_neg (by omega), if_neg (by omega), if_neg (by omega)])
  rcases h with rfl | rfl | rfl | rfl | rfl
  all_goals
    have HN := Lib.hid hn; clear hn
    go_enter Tryd.func41, Tryd.ntmps41
    go_wp2_with fail
    refine (within_y _ _ _ _ (by omega) (by omega)).mono ?_
    rintro e w' ⟨rfl, rfl⟩
    go_wp2_with fail
    (first | (with_reducible refine (inRange_y 1 _ _ (by simp) HN.out.1 HN.out.2).mono ?_) | (with_reducible refine (inRange_y 2 _ _ (by simp) HN.out.1 HN.out.2).mono ?_) | (with_reducible refine (inRange_y 4 _ _ (by simp) HN.out.1 HN.out.2).mono ?_) | (with_reducible refine (inRange_y 6 _ _ (by simp) HN.out.1 HN.out.2).mono ?_) | (with_reducible refine (inRange_y 7 _ _ (by simp) HN.out.1 HN.out.2).mono ?_))
    rintro e w' ⟨rfl, rfl⟩
    go_wp2_with fail
    go_loop [4, 86] (fun _ i => i = .int .i64 0) (fun _ _ => 0)
    case atStart => rfl
    case round =>
      obtain rfl := hrel
      go_wp2_with fail
      go_loop [6, 105] (fun _ i => i = .int .i64 0) (fun _ _ => 0)
      case atStart => rfl
      case round =>
        obtain rfl := hrel
        go_wp2_with fail
        go_loop [7] (fun i => i = .int .i64 1) (fun _ => 0)
        case atStart => rfl
        case round =>
          obtain rfl := hrel
          go_wp2
          go_ret
          exact ⟨by rw [e.out]; rfl, (Below.refl _ _).alloc (Nat.le_refl _) _⟩

set_option maxHeartbeats 8000000 in
theorem ref_plain_n (k n : Int) (s : ByteArray) (v : Value) (l : List Int) (w : World) (h : k = 0 ∨ k = 3 ∨ k = 5) (hn : n ≠ 0) :
    Calls Tryd.prog 41 #[.agg #[.int .i64 k, .int .i64 n, .string s, v]] w fun e w' => e = .returned (.int .i64 (cChk k n s l)) ∧ Below w.heap.size w w' := by
  have e : Hid (cChk k n s l = 3) := by
    rcases h with rfl | rfl | rfl <;> (unfold Hid cChk; simp [hn, usesN])
  rcases h with rfl | rfl | rfl
  all_goals
    have n1 : (n != 0) = true := by simp [hn]
    clear hn
    go_enter Tryd.func41, Tryd.ntmps41
    go_wp2_with fail
    refine (within_y _ _ _ _ (by omega) (by omega)).mono ?_
    rintro e w' ⟨rfl, rfl⟩
    go_wp2
    go_ret
    exact ⟨by rw [e.out]; rfl, (Below.refl _ _).alloc (Nat.le_refl _) _⟩

set_option maxHeartbeats 8000000 in
theorem ref_plain_text (k : Int) (s : ByteArray) (v : Value) (l : List Int) (w : World) (h : k = 0 ∨ k = 5) (hs : s.size ≠ 0) :
    Calls Tryd.prog 41 #[.agg #[.int .i64 k, .int .i64 0, .string s, v]] w fun e w' => e = .returned (.int .i64 (cChk k 0 s l)) ∧ Below w.heap.size w w' := by
  have e : Hid (cChk k 0 s l = 3) := by
    rcases h with rfl | rfl <;> (unfold Hid cChk; simp [hs, usesN])
  rcases h with rfl | rfl
  all_goals
    obtain ⟨s1, s2⟩ := text_some hs
    clear hs
    go_enter Tryd.func41, Tryd.ntmps41
    go_wp2_with fail
    refine (within_y _ _ _ _ (by omega) (by omega)).mono ?_
    rintro e w' ⟨rfl, rfl⟩
    go_wp2
    go_ret
    exact ⟨by rw [e.out]; rfl, (Below.refl _ _).alloc (Nat.le_refl _) _⟩

set_option maxHeartbeats 8000000 in
theorem ref_plain_set (k : Int) (b off c : Nat) (s : ByteArray) (l : List Int) (w : World) (h : k = 0 ∧ s = ⟨#[]⟩ ∨ k = 3) (hl : 0 < l.length) :
    Calls Tryd.prog 41 #[.agg #[.int .i64 k, .int .i64 0, .string s, .slice (some ⟨b, off, none⟩) l.length c]] w fun e w' => e = .returned (.int .i64 (cChk k 0 s l)) ∧ Below w.heap.size w w' := by
  have e : Hid (cChk k 0 s l = 3) := by
    rcases h with ⟨rfl, rfl⟩ | rfl <;> (unfold Hid cChk; rw [if_neg (by omega), if_pos (.inr (.inr ⟨by omega, by omega⟩))])
  rcases h with ⟨rfl, rfl⟩ | rfl
  all_goals
    have hl' : (0 : Int) < (l.length : Int) := by omega
    clear hl
    go_enter Tryd.func41, Tryd.ntmps41
    go_wp2_with fail
    refine (within_y _ _ _ _ (by omega) (by omega)).mono ?_
    rintro e w' ⟨rfl, rfl⟩
    go_wp2
    go_ret
    exact ⟨by rw [e.out]; rfl, (Below.refl _ _).alloc (Nat.le_refl _) _⟩

set_option maxHeartbeats 8000000 in
theorem ref_none_ok (a : Option Addr) (c : Nat) (w : World) :
    Calls Tryd.prog 41 #[.agg #[.int .i64 0, .int .i64 0, .string ⟨#[]⟩, .slice a 0 c]] w fun e w' => e = .returned (.int .i64 (cChk 0 0 ⟨#[]⟩ [])) ∧ Below w.heap.size w w' := by
  have e : Hid (cChk 0 0 ⟨#[]⟩ [] = 0) := by unfold Hid cChk; rw [if_neg (by omega), if_neg (by rintro (⟨_, h⟩ | ⟨_, h⟩ | ⟨_, h⟩) <;> exact h rfl), if_neg (by simp [usesN]), if_neg (by omega), if_neg (by omega)]
  go_enter Tryd.func41, Tryd.ntmps41
  go_wp2_with fail
  refine (within_y _ _ _ _ (by omega) (by omega)).mono ?_
  rintro e w' ⟨rfl, rfl⟩
  go_wp2_with fail
  refine (inRange_o 0 _ _ (by simp)).mono ?_
  rintro e w' ⟨rfl, rfl⟩
  go_wp2_with fail
  go_loop [4, 86] (fun _ i => i = .int .i64 0) (fun _ _ => 0)
  case atStart => rfl
  case round =>
    obtain rfl := hrel
    go_wp2_with fail
    go_loop [6, 105] (fun _ i => i = .int .i64 0) (fun _ _ => 0)
    case atStart => rfl
    case round =>
      obtain rfl := hrel
      go_wp2_with fail
      go_loop [7] (fun i => i = .int .i64 1) (fun _ => 0)
      case atStart => rfl
      case round =>
        obtain rfl := hrel
        go_wp2
        go_ret
        exact ⟨by rw [e.out]; rfl, (Below.refl _ _).alloc (Nat.le_refl _) _⟩

end Go.Proofs.YtngijlmokhkdjaaDoor
