/-
  value.Check, for values of any parts.
-/
import Derived.Test.YtngijlmokhkdjaaDoorTxtChk
namespace Go.Proofs.YtngijlmokhkdjaaDoor
open Go.RowKit

def usesN (k : Int) : Prop := k = 1 ∨ k = 2 ∨ k = 4 ∨ k = 6 ∨ k = 7
def lo (k : Int) : Int := if k = 1 then 1 else if k = 2 then -999999999999999 else if k = 4 then 1 else if k = 6 then -25567 else 0
def hi (k : Int) : Int := if k = 1 then 3 else if k = 2 then 999999999999999 else if k = 4 then 999 else if k = 6 then 84005 else if k = 7 then 1 else 0
open Classical in
noncomputable def cChk (k n : Int) (s : ByteArray) (l : List Int) : Int :=
  if k < 0 ∨ 7 < k then 4
  else if (¬ usesN k ∧ n ≠ 0) ∨ (k ≠ 3 ∧ s.size ≠ 0) ∨ (k ≠ 5 ∧ l.length ≠ 0) then 3
  else if usesN k ∧ (n < lo k ∨ hi k < n) then 1
  else if k = 3 then cText s else if k = 5 then cSet l else 0

theorem bounds_c (k a b : Int) (u : Bool) (w : World) (h : (k = 0 ∧ a = 0 ∧ b = 0 ∧ u = false) ∨ (k = 1 ∧ a = 1 ∧ b = 3 ∧ u = true) ∨ (k = 2 ∧ a = -999999999999999 ∧ b = 999999999999999 ∧ u = true) ∨ (k = 3 ∧ a = 0 ∧ b = 0 ∧ u = false) ∨ (k = 4 ∧ a = 1 ∧ b = 999 ∧ u = true) ∨ (k = 5 ∧ a = 0 ∧ b = 0 ∧ u = false) ∨ (k = 6 ∧ a = -25567 ∧ b = 84005 ∧ u = true) ∨ (k = 7 ∧ a = 0 ∧ b = 1 ∧ u = true)) :
    Calls Tryd.prog 77 #[.int .i64 k] w fun e w' => e = .returned (.tuple #[.int .i64 a, .int .i64 b, .bool u]) ∧ w' = w := by
  rcases h with ⟨rfl, rfl, rfl, rfl⟩ | ⟨rfl, rfl, rfl, rfl⟩ | ⟨rfl, rfl, rfl, rfl⟩ | ⟨rfl, rfl, rfl, rfl⟩ | ⟨rfl, rfl, rfl, rfl⟩ | ⟨rfl, rfl, rfl, rfl⟩ | ⟨rfl, rfl, rfl, rfl⟩ | ⟨rfl, rfl, rfl, rfl⟩
  all_goals
    go_enter Tryd.func77, Tryd.ntmps77
    go_wp2
    go_ret3
    exact ⟨rfl, rfl⟩

/-- A list of the length 0, or longer: as the walk sees its slice. -/
theorem empty_of {s : ByteArray} (h : s.size = 0) : s = ⟨#[]⟩ := by
  cases s with
  | mk d => simp only [ByteArray.size, ByteArray.mk.injEq] at h ⊢; exact Array.eq_empty_of_size_eq_zero h

set_option maxHeartbeats 1000000 in
theorem check_kind (k n : Int) (s : ByteArray) (v : Value) (l : List Int) (w : World) (hk : k < 0 ∨ 7 < k) :
    Calls Tryd.prog 57 #[.agg #[.int .i64 k, .int .i64 n, .string s, v]] w fun e w' => e = .returned (.int .i64 (cChk k n s l)) ∧ Below w.heap.size w w' := by
  have e : Hid (cChk k n s l = 4) := by unfold Hid cChk; rw [if_pos hk]
  rcases hk with hk | hk
  · go_enter Tryd.func57, Tryd.ntmps57
    go_wp2
    go_ret
    exact ⟨by rw [e.out]; rfl, (Below.refl _ _).alloc (Nat.le_refl _) _⟩
  · have h1 : decide (k < 0) = false := by simp; omega
    go_enter Tryd.func57, Tryd.ntmps57
    go_wp2
    go_ret
    exact ⟨by rw [e.out]; rfl, (Below.refl _ _).alloc (Nat.le_refl _) _⟩

theorem IsL.form {w : World} {v : Value} {l : List Int} (h : IsL w v l) : ∃ a n c, v = .slice a n c := by
  rcases h with ⟨a, c, rfl, _⟩ | ⟨b, off, cap, rfl, _⟩
  · exact ⟨a, 0, c, rfl⟩
  · exact ⟨_, _, cap, rfl⟩
/-- The walk's words for a text that is not empty. -/
theorem text_some {s : ByteArray} (h : s.size ≠ 0) : ¬ s.toList = [] ∧ s.toList.isEmpty = false := by
  have e : s.toList = s.data.toList := Lib.toList_data s
  have h' : s.data.toList ≠ [] := by
    intro hn; apply h
    have := congrArg List.length hn
    simpa using this
  rw [e]
  exact ⟨h', by simpa using h'⟩
set_option maxHeartbeats 4000000 in
theorem uses_text (k n : Int) (s : ByteArray) (v : Value) (l : List Int) (w : World) (h : k = 1 ∨ k = 2 ∨ k = 4 ∨ k = 6 ∨ k = 7) (hs : s.size ≠ 0) :
    Calls Tryd.prog 57 #[.agg #[.int .i64 k, .int .i64 n, .string s, v]] w fun e w' => e = .returned (.int .i64 (cChk k n s l)) ∧ Below w.heap.size w w' := by
  have e : Hid (cChk k n s l = 3) := by
    rcases h with rfl | rfl | rfl | rfl | rfl <;> (unfold Hid cChk; simp [hs, usesN])
  rcases h with rfl | rfl | rfl | rfl | rfl
  all_goals
    obtain ⟨s1, s2⟩ := text_some hs
    clear hs
    go_enter Tryd.func57, Tryd.ntmps57
    go_wp2_with fail
    (first | (with_reducible refine (bounds_c 1 1 3 true _ (by simp)).mono ?_) | (with_reducible refine (bounds_c 2 (-999999999999999) 999999999999999 true _ (by simp)).mono ?_) | (with_reducible refine (bounds_c 4 1 999 true _ (by simp)).mono ?_) | (with_reducible refine (bounds_c 6 (-25567) 84005 true _ (by simp)).mono ?_) | (with_reducible refine (bounds_c 7 0 1 true _ (by simp)).mono ?_))
    rintro e w' ⟨rfl, rfl⟩
    go_wp2
    go_ret
    exact ⟨by rw [e.out]; rfl, (Below.refl _ _).alloc (Nat.le_refl _) _⟩

set_option maxHeartbeats 4000000 in
theorem uses_set (k n : Int) (b off c : Nat) (l : List Int) (w : World) (h : k = 1 ∨ k = 2 ∨ k = 4 ∨ k = 6 ∨ k = 7) (hl : 0 < l.length) :
    Calls Tryd.prog 57 #[.agg #[.int .i64 k, .int .i64 n, .string ⟨#[]⟩, .slice (some ⟨b, off, none⟩) l.length c]] w fun e w' => e = .returned (.int .i64 (cChk k n ⟨#[]⟩ l)) ∧ Below w.heap.size w w' := by
  have e : Hid (cChk k n ⟨#[]⟩ l = 3) := by
    rcases h with rfl | rfl | rfl | rfl | rfl <;> (unfold Hid cChk; rw [if_neg (by omega), if_pos (.inr (.inr ⟨by omega, by omega⟩))])
  rcases h with rfl | rfl | rfl | rfl | rfl
  all_goals
    have hl' : (0 : Int) < (l.length : Int) := by omega
    clear hl
    go_enter Tryd.func57, Tryd.ntmps57
    go_wp2_with fail
    (first | (with_reducible refine (bounds_c 1 1 3 true _ (by simp)).mono ?_) | (with_reducible refine (bounds_c 2 (-999999999999999) 999999999999999 true _ (by simp)).mono ?_) | (with_reducible refine (bounds_c 4 1 999 true _ (by simp)).mono ?_) | (with_reducible refine (bounds_c 6 (-25567) 84005 true _ (by simp)).mono ?_) | (with_reducible refine (bounds_c 7 0 1 true _ (by simp)).mono ?_))
    rintro e w' ⟨rfl, rfl⟩
    go_wp2
    go_ret
    exact ⟨by rw [e.out]; rfl, (Below.refl _ _).alloc (Nat.le_refl _) _⟩

set_option maxHeartbeats 4000000 in
theorem uses_low (k n : Int) (a : Option Addr) (c : Nat) (w : World) (h : k = 1 ∨ k = 2 ∨ k = 4 ∨ k = 6 ∨ k = 7) (hn : n < lo k) :
    Calls Tryd.prog 57 #[.agg #[.int .i64 k, .int .i64 n, .string ⟨#[]⟩, .slice a 0 c]] w fun e w' => e = .returned (.int .i64 (cChk k n ⟨#[]⟩ [])) ∧ Below w.heap.size w w' := by
  have e : Hid (cChk k n ⟨#[]⟩ [] = 1) := by
    rcases h with rfl | rfl | rfl | rfl | rfl <;> (unfold Hid cChk; rw [if_neg (by omega), if_neg (by rintro (⟨h, _⟩ | ⟨_, h⟩ | ⟨_, h⟩) <;> first | exact h rfl | exact h (by simp [usesN])), if_pos ⟨by simp [usesN], .inl hn⟩])
  rcases h with rfl | rfl | rfl | rfl | rfl
  all_goals
    simp [lo] at hn
    go_enter Tryd.func57, Tryd.ntmps57
    go_wp2_with fail
    (first | (with_reducible refine (bounds_c 1 1 3 true _ (by simp)).mono ?_) | (with_reducible refine (bounds_c 2 (-999999999999999) 999999999999999 true _ (by simp)).mono ?_) | (with_reducible refine (bounds_c 4 1 999 true _ (by simp)).mono ?_) | (with_reducible refine (bounds_c 6 (-25567) 84005 true _ (by simp)).mono ?_) | (with_reducible refine (bounds_c 7 0 1 true _ (by simp)).mono ?_))
    rintro e w' ⟨rfl, rfl⟩
    go_wp2
    go_ret
    exact ⟨by rw [e.out]; rfl, (Below.refl _ _).alloc (Nat.le_refl _) _⟩

set_option maxHeartbeats 4000000 in
theorem uses_high (k n : Int) (a : Option Addr) (c : Nat) (w : World) (h : k = 1 ∨ k = 2 ∨ k = 4 ∨ k = 6 ∨ k = 7) (hn : hi k < n) :
    Calls Tryd.prog 57 #[.agg #[.int .i64 k, .int .i64 n, .string ⟨#[]⟩, .slice a 0 c]] w fun e w' => e = .returned (.int .i64 (cChk k n ⟨#[]⟩ [])) ∧ Below w.heap.size w w' := by
  have e : Hid (cChk k n ⟨#[]⟩ [] = 1) := by
    rcases h with rfl | rfl | rfl | rfl | rfl <;> (unfold Hid cChk; rw [if_neg (by omega), if_neg (by rintro (⟨h, _⟩ | ⟨_, h⟩ | ⟨_, h⟩) <;> first | exact h rfl | exact h (by simp [usesN])), if_pos ⟨by simp [usesN], .inr hn⟩])
  rcases h with rfl | rfl | rfl | rfl | rfl
  all_goals
    simp [hi] at hn
    first | (have h1 : decide (n < 1) = false := by simp; omega) | (have h1 : decide (n < -999999999999999) = false := by simp; omega) | (have h1 : decide (n < -25567) = false := by simp; omega) | (have h1 : decide (n < 0) = false := by simp; omega)
    go_enter Tryd.func57, Tryd.ntmps57
    go_wp2_with fail
    (first | (with_reducible refine (bounds_c 1 1 3 true _ (by simp)).mono ?_) | (with_reducible refine (bounds_c 2 (-999999999999999) 999999999999999 true _ (by simp)).mono ?_) | (with_reducible refine (bounds_c 4 1 999 true _ (by simp)).mono ?_) | (with_reducible refine (bounds_c 6 (-25567) 84005 true _ (by simp)).mono ?_) | (with_reducible refine (bounds_c 7 0 1 true _ (by simp)).mono ?_))
    rintro e w' ⟨rfl, rfl⟩
    go_wp2
    go_ret
    exact ⟨by rw [e.out]; rfl, (Below.refl _ _).alloc (Nat.le_refl _) _⟩

set_option maxHeartbeats 4000000 in
theorem uses_ok (k n : Int) (a : Option Addr) (c : Nat) (w : World) (h : k = 1 ∨ k = 2 ∨ k = 4 ∨ k = 6 ∨ k = 7) (hn : lo k ≤ n) (hm : n ≤ hi k) :
    Calls Tryd.prog 57 #[.agg #[.int .i64 k, .int .i64 n, .string ⟨#[]⟩, .slice a 0 c]] w fun e w' => e = .returned (.int .i64 (cChk k n ⟨#[]⟩ [])) ∧ Below w.heap.size w w' := by
  have e : Hid (cChk k n ⟨#[]⟩ [] = 0) := by
    rcases h with rfl | rfl | rfl | rfl | rfl <;> (unfold Hid cChk; rw [if_neg (by omega), if_neg (by rintro (⟨h, _⟩ | ⟨_, h⟩ | ⟨_, h⟩) <;> first | exact h rfl | exact h (by simp [usesN])), if_neg (by omega), if_neg (by omega), if_neg (by omega)])
  rcases h with rfl | rfl | rfl | rfl | rfl
  all_goals
    simp [lo] at hn
    simp [hi] at hm
    go_enter Tryd.func57, Tryd.ntmps57
    go_wp2_with fail
    (first | (with_reducible refine (bounds_c 1 1 3 true _ (by simp)).mono ?_) | (with_reducible refine (bounds_c 2 (-999999999999999) 999999999999999 true _ (by simp)).mono ?_) | (with_reducible refine (bounds_c 4 1 999 true _ (by simp)).mono ?_) | (with_reducible refine (bounds_c 6 (-25567) 84005 true _ (by simp)).mono ?_) | (with_reducible refine (bounds_c 7 0 1 true _ (by simp)).mono ?_))
    rintro e w' ⟨rfl, rfl⟩
    go_wp2
    go_ret
    exact ⟨by rw [e.out]; rfl, (Below.refl _ _).alloc (Nat.le_refl _) _⟩

set_option maxHeartbeats 4000000 in
theorem plain_n (k n : Int) (s : ByteArray) (v : Value) (l : List Int) (w : World) (h : k = 0 ∨ k = 3 ∨ k = 5) (hn : n ≠ 0) :
    Calls Tryd.prog 57 #[.agg #[.int .i64 k, .int .i64 n, .string s, v]] w fun e w' => e = .returned (.int .i64 (cChk k n s l)) ∧ Below w.heap.size w w' := by
  have e : Hid (cChk k n s l = 3) := by
    rcases h with rfl | rfl | rfl <;> (unfold Hid cChk; simp [hn, usesN])
  rcases h with rfl | rfl | rfl
  all_goals
    have n1 : (n != 0) = true := by simp [hn]
    clear hn
    go_enter Tryd.func57, Tryd.ntmps57
    go_wp2_with fail
    (first | (with_reducible refine (bounds_c 0 0 0 false _ (by simp)).mono ?_) | (with_reducible refine (bounds_c 3 0 0 false _ (by simp)).mono ?_) | (with_reducible refine (bounds_c 5 0 0 false _ (by simp)).mono ?_))
    rintro e w' ⟨rfl, rfl⟩
    go_wp2
    go_ret
    exact ⟨by rw [e.out]; rfl, (Below.refl _ _).alloc (Nat.le_refl _) _⟩

set_option maxHeartbeats 4000000 in
theorem plain_text (k : Int) (s : ByteArray) (v : Value) (l : List Int) (w : World) (h : k = 0 ∨ k = 5) (hs : s.size ≠ 0) :
    Calls Tryd.prog 57 #[.agg #[.int .i64 k, .int .i64 0, .string s, v]] w fun e w' => e = .returned (.int .i64 (cChk k 0 s l)) ∧ Below w.heap.size w w' := by
  have e : Hid (cChk k 0 s l = 3) := by
    rcases h with rfl | rfl <;> (unfold Hid cChk; simp [hs, usesN])
  rcases h with rfl | rfl
  all_goals
    obtain ⟨s1, s2⟩ := text_some hs
    clear hs
    go_enter Tryd.func57, Tryd.ntmps57
    go_wp2_with fail
    (first | (with_reducible refine (bounds_c 0 0 0 false _ (by simp)).mono ?_) | (with_reducible refine (bounds_c 3 0 0 false _ (by simp)).mono ?_) | (with_reducible refine (bounds_c 5 0 0 false _ (by simp)).mono ?_))
    rintro e w' ⟨rfl, rfl⟩
    go_wp2
    go_ret
    exact ⟨by rw [e.out]; rfl, (Below.refl _ _).alloc (Nat.le_refl _) _⟩

set_option maxHeartbeats 4000000 in
theorem none_set (b off c : Nat) (l : List Int) (w : World) (hl : 0 < l.length) :
    Calls Tryd.prog 57 #[.agg #[.int .i64 0, .int .i64 0, .string ⟨#[]⟩, .slice (some ⟨b, off, none⟩) l.length c]] w fun e w' => e = .returned (.int .i64 (cChk 0 0 ⟨#[]⟩ l)) ∧ Below w.heap.size w w' := by
  have e : Hid (cChk 0 0 ⟨#[]⟩ l = 3) := by unfold Hid cChk; rw [if_neg (by omega), if_pos (.inr (.inr ⟨by omega, by omega⟩))]
  have hl' : (0 : Int) < (l.length : Int) := by omega
  clear hl
  go_enter Tryd.func57, Tryd.ntmps57
  go_wp2_with fail
  refine (bounds_c 0 0 0 false _ (by simp)).mono ?_
  rintro e w' ⟨rfl, rfl⟩
  go_wp2
  go_ret
  exact ⟨by rw [e.out]; rfl, (Below.refl _ _).alloc (Nat.le_refl _) _⟩

set_option maxHeartbeats 4000000 in
theorem text_set (b off c : Nat) (s : ByteArray) (l : List Int) (w : World) (hl : 0 < l.length) :
    Calls Tryd.prog 57 #[.agg #[.int .i64 3, .int .i64 0, .string s, .slice (some ⟨b, off, none⟩) l.length c]] w fun e w' => e = .returned (.int .i64 (cChk 3 0 s l)) ∧ Below w.heap.size w w' := by
  have e : Hid (cChk 3 0 s l = 3) := by unfold Hid cChk; rw [if_neg (by omega), if_pos (.inr (.inr ⟨by omega, by omega⟩))]
  have hl' : (0 : Int) < (l.length : Int) := by omega
  clear hl
  go_enter Tryd.func57, Tryd.ntmps57
  go_wp2_with fail
  refine (bounds_c 3 0 0 false _ (by simp)).mono ?_
  rintro e w' ⟨rfl, rfl⟩
  go_wp2
  go_ret
  exact ⟨by rw [e.out]; rfl, (Below.refl _ _).alloc (Nat.le_refl _) _⟩

set_option maxHeartbeats 4000000 in
theorem none_ok (a : Option Addr) (c : Nat) (w : World) :
    Calls Tryd.prog 57 #[.agg #[.int .i64 0, .int .i64 0, .string ⟨#[]⟩, .slice a 0 c]] w fun e w' => e = .returned (.int .i64 (cChk 0 0 ⟨#[]⟩ [])) ∧ Below w.heap.size w w' := by
  have e : Hid (cChk 0 0 ⟨#[]⟩ [] = 0) := by unfold Hid cChk; rw [if_neg (by omega), if_neg (by rintro (⟨_, h⟩ | ⟨_, h⟩ | ⟨_, h⟩) <;> exact h rfl), if_neg (by simp [usesN]), if_neg (by omega), if_neg (by omega)]
  go_enter Tryd.func57, Tryd.ntmps57
  go_wp2_with fail
  refine (bounds_c 0 0 0 false _ (by simp)).mono ?_
  rintro e w' ⟨rfl, rfl⟩
  go_wp2
  go_ret
  exact ⟨by rw [e.out]; rfl, (Below.refl _ _).alloc (Nat.le_refl _) _⟩

set_option maxHeartbeats 4000000 in
theorem text_ok (a : Option Addr) (c : Nat) (s : ByteArray) (w : World) (hz : s.size ≤ 9223372036854775807) :
    Calls Tryd.prog 57 #[.agg #[.int .i64 3, .int .i64 0, .string s, .slice a 0 c]] w fun e w' => e = .returned (.int .i64 (cChk 3 0 s [])) ∧ Below w.heap.size w w' := by
  have e : Hid (cChk 3 0 s [] = cText s) := by unfold Hid cChk; simp [usesN]
  go_enter Tryd.func57, Tryd.ntmps57
  go_wp2_with fail
  refine (bounds_c 3 0 0 false _ (by simp)).mono ?_
  rintro e w' ⟨rfl, rfl⟩
  go_wp2_with fail
  refine (checkText_c _ _ hz).mono ?_
  rintro e w' ⟨rfl, rfl⟩
  go_wp2
  go_ret
  exact ⟨ret_int (by rw [e.out]), (Below.refl _ _).alloc (Nat.le_refl _) _⟩

set_option maxHeartbeats 4000000 in
theorem set_ok (v : Value) (l : List Int) (w : World) (hv : IsL w v l) :
    Calls Tryd.prog 57 #[.agg #[.int .i64 5, .int .i64 0, .string ⟨#[]⟩, v]] w fun e w' => e = .returned (.int .i64 (cChk 5 0 ⟨#[]⟩ l)) ∧ Below w.heap.size w w' := by
  have e : Hid (cChk 5 0 ⟨#[]⟩ l = cSet l) := by unfold Hid cChk; rw [if_neg (by omega), if_neg (by rintro (⟨_, h⟩ | ⟨_, h⟩ | ⟨h, _⟩) <;> exact h rfl), if_neg (by simp [usesN]), if_neg (by omega), if_pos rfl]
  obtain ⟨a, n, c, rfl⟩ := hv.form
  have HV := Lib.hid hv; clear hv
  go_enter Tryd.func57, Tryd.ntmps57
  go_wp2_with fail
  refine (bounds_c 5 0 0 false _ (by simp)).mono ?_
  rintro e w' ⟨rfl, rfl⟩
  go_wp2_with fail
  refine (checkSet_c _ l _ (HV.out.alloc _)).mono ?_
  rintro e w' ⟨rfl, hD⟩
  have HD := Lib.hid hD; clear hD
  go_wp2
  go_ret
  exact ⟨ret_int (by rw [e.out]), HD.out.below ((Below.refl _ _).alloc (Nat.le_refl _) _)⟩

theorem check_c (k n : Int) (s : ByteArray) (v : Value) (l : List Int) (w : World) (hv : IsL w v l) (hz : s.size ≤ 9223372036854775807) :
    Calls Tryd.prog 57 #[.agg #[.int .i64 k, .int .i64 n, .string s, v]] w fun e w' => e = .returned (.int .i64 (cChk k n s l)) ∧ Below w.heap.size w w' := by
  by_cases hk : k < 0 ∨ 7 < k
  · exact check_kind k n s v l w hk
  · by_cases hu : k = 1 ∨ k = 2 ∨ k = 4 ∨ k = 6 ∨ k = 7
    · by_cases hs : s.size = 0
      · obtain rfl := empty_of hs
        rcases hv with ⟨a, c, rfl, rfl⟩ | ⟨b, off, cap, rfl, g2, _⟩
        · by_cases h1 : n < lo k
          · exact uses_low k n a c w hu h1
          · by_cases h2 : hi k < n
            · exact uses_high k n a c w hu h2
            · exact uses_ok k n a c w hu (by omega) (by omega)
        · exact uses_set k n b off cap l w hu g2
      · exact uses_text k n s v l w hu hs
    · have hk' : k = 0 ∨ k = 3 ∨ k = 5 := by omega
      by_cases hn : n = 0
      · subst hn
        rcases hk' with rfl | rfl | rfl
        · by_cases hs : s.size = 0
          · obtain rfl := empty_of hs
            rcases hv with ⟨a, c, rfl, rfl⟩ | ⟨b, off, cap, rfl, g2, _⟩
            · exact none_ok a c w
            · exact none_set b off cap l w g2
          · exact plain_text 0 s v l w (.inl rfl) hs
        · rcases hv with ⟨a, c, rfl, rfl⟩ | ⟨b, off, cap, rfl, g2, _⟩
          · exact text_ok a c s w hz
          · exact text_set b off cap s l w g2
        · by_cases hs : s.size = 0
          · obtain rfl := empty_of hs
            exact set_ok v l w hv
          · exact plain_text 5 s v l w (.inr rfl) hs
      · exact plain_n k n s v l w hk' hn
end Go.Proofs.YtngijlmokhkdjaaDoor
