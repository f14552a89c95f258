/-
  The functions of package value on days, each by a contract: what it returns, and that nothing that was there has changed.
-/
import Derived.Test.YtleiapoaoiapbaaDoorRows
import Derived.Test.YtleiapoaoiapbaaDoorDaysMath
import Derived.WalkKit
import Derived.WalkSpells
import Derived.Deep.QuietTactic
import Derived.BigQuiet
import Derived.Lib.Hide
namespace Go.Proofs.YtleiapoaoiapbaaDoor
open Go.RowKit

theorem ret_int {k : IntKind} {a b : Int} (h : a = b) : Ending.returned (.int k a) = .returned (.int k b) := by rw [h]
theorem ret_bool {a b : Bool} (h : a = b) : Ending.returned (.bool a) = .returned (.bool b) := by rw [h]

theorem isDay_yes (n : Int) (w : World) (h1 : -25567 ≤ n) (h2 : n ≤ 84005) :
    Calls Tryd.prog 14 #[.int .i64 n] w fun e w' => e = .returned (.bool true) ∧ w = w' := by
  go_enter Tryd.func14, Tryd.ntmps14
  go_wp2
  go_ret
  exact ⟨rfl, rfl⟩
theorem isDay_no (n : Int) (w : World) (h : n < -25567 ∨ 84005 < n) :
    Calls Tryd.prog 14 #[.int .i64 n] w fun e w' => e = .returned (.bool false) ∧ w = w' := by
  rcases h with h | h
  · go_enter Tryd.func14, Tryd.ntmps14
    go_wp2
    go_ret
    exact ⟨rfl, rfl⟩
  · have h' : -25567 ≤ n := by omega
    have h2 : decide (n ≤ 84005) = false := by simp; omega
    go_enter Tryd.func14, Tryd.ntmps14
    go_wp2
    go_ret
    exact ⟨rfl, rfl⟩

theorem isLeap_any (y : Int) (w : World) (h1 : 1 ≤ y) (h2 : y ≤ 10000) :
    Calls Tryd.prog 24 #[.int .i64 y] w fun e w' => e = .returned (.bool (Cal.leapB y)) ∧ w = w' := by
  by_cases a : y % 4 = 0
  · have a' : (y % 4 == 0) = true := by simpa using a
    by_cases b : y % 100 = 0
    · have b' : (y % 100 != 0) = false := by simpa using b
      by_cases c : y % 400 = 0
      · have c' : (y % 400 == 0) = true := by simpa using c
        have hl : Hid (Cal.leapB y = true) := by unfold Hid Cal.leapB; simp; omega
        clear a b c
        go_enter Tryd.func24, Tryd.ntmps24
        go_wp2
        go_ret
        exact ⟨by rw [hl.out]; rfl, rfl⟩
      · have c' : (y % 400 == 0) = false := by simpa using c
        have hl : Hid (Cal.leapB y = false) := by unfold Hid Cal.leapB; simp; omega
        clear a b c
        go_enter Tryd.func24, Tryd.ntmps24
        go_wp2
        go_ret
        exact ⟨by rw [hl.out]; rfl, rfl⟩
    · have b' : (y % 100 != 0) = true := by simpa using b
      have hl : Hid (Cal.leapB y = true) := by unfold Hid Cal.leapB; simp; omega
      clear a b
      go_enter Tryd.func24, Tryd.ntmps24
      go_wp2
      go_ret
      exact ⟨by rw [hl.out]; rfl, rfl⟩
  · have a' : (y % 4 == 0) = false := by simpa using a
    have c' : (y % 400 == 0) = false := by simp; omega
    have hl : Hid (Cal.leapB y = false) := by unfold Hid Cal.leapB; simp; omega
    clear a
    go_enter Tryd.func24, Tryd.ntmps24
    go_wp2
    go_ret
    exact ⟨by rw [hl.out]; rfl, rfl⟩

theorem leapsAhead_any (y : Int) (w : World) (h1 : 1 ≤ y) (h2 : y ≤ 10000) :
    Calls Tryd.prog 25 #[.int .i64 y] w fun e w' => e = .returned (.int .i64 (Cal.ahead y)) ∧ w = w' := by
  go_enter Tryd.func25, Tryd.ntmps25
  go_wp2
  go_ret
  exact ⟨ret_int (by unfold Cal.ahead; omega), rfl⟩

theorem daysAhead_any (y : Int) (w : World) (h1 : 1 ≤ y) (h2 : y ≤ 10000) :
    Calls Tryd.prog 22 #[.int .i64 y] w fun e w' => e = .returned (.int .i64 (Cal.dby y)) ∧ w = w' := by
  obtain ⟨b1, b2⟩ := Cal.ahead_bd y h1 h2
  obtain ⟨b3, b4⟩ := Cal.ahead_bd 1970 (by omega) (by omega)
  go_enter Tryd.func22, Tryd.ntmps22
  go_wp2_with (go_at_call 25; refine (leapsAhead_any _ _ (by omega) (by omega)).mono ?_; rintro e w' ⟨rfl, rfl⟩)
  go_ret
  exact ⟨ret_int (by have h : Cal.ahead 1970 = 477 := by decide
                     unfold Cal.dby; omega), rfl⟩

/-! ### The table of the months. -/
/-- What the table of the lengths of the months holds. -/
structure Tab (w : World) : Prop where
  c0 : w.cell? ⟨0, 0, none⟩ = some (.int .i64 31)
  c1 : w.cell? ⟨0, 1, none⟩ = some (.int .i64 28)
  c2 : w.cell? ⟨0, 2, none⟩ = some (.int .i64 31)
  c3 : w.cell? ⟨0, 3, none⟩ = some (.int .i64 30)
  c4 : w.cell? ⟨0, 4, none⟩ = some (.int .i64 31)
  c5 : w.cell? ⟨0, 5, none⟩ = some (.int .i64 30)
  c6 : w.cell? ⟨0, 6, none⟩ = some (.int .i64 31)
  c7 : w.cell? ⟨0, 7, none⟩ = some (.int .i64 31)
  c8 : w.cell? ⟨0, 8, none⟩ = some (.int .i64 30)
  c9 : w.cell? ⟨0, 9, none⟩ = some (.int .i64 31)
  c10 : w.cell? ⟨0, 10, none⟩ = some (.int .i64 30)
  c11 : w.cell? ⟨0, 11, none⟩ = some (.int .i64 31)
  some : 0 < w.heap.size
theorem Tab.below {w w' : World} (h : Tab w) (hb : Below w.heap.size w w') : Tab w' := by
  have c := fun o => hb.cell (p := ⟨0, o, none⟩) h.some
  have hs := hb.size
  have h0 := h.some
  exact ⟨by rw [c]; exact h.c0, by rw [c]; exact h.c1, by rw [c]; exact h.c2, by rw [c]; exact h.c3, by rw [c]; exact h.c4, by rw [c]; exact h.c5, by rw [c]; exact h.c6, by rw [c]; exact h.c7, by rw [c]; exact h.c8, by rw [c]; exact h.c9, by rw [c]; exact h.c10, by rw [c]; exact h.c11, by omega⟩

theorem Tab.alloc {w : World} (h : Tab w) (o : Obj) : Tab (w.alloc o) := h.below ((Below.refl _ _).alloc (Nat.le_refl _) o)
set_option maxHeartbeats 1000000 in
theorem lengthOf_any (y m : Int) (w : World) (hT : Tab w) (h1 : 1 ≤ y) (h2 : y ≤ 10000) (h3 : 1 ≤ m) (h4 : m ≤ 12) :
    Calls Tryd.prog 21 #[.int .i64 y, .int .i64 m] w fun e w' => e = .returned (.int .i64 (Cal.dim y m)) ∧ w = w' := by
  have hm : m = 1 ∨ m = 2 ∨ m = 3 ∨ m = 4 ∨ m = 5 ∨ m = 6 ∨ m = 7 ∨ m = 8 ∨ m = 9 ∨ m = 10 ∨ m = 11 ∨ m = 12 := by omega
  clear h3 h4
  have c0 := hT.c0
  have c1 := hT.c1
  have c2 := hT.c2
  have c3 := hT.c3
  have c4 := hT.c4
  have c5 := hT.c5
  have c6 := hT.c6
  have c7 := hT.c7
  have c8 := hT.c8
  have c9 := hT.c9
  have c10 := hT.c10
  have c11 := hT.c11
  clear hT
  rcases hm with rfl | rfl | rfl | rfl | rfl | rfl | rfl | rfl | rfl | rfl | rfl | rfl
  case inr.inl =>
    cases hl : Cal.leapB y with
    | true =>
      have Hl := Lib.hid hl; clear hl
      go_enter Tryd.func21, Tryd.ntmps21
      go_wp2_with (go_at_call 24; refine (isLeap_any _ _ h1 h2).mono ?_; rw [Hl.out]; rintro e w' ⟨rfl, rfl⟩)
      go_ret
      exact ⟨ret_int (by simp [Cal.dim, Cal.lp_yes Hl.out]), rfl⟩
    | false =>
      have Hl := Lib.hid hl; clear hl
      go_enter Tryd.func21, Tryd.ntmps21
      go_wp2_with (go_at_call 24; refine (isLeap_any _ _ h1 h2).mono ?_; rw [Hl.out]; rintro e w' ⟨rfl, rfl⟩)
      go_ret
      exact ⟨ret_int (by simp [Cal.dim, Cal.lp_no Hl.out]), rfl⟩
  all_goals
    go_enter Tryd.func21, Tryd.ntmps21
    go_wp2
    go_ret
    exact ⟨ret_int (by simp [Cal.dim]), rfl⟩

/-! ### The date of a day. -/
/-- A date with the number n. -/
def DateOf (n y m d : Int) : Prop := Cal.Valid y m d ∧ 1900 ≤ y ∧ y ≤ 2199 ∧ Cal.num y m d = n
def CivilPost (n : Int) (w : World) (e : Ending) (w' : World) : Prop :=
  ∃ y m d : Int, e = .returned (.tuple #[.int .i64 y, .int .i64 m, .int .i64 d]) ∧ DateOf n y m d ∧ w = w'

set_option maxHeartbeats 2000000 in
theorem civil_any (n : Int) (w : World) (hT : Tab w) (h1 : -25567 ≤ n) (h2 : n ≤ 84005) :
    Calls Tryd.prog 15 #[.int .i64 n] w (CivilPost n w) := by
  have g0 := Cal.dby_guess ((n + 25567) / 366) (by omega)
  go_enter Tryd.func15, Tryd.ntmps15
  go_wp2
  go_loop [5] (fun t => ∃ y : Int, 1900 ≤ y ∧ y ≤ 2199 ∧ Cal.dby y ≤ n ∧ t = .int .i64 y) (fun t => (2199 - intOf t).toNat)
  case atStart => exact ⟨1900 + (n + 25567) / 366, by omega, by omega, by omega, rfl⟩
  case round =>
    obtain ⟨y, hy1, hy2, hy3, rfl⟩ := hrel
    clear g0
    by_cases hc : Cal.dby (y + 1) ≤ n
    · have hlt : y < 2199 := by
        rcases Int.lt_or_le y 2199 with h | h
        · exact h
        · obtain rfl : y = 2199 := by omega
          have := Cal.dby_2200
          rw [show (2199 : Int) + 1 = 2200 from rfl] at hc
          omega
      go_wp2_with (go_at_call 22; refine (daysAhead_any _ _ (by omega) (by omega)).mono ?_; rintro e w' ⟨rfl, rfl⟩)
      go_round
      case rel => exact ⟨y + 1, by omega, by omega, hc, rfl⟩
      case measure => simp [intOf]; omega
    · have hz : n < Cal.dby (y + 1) := by omega
      have hs := Cal.dby_succ y
      have hl := Cal.lp_01 y
      have hb := Cal.dby_bd y (by omega) (by omega)
      have hS := Lib.hid hs; clear hs
      clear hc
      go_wp2_with (go_at_call 22; refine (daysAhead_any _ _ (by omega) (by omega)).mono ?_; rintro e w' ⟨rfl, rfl⟩)
      go_loop [6, 7] (fun r k => ∃ m : Int, 1 ≤ m ∧ m ≤ 12 ∧ k = .int .i64 m ∧ 0 ≤ n - Cal.dby y - Cal.cum y m ∧ r = .int .i64 (n - Cal.dby y - Cal.cum y m)) (fun _ k => (12 - intOf k).toNat)
      case atStart => exact ⟨1, by omega, by omega, rfl, by rw [Cal.cum_1]; omega, by rw [Cal.cum_1]; simp⟩
      case round =>
        obtain ⟨m, hm1, hm2, rfl, hr, rfl⟩ := hrel
        have cb := Cal.cum_bd y m hm1 (by omega)
        have db := Cal.dim_bd y m
        have cs := Lib.hid (Cal.cum_succ y m hm1 hm2)
        by_cases hd : Cal.dim y m ≤ n - Cal.dby y - Cal.cum y m
        · have hm : m < 12 := by
            rcases Int.lt_or_le m 12 with h | h
            · exact h
            · obtain rfl : m = 12 := by omega
              have c := cs.out
              have c13 := Cal.cum_13 y
              have s := hS.out
              rw [show (12 : Int) + 1 = 13 from rfl] at c
              omega
          go_wp2_with (go_at_call 21; refine (lengthOf_any _ _ _ hT (by omega) (by omega) (by omega) (by omega)).mono ?_; rintro e w' ⟨rfl, rfl⟩)
          go_round
          case rel => exact ⟨m + 1, by omega, by omega, by go_num, by rw [cs.out]; omega, by rw [cs.out]; go_num⟩
          case measure => simp [intOf]; omega
        · go_wp2_with (go_at_call 21; refine (lengthOf_any _ _ _ hT (by omega) (by omega) (by omega) (by omega)).mono ?_; rintro e w' ⟨rfl, rfl⟩)
          go_ret3
          exact ⟨y, m, n - Cal.dby y - Cal.cum y m + 1, rfl, ⟨⟨hm1, hm2, by omega, by omega⟩, hy1, hy2, by unfold Cal.num; omega⟩, rfl⟩

/-! ### The exported functions. -/
def CivilFPost (n : Int) (w : World) (e : Ending) (w' : World) : Prop :=
  ∃ y m d : Int, e = .returned (.tuple #[.int .i64 y, .int .i64 m, .int .i64 d, .int .i64 0]) ∧ DateOf n y m d ∧ w = w'
theorem Civil_yes (n : Int) (w : World) (hT : Tab w) (h1 : -25567 ≤ n) (h2 : n ≤ 84005) :
    Calls Tryd.prog 5 #[.int .i64 n] w (CivilFPost n w) := by
  go_enter Tryd.func5, Tryd.ntmps5
  go_wp2_with (first | (go_at_call 14; refine (isDay_yes _ _ h1 h2).mono ?_; rintro e w' ⟨rfl, rfl⟩) | (go_at_call 15; refine (civil_any _ _ hT h1 h2).mono ?_; rintro e w' ⟨y, m, d, rfl, hd, rfl⟩))
  refine bodyPost_ret (v := .tuple #[.int .i64 y, .int .i64 m, .int .i64 d, .int .i64 0]) (by simp [results, Tryd.results5, go_sem]) rfl ⟨y, m, d, rfl, hd, rfl⟩
theorem Civil_no (n : Int) (w : World) (h : n < -25567 ∨ 84005 < n) :
    Calls Tryd.prog 5 #[.int .i64 n] w fun e w' => e = .returned (.tuple #[.int .i64 0, .int .i64 0, .int .i64 0, .int .i64 1]) ∧ w = w' := by
  have H := Lib.hid h; clear h
  go_enter Tryd.func5, Tryd.ntmps5
  go_wp2_with (go_at_call 14; refine (isDay_no _ _ H.out).mono ?_; rintro e w' ⟨rfl, rfl⟩)
  refine bodyPost_ret (v := .tuple #[.int .i64 0, .int .i64 0, .int .i64 0, .int .i64 1]) (by simp [results, Tryd.results5, go_sem]) rfl ⟨rfl, rfl⟩
theorem Weekday_yes (n : Int) (w : World) (h1 : -25567 ≤ n) (h2 : n ≤ 84005) :
    Calls Tryd.prog 7 #[.int .i64 n] w fun e w' => e = .returned (.tuple #[.int .i64 ((n + 25567) % 7), .int .i64 0]) ∧ w = w' := by
  go_enter Tryd.func7, Tryd.ntmps7
  go_wp2_with (go_at_call 14; refine (isDay_yes _ _ h1 h2).mono ?_; rintro e w' ⟨rfl, rfl⟩)
  go_ret2
  exact ⟨rfl, rfl⟩
theorem Weekday_no (n : Int) (w : World) (h : n < -25567 ∨ 84005 < n) :
    Calls Tryd.prog 7 #[.int .i64 n] w fun e w' => e = .returned (.tuple #[.int .i64 0, .int .i64 1]) ∧ w = w' := by
  have H := Lib.hid h; clear h
  go_enter Tryd.func7, Tryd.ntmps7
  go_wp2_with (go_at_call 14; refine (isDay_no _ _ H.out).mono ?_; rintro e w' ⟨rfl, rfl⟩)
  go_ret2
  exact ⟨rfl, rfl⟩

/-- A value of the kind Day. -/
abbrev dayV (n : Int) : Value := .agg #[.int .i64 6, .int .i64 n, .string ⟨#[]⟩, .slice none 0 0]
set_option maxHeartbeats 1000000 in
theorem Date_yes (y m d : Int) (w : World) (hT : Tab w) (h1 : 1900 ≤ y) (h2 : y ≤ 2199) (hv : Cal.Valid y m d) :
    Calls Tryd.prog 10 #[.int .i64 y, .int .i64 m, .int .i64 d] w fun e w' => e = .returned (dayV (Cal.num y m d)) ∧ Below w.heap.size w w' := by
  obtain ⟨v1, v2, v3, v4⟩ := hv
  have hb := Cal.dby_bd y (by omega) (by omega)
  have hd := Cal.dim_bd y m
  go_enter Tryd.func10, Tryd.ntmps10
  go_wp2_with (first | (go_at_call 21; refine (lengthOf_any _ _ _ (hT.alloc _) (by omega) (by omega) (by omega) (by omega)).mono ?_; rintro e w' ⟨rfl, rfl⟩) | (go_at_call 22; refine (daysAhead_any _ _ (by omega) (by omega)).mono ?_; rintro e w' ⟨rfl, rfl⟩))
  go_loop [7, 8] (fun r k => ∃ j : Int, 1 ≤ j ∧ j ≤ m ∧ k = .int .i64 j ∧ r = .int .i64 (Cal.dby y + d - 1 + Cal.cum y j)) (fun _ k => (12 - intOf k).toNat)
  case atStart => exact ⟨1, by omega, by omega, rfl, by rw [Cal.cum_1]; simp⟩
  case round =>
    obtain ⟨j, hj1, hj2, rfl, rfl⟩ := hrel
    have cb := Cal.cum_bd y j hj1 (by omega)
    have db := Cal.dim_bd y j
    have cs := Lib.hid (Cal.cum_succ y j hj1 (by omega))
    by_cases hlt : j < m
    · go_wp2_with (go_at_call 21; refine (lengthOf_any _ _ _ (hT.alloc _) (by omega) (by omega) (by omega) (by omega)).mono ?_; rintro e w' ⟨rfl, rfl⟩)
      go_round
      case rel => exact ⟨j + 1, by omega, by omega, by go_num, by rw [cs.out]; go_num⟩
      case measure => simp [intOf]; omega
    · obtain rfl : j = m := by omega
      have hn : Hid (Cal.dby y + d - 1 + Cal.cum y j = Cal.num y j d) := by unfold Hid Cal.num; omega
      go_wp2
      refine bodyPost_ret (v := dayV (Cal.num y j d)) (by simp [results, Tryd.results10, go_sem, hn.out]) rfl ⟨rfl, ?_⟩
      exact (Below.refl _ _).alloc (Nat.le_refl _) _

/-! ### Equal values. -/
theorem equal_nil (w : World) :
    Calls Tryd.prog 20 #[.slice none 0 0, .slice none 0 0] w fun e w' => e = .returned (.bool true) ∧ w = w' := by
  go_enter Tryd.func20, Tryd.ntmps20
  go_wp2
  go_loop [5, 13] (fun _ i => i = .int .i64 0) (fun _ _ => 0)
  case atStart => rfl
  case round =>
    obtain rfl := hrel
    go_wp2
    go_ret
    exact ⟨rfl, rfl⟩
set_option maxHeartbeats 1000000 in
theorem same_day (n : Int) (w : World) :
    Calls Tryd.prog 9 #[dayV n, dayV n] w fun e w' => e = .returned (.bool true) ∧ Below w.heap.size w w' := by
  go_enter Tryd.func9, Tryd.ntmps9
  go_wp2_with (go_at_call 20; refine (equal_nil _).mono ?_; rintro e w' ⟨rfl, rfl⟩)
  go_ret
  exact ⟨rfl, ((Below.refl _ _).alloc (Nat.le_refl _) _).alloc (by simp) _⟩

/-! ### The law. -/
theorem law_out (n : Int) (w : World) (h : n < -25567 ∨ 84005 < n) :
    Calls Tryd.prog 4 #[.int .i64 n] w fun e w' => e = .returned (.bool true) ∧ Below w.heap.size w w' := by
  rcases h with h | h
  · go_enter Tryd.func4, Tryd.ntmps4
    go_wp2_with (go_at_call 5; refine (Civil_no _ _ (.inl h)).mono ?_; rintro e w' ⟨rfl, rfl⟩)
    go_ret
    exact ⟨rfl, Below.refl _ _⟩
  · have h1 : decide (n < -25567) = false := by simp; omega
    go_enter Tryd.func4, Tryd.ntmps4
    go_wp2_with (go_at_call 5; refine (Civil_no _ _ (.inr h)).mono ?_; rintro e w' ⟨rfl, rfl⟩)
    go_ret
    exact ⟨rfl, Below.refl _ _⟩

set_option maxHeartbeats 4000000 in
theorem law_in (n : Int) (w : World) (hT : Tab w) (h1 : -25567 ≤ n) (h2 : n ≤ 84005) :
    Calls Tryd.prog 4 #[.int .i64 n] w fun e w' => e = .returned (.bool true) ∧ Below w.heap.size w w' := by
  have HT := Lib.hid hT; clear hT
  go_enter Tryd.func4, Tryd.ntmps4
  go_wp2_with fail
  refine (Civil_yes _ _ HT.out h1 h2).mono ?_
  rintro e w' ⟨y, m, d, rfl, hd, rfl⟩
  have HD := Lib.hid hd; clear hd
  go_wp2_with fail
  refine (Date_yes _ _ _ _ HT.out HD.out.2.1 HD.out.2.2.1 HD.out.1).mono ?_
  rintro e w1 ⟨rfl, hb1⟩
  have HB1 := Lib.hid hb1; clear hb1
  rw [HD.out.2.2.2]
  go_wp2_with fail
  refine (same_day _ _).mono ?_
  rintro e w2 ⟨rfl, hb2⟩
  have HB2 := Lib.hid (HB1.out.trans (hb2.mono HB1.out.size)); clear hb2
  have HT2 := Lib.hid (HT.out.below HB2.out)
  by_cases h3 : n = 84005
  · subst h3
    go_wp2_with fail
    refine (Civil_no _ _ (by omega)).mono ?_
    rintro e w' ⟨rfl, rfl⟩
    go_wp2
    go_ret
    exact ⟨rfl, HB2.out⟩
  · have h4 : n < 84005 := by omega
    clear h3
    go_wp2_with fail
    refine (Civil_yes _ _ HT2.out (by omega) (by omega)).mono ?_
    rintro e w' ⟨p, q, r, rfl, hd, rfl⟩
    have HP := Lib.hid hd; clear hd
    have hx := Cal.next_date y m d p q r HD.out.1 HP.out.1 (by rw [HP.out.2.2.2, HD.out.2.2.2])
    have hw : ((n + 25567 + 1) % 7 == (n + 1 + 25567) % 7) = true := by rw [beq_iff_eq]; omega
    obtain ⟨⟨m1, m2, d1, d2⟩, y1, y2, _⟩ := HD.out
    have d3 := (Cal.dim_bd y m).2
    have d4 : d ≤ 31 := by omega
    clear d2 d3
    go_wp2_with fail
    refine (Weekday_yes _ _ (by omega) (by omega)).mono ?_
    rintro e w' ⟨rfl, rfl⟩
    go_wp2_with fail
    refine (Weekday_yes _ _ (by omega) (by omega)).mono ?_
    rintro e w' ⟨rfl, rfl⟩
    rcases hx with ⟨rfl, rfl, rfl⟩ | ⟨rfl, rfl, rfl⟩ | ⟨rfl, rfl, rfl, rfl⟩
    · go_wp2
      go_ret
      exact ⟨rfl, HB2.out⟩
    · have e1 : (m + 1 == m) = false := by rw [beq_eq_false_iff_ne]; omega
      go_wp2
      go_ret
      exact ⟨rfl, HB2.out⟩
    · have e1 : (y + 1 == y) = false := by rw [beq_eq_false_iff_ne]; omega
      go_wp2
      go_ret
      exact ⟨rfl, HB2.out⟩
end Go.Proofs.YtleiapoaoiapbaaDoor
