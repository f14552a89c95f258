/-
  The functions of package value on days that texts need, each by a contract.
-/
import Derived.Test.YtcdifmnakppfkaaGreatDoorTxtBase
import Derived.Test.YtcdifmnakppfkaaGreatDoorDaysMath
namespace Go.Proofs.YtcdifmnakppfkaaGreatDoor
open Go.RowKit

theorem isLeap_any (y : Int) (w : World) (h1 : 1 ≤ y) (h2 : y ≤ 10000) :
    Calls Tryz.prog 139 #[.int .i64 y] w fun e w' => e = .returned (.bool (Cal.leapB y)) ∧ w = w' := by
  by_cases a : y % 4 = 0
  · have a' : (y % 4 == 0) = true := by simpa using a
    by_cases b : y % 100 = 0
    · have b' : (y % 100 != 0) = false := by simpa using b
      by_cases c : y % 400 = 0
      · have c' : (y % 400 == 0) = true := by simpa using c
        have hl : Hid (Cal.leapB y = true) := by unfold Hid Cal.leapB; simp; omega
        clear a b c
        go_enter Tryz.func139, Tryz.ntmps139
        go_wp2
        go_ret
        exact ⟨by rw [hl.out]; rfl, rfl⟩
      · have c' : (y % 400 == 0) = false := by simpa using c
        have hl : Hid (Cal.leapB y = false) := by unfold Hid Cal.leapB; simp; omega
        clear a b c
        go_enter Tryz.func139, Tryz.ntmps139
        go_wp2
        go_ret
        exact ⟨by rw [hl.out]; rfl, rfl⟩
    · have b' : (y % 100 != 0) = true := by simpa using b
      have hl : Hid (Cal.leapB y = true) := by unfold Hid Cal.leapB; simp; omega
      clear a b
      go_enter Tryz.func139, Tryz.ntmps139
      go_wp2
      go_ret
      exact ⟨by rw [hl.out]; rfl, rfl⟩
  · have a' : (y % 4 == 0) = false := by simpa using a
    have c' : (y % 400 == 0) = false := by simp; omega
    have hl : Hid (Cal.leapB y = false) := by unfold Hid Cal.leapB; simp; omega
    clear a
    go_enter Tryz.func139, Tryz.ntmps139
    go_wp2
    go_ret
    exact ⟨by rw [hl.out]; rfl, rfl⟩

theorem leapsAhead_any (y : Int) (w : World) (h1 : 1 ≤ y) (h2 : y ≤ 10000) :
    Calls Tryz.prog 138 #[.int .i64 y] w fun e w' => e = .returned (.int .i64 (Cal.ahead y)) ∧ w = w' := by
  go_enter Tryz.func138, Tryz.ntmps138
  go_wp2
  go_ret
  exact ⟨ret_int (by unfold Cal.ahead; omega), rfl⟩

theorem daysAhead_any (y : Int) (w : World) (h1 : 1 ≤ y) (h2 : y ≤ 10000) :
    Calls Tryz.prog 120 #[.int .i64 y] w fun e w' => e = .returned (.int .i64 (Cal.dby y)) ∧ w = w' := by
  obtain ⟨b1, b2⟩ := Cal.ahead_bd y h1 h2
  obtain ⟨b3, b4⟩ := Cal.ahead_bd 1970 (by omega) (by omega)
  go_enter Tryz.func120, Tryz.ntmps120
  go_wp2_with (go_at_call 138; refine (leapsAhead_any _ _ (by omega) (by omega)).mono ?_; rintro e w' ⟨rfl, rfl⟩)
  go_ret
  exact ⟨ret_int (by have h : Cal.ahead 1970 = 477 := by decide
                     unfold Cal.dby; omega), rfl⟩

/-! ### The table of the months. -/
/-- What the table of the lengths of the months holds. -/
structure Tab (w : World) : Prop where
  c0 : w.cell? ⟨5, 0, none⟩ = some (.int .i64 31)
  c1 : w.cell? ⟨5, 1, none⟩ = some (.int .i64 28)
  c2 : w.cell? ⟨5, 2, none⟩ = some (.int .i64 31)
  c3 : w.cell? ⟨5, 3, none⟩ = some (.int .i64 30)
  c4 : w.cell? ⟨5, 4, none⟩ = some (.int .i64 31)
  c5 : w.cell? ⟨5, 5, none⟩ = some (.int .i64 30)
  c6 : w.cell? ⟨5, 6, none⟩ = some (.int .i64 31)
  c7 : w.cell? ⟨5, 7, none⟩ = some (.int .i64 31)
  c8 : w.cell? ⟨5, 8, none⟩ = some (.int .i64 30)
  c9 : w.cell? ⟨5, 9, none⟩ = some (.int .i64 31)
  c10 : w.cell? ⟨5, 10, none⟩ = some (.int .i64 30)
  c11 : w.cell? ⟨5, 11, none⟩ = some (.int .i64 31)
  some : 5 < w.heap.size
theorem Tab.below {w w' : World} (h : Tab w) (hb : Below w.heap.size w w') : Tab w' := by
  have c := fun o => hb.cell (p := ⟨5, o, none⟩) h.some
  have hs := hb.size
  have h0 := h.some
  exact ⟨by rw [c]; exact h.c0, by rw [c]; exact h.c1, by rw [c]; exact h.c2, by rw [c]; exact h.c3, by rw [c]; exact h.c4, by rw [c]; exact h.c5, by rw [c]; exact h.c6, by rw [c]; exact h.c7, by rw [c]; exact h.c8, by rw [c]; exact h.c9, by rw [c]; exact h.c10, by rw [c]; exact h.c11, by omega⟩

theorem Tab.alloc {w : World} (h : Tab w) (o : Obj) : Tab (w.alloc o) := h.below ((Below.refl _ _).alloc (Nat.le_refl _) o)
set_option maxHeartbeats 1000000 in
theorem lengthOf_any (y m : Int) (w : World) (hT : Tab w) (h1 : 1 ≤ y) (h2 : y ≤ 10000) (h3 : 1 ≤ m) (h4 : m ≤ 12) :
    Calls Tryz.prog 121 #[.int .i64 y, .int .i64 m] w fun e w' => e = .returned (.int .i64 (Cal.dim y m)) ∧ w = w' := by
  have hm : m = 1 ∨ m = 2 ∨ m = 3 ∨ m = 4 ∨ m = 5 ∨ m = 6 ∨ m = 7 ∨ m = 8 ∨ m = 9 ∨ m = 10 ∨ m = 11 ∨ m = 12 := by omega
  clear h3 h4
  have c0 := hT.c0
  have c1 := hT.c1
  have c2 := hT.c2
  have c3 := hT.c3
  have c4 := hT.c4
  have c5 := hT.c5
  have c6 := hT.c6
  have c7 := hT.c7
  have c8 := hT.c8
  have c9 := hT.c9
  have c10 := hT.c10
  have c11 := hT.c11
  clear hT
  rcases hm with rfl | rfl | rfl | rfl | rfl | rfl | rfl | rfl | rfl | rfl | rfl | rfl
  case inr.inl =>
    cases hl : Cal.leapB y with
    | true =>
      have Hl := Lib.hid hl; clear hl
      go_enter Tryz.func121, Tryz.ntmps121
      go_wp2_with (go_at_call 139; refine (isLeap_any _ _ h1 h2).mono ?_; rw [Hl.out]; rintro e w' ⟨rfl, rfl⟩)
      go_ret
      exact ⟨ret_int (by simp [Cal.dim, Cal.lp_yes Hl.out]), rfl⟩
    | false =>
      have Hl := Lib.hid hl; clear hl
      go_enter Tryz.func121, Tryz.ntmps121
      go_wp2_with (go_at_call 139; refine (isLeap_any _ _ h1 h2).mono ?_; rw [Hl.out]; rintro e w' ⟨rfl, rfl⟩)
      go_ret
      exact ⟨ret_int (by simp [Cal.dim, Cal.lp_no Hl.out]), rfl⟩
  all_goals
    go_enter Tryz.func121, Tryz.ntmps121
    go_wp2
    go_ret
    exact ⟨ret_int (by simp [Cal.dim]), rfl⟩

/-! ### The date of a day. -/
/-- A date with the number n. -/
def DateOf (n y m d : Int) : Prop := Cal.Valid y m d ∧ 1900 ≤ y ∧ y ≤ 2199 ∧ Cal.num y m d = n
def CivilPost (n : Int) (w : World) (e : Ending) (w' : World) : Prop :=
  ∃ y m d : Int, e = .returned (.tuple #[.int .i64 y, .int .i64 m, .int .i64 d]) ∧ DateOf n y m d ∧ w = w'

set_option maxHeartbeats 2000000 in
theorem civil_any (n : Int) (w : World) (hT : Tab w) (h1 : -25567 ≤ n) (h2 : n ≤ 84005) :
    Calls Tryz.prog 99 #[.int .i64 n] w (CivilPost n w) := by
  have g0 := Cal.dby_guess ((n + 25567) / 366) (by omega)
  go_enter Tryz.func99, Tryz.ntmps99
  go_wp2
  go_loop [5] (fun t => ∃ y : Int, 1900 ≤ y ∧ y ≤ 2199 ∧ Cal.dby y ≤ n ∧ t = .int .i64 y) (fun t => (2199 - intOf t).toNat)
  case atStart => exact ⟨1900 + (n + 25567) / 366, by omega, by omega, by omega, rfl⟩
  case round =>
    obtain ⟨y, hy1, hy2, hy3, rfl⟩ := hrel
    clear g0
    by_cases hc : Cal.dby (y + 1) ≤ n
    · have hlt : y < 2199 := by
        rcases Int.lt_or_le y 2199 with h | h
        · exact h
        · obtain rfl : y = 2199 := by omega
          have := Cal.dby_2200
          rw [show (2199 : Int) + 1 = 2200 from rfl] at hc
          omega
      go_wp2_with (go_at_call 120; refine (daysAhead_any _ _ (by omega) (by omega)).mono ?_; rintro e w' ⟨rfl, rfl⟩)
      go_round
      case rel => exact ⟨y + 1, by omega, by omega, hc, rfl⟩
      case measure => simp [intOf]; omega
    · have hz : n < Cal.dby (y + 1) := by omega
      have hs := Cal.dby_succ y
      have hl := Cal.lp_01 y
      have hb := Cal.dby_bd y (by omega) (by omega)
      have hS := Lib.hid hs; clear hs
      clear hc
      go_wp2_with (go_at_call 120; refine (daysAhead_any _ _ (by omega) (by omega)).mono ?_; rintro e w' ⟨rfl, rfl⟩)
      go_loop [6, 7] (fun r k => ∃ m : Int, 1 ≤ m ∧ m ≤ 12 ∧ k = .int .i64 m ∧ 0 ≤ n - Cal.dby y - Cal.cum y m ∧ r = .int .i64 (n - Cal.dby y - Cal.cum y m)) (fun _ k => (12 - intOf k).toNat)
      case atStart => exact ⟨1, by omega, by omega, rfl, by rw [Cal.cum_1]; omega, by rw [Cal.cum_1]; simp⟩
      case round =>
        obtain ⟨m, hm1, hm2, rfl, hr, rfl⟩ := hrel
        have cb := Cal.cum_bd y m hm1 (by omega)
        have db := Cal.dim_bd y m
        have cs := Lib.hid (Cal.cum_succ y m hm1 hm2)
        by_cases hd : Cal.dim y m ≤ n - Cal.dby y - Cal.cum y m
        · have hm : m < 12 := by
            rcases Int.lt_or_le m 12 with h | h
            · exact h
            · obtain rfl : m = 12 := by omega
              have c := cs.out
              have c13 := Cal.cum_13 y
              have s := hS.out
              rw [show (12 : Int) + 1 = 13 from rfl] at c
              omega
          go_wp2_with (go_at_call 121; refine (lengthOf_any _ _ _ hT (by omega) (by omega) (by omega) (by omega)).mono ?_; rintro e w' ⟨rfl, rfl⟩)
          go_round
          case rel => exact ⟨m + 1, by omega, by omega, by go_num, by rw [cs.out]; omega, by rw [cs.out]; go_num⟩
          case measure => simp [intOf]; omega
        · go_wp2_with (go_at_call 121; refine (lengthOf_any _ _ _ hT (by omega) (by omega) (by omega) (by omega)).mono ?_; rintro e w' ⟨rfl, rfl⟩)
          go_ret3
          exact ⟨y, m, n - Cal.dby y - Cal.cum y m + 1, rfl, ⟨⟨hm1, hm2, by omega, by omega⟩, hy1, hy2, by unfold Cal.num; omega⟩, rfl⟩

/-! ### The exported functions. -/
/-- A value of the kind Day. -/
abbrev dayV (n : Int) : Value := .agg #[.int .i64 6, .int .i64 n, .string ⟨#[]⟩, .slice none 0 0]
end Go.Proofs.YtcdifmnakppfkaaGreatDoor
