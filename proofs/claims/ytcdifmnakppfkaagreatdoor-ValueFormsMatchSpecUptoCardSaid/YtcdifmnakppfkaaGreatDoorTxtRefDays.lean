/-
  The functions of the reference on days that texts need.
-/
import Derived.Test.YtcdifmnakppfkaaGreatDoorTxtDays
namespace Go.Proofs.YtcdifmnakppfkaaGreatDoor
open Go.RowKit

def CivilFPost (n : Int) (w : World) (e : Ending) (w' : World) : Prop :=
  ∃ y m d : Int, e = .returned (.tuple #[.int .i64 y, .int .i64 m, .int .i64 d, .int .i64 0]) ∧ DateOf n y m d ∧ w = w'
theorem within_yes (n a b : Int) (w : World) (h1 : a ≤ n) (h2 : n ≤ b) :
    Calls Tryz.prog 45 #[.int .i64 n, .int .i64 a, .int .i64 b] w fun e w' => e = .returned (.bool true) ∧ w = w' := by
  go_enter Tryz.func45, Tryz.ntmps45
  go_wp2
  go_ret
  exact ⟨rfl, rfl⟩
theorem within_no (n a b : Int) (w : World) (h : n < a ∨ b < n) :
    Calls Tryz.prog 45 #[.int .i64 n, .int .i64 a, .int .i64 b] w fun e w' => e = .returned (.bool false) ∧ w = w' := by
  by_cases h1 : a ≤ n
  · have h2 : decide (n ≤ b) = false := by simp; omega
    clear h
    go_enter Tryz.func45, Tryz.ntmps45
    go_wp2
    go_ret
    exact ⟨rfl, rfl⟩
  · have h2 : decide (a ≤ n) = false := by simp; omega
    clear h h1
    go_enter Tryz.func45, Tryz.ntmps45
    go_wp2
    go_ret
    exact ⟨rfl, rfl⟩
theorem leap_any (y : Int) (w : World) (h1 : 1 ≤ y) (h2 : y ≤ 10000) :
    Calls Tryz.prog 108 #[.int .i64 y] w fun e w' => e = .returned (.bool (Cal.leapB y)) ∧ w = w' := by
  by_cases a : y % 4 = 0
  · have a' : (y % 4 == 0) = true := by simpa using a
    by_cases b : y % 100 = 0
    · have b' : (y % 100 != 0) = false := by simpa using b
      by_cases c : y % 400 = 0
      · have c' : (y % 400 == 0) = true := by simpa using c
        have hl : Hid (Cal.leapB y = true) := by unfold Hid Cal.leapB; simp; omega
        clear a b c
        go_enter Tryz.func108, Tryz.ntmps108
        go_wp2
        go_ret
        exact ⟨by rw [hl.out]; rfl, rfl⟩
      · have c' : (y % 400 == 0) = false := by simpa using c
        have hl : Hid (Cal.leapB y = false) := by unfold Hid Cal.leapB; simp; omega
        clear a b c
        go_enter Tryz.func108, Tryz.ntmps108
        go_wp2
        go_ret
        exact ⟨by rw [hl.out]; rfl, rfl⟩
    · have b' : (y % 100 != 0) = true := by simpa using b
      have hl : Hid (Cal.leapB y = true) := by unfold Hid Cal.leapB; simp; omega
      clear a b
      go_enter Tryz.func108, Tryz.ntmps108
      go_wp2
      go_ret
      exact ⟨by rw [hl.out]; rfl, rfl⟩
  · have a' : (y % 4 == 0) = false := by simpa using a
    have c' : (y % 400 == 0) = false := by simp; omega
    have hl : Hid (Cal.leapB y = false) := by unfold Hid Cal.leapB; simp; omega
    clear a
    go_enter Tryz.func108, Tryz.ntmps108
    go_wp2
    go_ret
    exact ⟨by rw [hl.out]; rfl, rfl⟩
theorem yearDays_any (y : Int) (w : World) (h1 : 1 ≤ y) (h2 : y ≤ 10000) :
    Calls Tryz.prog 73 #[.int .i64 y] w fun e w' => e = .returned (.int .i64 (365 + Cal.lp y)) ∧ w = w' := by
  cases hl : Cal.leapB y with
  | true =>
    have Hl := Lib.hid hl; clear hl
    go_enter Tryz.func73, Tryz.ntmps73
    go_wp2_with (go_at_call 108; refine (leap_any _ _ h1 h2).mono ?_; rw [Hl.out]; rintro e w' ⟨rfl, rfl⟩)
    go_ret
    exact ⟨ret_int (by simp [Cal.lp_yes Hl.out]), rfl⟩
  | false =>
    have Hl := Lib.hid hl; clear hl
    go_enter Tryz.func73, Tryz.ntmps73
    go_wp2_with (go_at_call 108; refine (leap_any _ _ h1 h2).mono ?_; rw [Hl.out]; rintro e w' ⟨rfl, rfl⟩)
    go_ret
    exact ⟨ret_int (by simp [Cal.lp_no Hl.out]), rfl⟩
set_option maxHeartbeats 1000000 in
theorem monthDays_any (y m : Int) (w : World) (h1 : 1 ≤ y) (h2 : y ≤ 10000) (h3 : 1 ≤ m) (h4 : m ≤ 12) :
    Calls Tryz.prog 74 #[.int .i64 y, .int .i64 m] w fun e w' => e = .returned (.int .i64 (Cal.dim y m)) ∧ w = w' := by
  have hm : m = 1 ∨ m = 2 ∨ m = 3 ∨ m = 4 ∨ m = 5 ∨ m = 6 ∨ m = 7 ∨ m = 8 ∨ m = 9 ∨ m = 10 ∨ m = 11 ∨ m = 12 := by omega
  clear h3 h4
  rcases hm with rfl | rfl | rfl | rfl | rfl | rfl | rfl | rfl | rfl | rfl | rfl | rfl
  case inr.inl =>
    cases hl : Cal.leapB y with
    | true =>
      have Hl := Lib.hid hl; clear hl
      go_enter Tryz.func74, Tryz.ntmps74
      go_wp2_with (go_at_call 108; refine (leap_any _ _ h1 h2).mono ?_; rw [Hl.out]; rintro e w' ⟨rfl, rfl⟩)
      go_ret
      exact ⟨ret_int (by simp [Cal.dim, Cal.lp_yes Hl.out]), rfl⟩
    | false =>
      have Hl := Lib.hid hl; clear hl
      go_enter Tryz.func74, Tryz.ntmps74
      go_wp2_with (go_at_call 108; refine (leap_any _ _ h1 h2).mono ?_; rw [Hl.out]; rintro e w' ⟨rfl, rfl⟩)
      go_ret
      exact ⟨ret_int (by simp [Cal.dim, Cal.lp_no Hl.out]), rfl⟩
  all_goals
    go_enter Tryz.func74, Tryz.ntmps74
    go_wp2
    go_ret
    exact ⟨ret_int (by simp [Cal.dim]), rfl⟩

theorem RCivil_no (n : Int) (w : World) (h : n < -25567 ∨ 84005 < n) :
    Calls Tryz.prog 40 #[.int .i64 n] w fun e w' => e = .returned (.tuple #[.int .i64 0, .int .i64 0, .int .i64 0, .int .i64 1]) ∧ w = w' := by
  have H := Lib.hid h; clear h
  go_enter Tryz.func40, Tryz.ntmps40
  go_wp2_with (go_at_call 45; refine (within_no _ _ _ _ H.out).mono ?_; rintro e w' ⟨rfl, rfl⟩)
  refine bodyPost_ret (v := .tuple #[.int .i64 0, .int .i64 0, .int .i64 0, .int .i64 1]) (by simp [results, Tryz.results40, go_sem]) rfl ⟨rfl, rfl⟩
set_option maxHeartbeats 2000000 in
theorem RCivil_yes (n : Int) (w : World) (h1 : -25567 ≤ n) (h2 : n ≤ 84005) :
    Calls Tryz.prog 40 #[.int .i64 n] w (CivilFPost n w) := by
  go_enter Tryz.func40, Tryz.ntmps40
  go_wp2_with (go_at_call 45; refine (within_yes _ _ _ _ (by omega) (by omega)).mono ?_; rintro e w' ⟨rfl, rfl⟩)
  go_loop [6, 7] (fun t r => ∃ y : Int, 1900 ≤ y ∧ y ≤ 2199 ∧ 0 ≤ n - Cal.dby y ∧ t = .int .i64 y ∧ r = .int .i64 (n - Cal.dby y)) (fun t _ => (2199 - intOf t).toNat)
  case atStart => exact ⟨1900, by omega, by omega, by rw [Cal.dby_1900]; omega, rfl, by rw [Cal.dby_1900]; simp⟩
  case round =>
    obtain ⟨y, hy1, hy2, hy3, rfl, rfl⟩ := hrel
    have hs := Lib.hid (Cal.dby_succ y)
    have hl := Cal.lp_01 y
    have hb := Cal.dby_bd y (by omega) (by omega)
    by_cases hc : 365 + Cal.lp y ≤ n - Cal.dby y
    · have hlt : y < 2199 := by
        rcases Int.lt_or_le y 2199 with h | h
        · exact h
        · obtain rfl : y = 2199 := by omega
          have := Cal.dby_2200
          have s := hs.out
          rw [show (2199 : Int) + 1 = 2200 from rfl] at s
          omega
      go_wp2_with (go_at_call 73; refine (yearDays_any _ _ (by omega) (by omega)).mono ?_; rintro e w' ⟨rfl, rfl⟩)
      go_round
      case rel => exact ⟨y + 1, by omega, by omega, by rw [hs.out]; omega, by go_num, by rw [hs.out]; go_num⟩
      case measure => simp [intOf]; omega
    · have hz : n - Cal.dby y < 365 + Cal.lp y := by omega
      clear hc
      go_wp2_with (go_at_call 73; refine (yearDays_any _ _ (by omega) (by omega)).mono ?_; rintro e w' ⟨rfl, rfl⟩)
      go_loop [7, 8] (fun r k => ∃ m : Int, 1 ≤ m ∧ m ≤ 12 ∧ k = .int .i64 m ∧ 0 ≤ n - Cal.dby y - Cal.cum y m ∧ r = .int .i64 (n - Cal.dby y - Cal.cum y m)) (fun _ k => (12 - intOf k).toNat)
      case atStart => exact ⟨1, by omega, by omega, rfl, by rw [Cal.cum_1]; omega, by rw [Cal.cum_1]; simp⟩
      case round =>
        obtain ⟨m, hm1, hm2, rfl, hr, rfl⟩ := hrel
        have cb := Cal.cum_bd y m hm1 (by omega)
        have db := Cal.dim_bd y m
        have cs := Lib.hid (Cal.cum_succ y m hm1 hm2)
        by_cases hd : Cal.dim y m ≤ n - Cal.dby y - Cal.cum y m
        · have hm : m < 12 := by
            rcases Int.lt_or_le m 12 with h | h
            · exact h
            · obtain rfl : m = 12 := by omega
              have c := cs.out
              have c13 := Cal.cum_13 y
              rw [show (12 : Int) + 1 = 13 from rfl] at c
              omega
          go_wp2_with (go_at_call 74; refine (monthDays_any _ _ _ (by omega) (by omega) (by omega) (by omega)).mono ?_; rintro e w' ⟨rfl, rfl⟩)
          go_round
          case rel => exact ⟨m + 1, by omega, by omega, by go_num, by rw [cs.out]; omega, by rw [cs.out]; go_num⟩
          case measure => simp [intOf]; omega
        · go_wp2_with (go_at_call 74; refine (monthDays_any _ _ _ (by omega) (by omega) (by omega) (by omega)).mono ?_; rintro e w' ⟨rfl, rfl⟩)
          refine bodyPost_ret (v := .tuple #[.int .i64 y, .int .i64 m, .int .i64 (n - Cal.dby y - Cal.cum y m + 1), .int .i64 0]) (by simp [results, Tryz.results40, go_sem]) rfl ?_
          exact ⟨y, m, n - Cal.dby y - Cal.cum y m + 1, rfl, ⟨⟨hm1, hm2, by omega, by omega⟩, hy1, hy2, by unfold Cal.num; omega⟩, rfl⟩


theorem RCivil_at (n : Int) (w : World) (h1 : -25567 ≤ n) (h2 : n ≤ 84005) (y m d : Int) (hd : DateOf n y m d) :
    Calls Tryz.prog 40 #[.int .i64 n] w fun e w' => e = .returned (.tuple #[.int .i64 y, .int .i64 m, .int .i64 d, .int .i64 0]) ∧ w = w' := by
  refine (RCivil_yes n w h1 h2).mono ?_
  rintro e w' ⟨y', m', d', rfl, hd', rfl⟩
  obtain ⟨rfl, rfl, rfl⟩ := Cal.num_inj y' m' d' y m d hd'.1 hd.1 (by rw [hd'.2.2.2, hd.2.2.2])
  exact ⟨rfl, rfl⟩

end Go.Proofs.YtcdifmnakppfkaaGreatDoor
