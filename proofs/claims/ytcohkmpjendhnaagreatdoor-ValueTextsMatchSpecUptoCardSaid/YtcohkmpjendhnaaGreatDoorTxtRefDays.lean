/-
  The functions of the reference on days that texts need.
-/
import Derived.Test.YtcohkmpjendhnaaGreatDoorTxtDays
namespace Go.Proofs.YtcohkmpjendhnaaGreatDoor
open Go.RowKit

def CivilFPost (n : Int) (w : World) (e : Ending) (w' : World) : Prop :=
  ∃ y m d : Int, e = .returned (.tuple #[.int .i64 y, .int .i64 m, .int .i64 d, .int .i64 0]) ∧ DateOf n y m d ∧ w = w'
theorem within_yes (n a b : Int) (w : World) (h1 : a ≤ n) (h2 : n ≤ b) :
    Calls Tryz.prog 29 #[.int .i64 n, .int .i64 a, .int .i64 b] w fun e w' => e = .returned (.bool true) ∧ w = w' := by
  go_enter Tryz.func29, Tryz.ntmps29
  go_wp2
  go_ret
  exact ⟨rfl, rfl⟩
theorem within_no (n a b : Int) (w : World) (h : n < a ∨ b < n) :
    Calls Tryz.prog 29 #[.int .i64 n, .int .i64 a, .int .i64 b] w fun e w' => e = .returned (.bool false) ∧ w = w' := by
  by_cases h1 : a ≤ n
  · have h2 : decide (n ≤ b) = false := by simp; omega
    clear h
    go_enter Tryz.func29, Tryz.ntmps29
    go_wp2
    go_ret
    exact ⟨rfl, rfl⟩
  · have h2 : decide (a ≤ n) = false := by simp; omega
    clear h h1
    go_enter Tryz.func29, Tryz.ntmps29
    go_wp2
    go_ret
    exact ⟨rfl, rfl⟩
theorem leap_any (y : Int) (w : World) (h1 : 1 ≤ y) (h2 : y ≤ 10000) :
    Calls Tryz.prog 66 #[.int .i64 y] w fun e w' => e = .returned (.bool (Cal.leapB y)) ∧ w = w' := by
  by_cases a : y % 4 = 0
  · have a' : (y % 4 == 0) = true := by simpa using a
    by_cases b : y % 100 = 0
    · have b' : (y % 100 != 0) = false := by simpa using b
      by_cases c : y % 400 = 0
      · have c' : (y % 400 == 0) = true := by simpa using c
        have hl : Hid (Cal.leapB y = true) := by unfold Hid Cal.leapB; simp; omega
        clear a b c
        go_enter Tryz.func66, Tryz.ntmps66
        go_wp2
        go_ret
        exact ⟨by rw [hl.out]; rfl, rfl⟩
      · have c' : (y % 400 == 0) = false := by simpa using c
        have hl : Hid (Cal.leapB y = false) := by unfold Hid Cal.leapB; simp; omega
        clear a b c
        go_enter Tryz.func66, Tryz.ntmps66
        go_wp2
        go_ret
        exact ⟨by rw [hl.out]; rfl, rfl⟩
    · have b' : (y % 100 != 0) = true := by simpa using b
      have hl : Hid (Cal.leapB y = true) := by unfold Hid Cal.leapB; simp; omega
      clear a b
      go_enter Tryz.func66, Tryz.ntmps66
      go_wp2
      go_ret
      exact ⟨by rw [hl.out]; rfl, rfl⟩
  · have a' : (y % 4 == 0) = false := by simpa using a
    have c' : (y % 400 == 0) = false := by simp; omega
    have hl : Hid (Cal.leapB y = false) := by unfold Hid Cal.leapB; simp; omega
    clear a
    go_enter Tryz.func66, Tryz.ntmps66
    go_wp2
    go_ret
    exact ⟨by rw [hl.out]; rfl, rfl⟩
theorem yearDays_any (y : Int) (w : World) (h1 : 1 ≤ y) (h2 : y ≤ 10000) :
    Calls Tryz.prog 34 #[.int .i64 y] w fun e w' => e = .returned (.int .i64 (365 + Cal.lp y)) ∧ w = w' := by
  cases hl : Cal.leapB y with
  | true =>
    have Hl := Lib.hid hl; clear hl
    go_enter Tryz.func34, Tryz.ntmps34
    go_wp2_with (go_at_call 66; refine (leap_any _ _ h1 h2).mono ?_; rw [Hl.out]; rintro e w' ⟨rfl, rfl⟩)
    go_ret
    exact ⟨ret_int (by simp [Cal.lp_yes Hl.out]), rfl⟩
  | false =>
    have Hl := Lib.hid hl; clear hl
    go_enter Tryz.func34, Tryz.ntmps34
    go_wp2_with (go_at_call 66; refine (leap_any _ _ h1 h2).mono ?_; rw [Hl.out]; rintro e w' ⟨rfl, rfl⟩)
    go_ret
    exact ⟨ret_int (by simp [Cal.lp_no Hl.out]), rfl⟩
set_option maxHeartbeats 1000000 in
theorem monthDays_any (y m : Int) (w : World) (h1 : 1 ≤ y) (h2 : y ≤ 10000) (h3 : 1 ≤ m) (h4 : m ≤ 12) :
    Calls Tryz.prog 35 #[.int .i64 y, .int .i64 m] w fun e w' => e = .returned (.int .i64 (Cal.dim y m)) ∧ w = w' := by
  have hm : m = 1 ∨ m = 2 ∨ m = 3 ∨ m = 4 ∨ m = 5 ∨ m = 6 ∨ m = 7 ∨ m = 8 ∨ m = 9 ∨ m = 10 ∨ m = 11 ∨ m = 12 := by omega
  clear h3 h4
  rcases hm with rfl | rfl | rfl | rfl | rfl | rfl | rfl | rfl | rfl | rfl | rfl | rfl
  case inr.inl =>
    cases hl : Cal.leapB y with
    | true =>
      have Hl := Lib.hid hl; clear hl
      go_enter Tryz.func35, Tryz.ntmps35
      go_wp2_with (go_at_call 66; refine (leap_any _ _ h1 h2).mono ?_; rw [Hl.out]; rintro e w' ⟨rfl, rfl⟩)
      go_ret
      exact ⟨ret_int (by simp [Cal.dim, Cal.lp_yes Hl.out]), rfl⟩
    | false =>
      have Hl := Lib.hid hl; clear hl
      go_enter Tryz.func35, Tryz.ntmps35
      go_wp2_with (go_at_call 66; refine (leap_any _ _ h1 h2).mono ?_; rw [Hl.out]; rintro e w' ⟨rfl, rfl⟩)
      go_ret
      exact ⟨ret_int (by simp [Cal.dim, Cal.lp_no Hl.out]), rfl⟩
  all_goals
    go_enter Tryz.func35, Tryz.ntmps35
    go_wp2
    go_ret
    exact ⟨ret_int (by simp [Cal.dim]), rfl⟩

theorem RCivil_no (n : Int) (w : World) (h : n < -25567 ∨ 84005 < n) :
    Calls Tryz.prog 17 #[.int .i64 n] w fun e w' => e = .returned (.tuple #[.int .i64 0, .int .i64 0, .int .i64 0, .int .i64 1]) ∧ w = w' := by
  have H := Lib.hid h; clear h
  go_enter Tryz.func17, Tryz.ntmps17
  go_wp2_with (go_at_call 29; refine (within_no _ _ _ _ H.out).mono ?_; rintro e w' ⟨rfl, rfl⟩)
  refine bodyPost_ret (v := .tuple #[.int .i64 0, .int .i64 0, .int .i64 0, .int .i64 1]) (by simp [results, Tryz.results17, go_sem]) rfl ⟨rfl, rfl⟩
set_option maxHeartbeats 2000000 in
theorem RCivil_yes (n : Int) (w : World) (h1 : -25567 ≤ n) (h2 : n ≤ 84005) :
    Calls Tryz.prog 17 #[.int .i64 n] w (CivilFPost n w) := by
  go_enter Tryz.func17, Tryz.ntmps17
  go_wp2_with (go_at_call 29; refine (within_yes _ _ _ _ (by omega) (by omega)).mono ?_; rintro e w' ⟨rfl, rfl⟩)
  go_loop [6, 7] (fun t r => ∃ y : Int, 1900 ≤ y ∧ y ≤ 2199 ∧ 0 ≤ n - Cal.dby y ∧ t = .int .i64 y ∧ r = .int .i64 (n - Cal.dby y)) (fun t _ => (2199 - intOf t).toNat)
  case atStart => exact ⟨1900, by omega, by omega, by rw [Cal.dby_1900]; omega, rfl, by rw [Cal.dby_1900]; simp⟩
  case round =>
    obtain ⟨y, hy1, hy2, hy3, rfl, rfl⟩ := hrel
    have hs := Lib.hid (Cal.dby_succ y)
    have hl := Cal.lp_01 y
    have hb := Cal.dby_bd y (by omega) (by omega)
    by_cases hc : 365 + Cal.lp y ≤ n - Cal.dby y
    · have hlt : y < 2199 := by
        rcases Int.lt_or_le y 2199 with h | h
        · exact h
        · obtain rfl : y = 2199 := by omega
          have := Cal.dby_2200
          have s := hs.out
          rw [show (2199 : Int) + 1 = 2200 from rfl] at s
          omega
      go_wp2_with (go_at_call 34; refine (yearDays_any _ _ (by omega) (by omega)).mono ?_; rintro e w' ⟨rfl, rfl⟩)
      go_round
      case rel => exact ⟨y + 1, by omega, by omega, by rw [hs.out]; omega, by go_num, by rw [hs.out]; go_num⟩
      case measure => simp [intOf]; omega
    · have hz : n - Cal.dby y < 365 + Cal.lp y := by omega
      clear hc
      go_wp2_with (go_at_call 34; refine (yearDays_any _ _ (by omega) (by omega)).mono ?_; rintro e w' ⟨rfl, rfl⟩)
      go_loop [7, 8] (fun r k => ∃ m : Int, 1 ≤ m ∧ m ≤ 12 ∧ k = .int .i64 m ∧ 0 ≤ n - Cal.dby y - Cal.cum y m ∧ r = .int .i64 (n - Cal.dby y - Cal.cum y m)) (fun _ k => (12 - intOf k).toNat)
      case atStart => exact ⟨1, by omega, by omega, rfl, by rw [Cal.cum_1]; omega, by rw [Cal.cum_1]; simp⟩
      case round =>
        obtain ⟨m, hm1, hm2, rfl, hr, rfl⟩ := hrel
        have cb := Cal.cum_bd y m hm1 (by omega)
        have db := Cal.dim_bd y m
        have cs := Lib.hid (Cal.cum_succ y m hm1 hm2)
        by_cases hd : Cal.dim y m ≤ n - Cal.dby y - Cal.cum y m
        · have hm : m < 12 := by
            rcases Int.lt_or_le m 12 with h | h
            · exact h
            · obtain rfl : m = 12 := by omega
              have c := cs.out
              have c13 := Cal.cum_13 y
              rw [show (12 : Int) + 1 = 13 from rfl] at c
              omega
          go_wp2_with (go_at_call 35; refine (monthDays_any _ _ _ (by omega) (by omega) (by omega) (by omega)).mono ?_; rintro e w' ⟨rfl, rfl⟩)
          go_round
          case rel => exact ⟨m + 1, by omega, by omega, by go_num, by rw [cs.out]; omega, by rw [cs.out]; go_num⟩
          case measure => simp [intOf]; omega
        · go_wp2_with (go_at_call 35; refine (monthDays_any _ _ _ (by omega) (by omega) (by omega) (by omega)).mono ?_; rintro e w' ⟨rfl, rfl⟩)
          refine bodyPost_ret (v := .tuple #[.int .i64 y, .int .i64 m, .int .i64 (n - Cal.dby y - Cal.cum y m + 1), .int .i64 0]) (by simp [results, Tryz.results17, go_sem]) rfl ?_
          exact ⟨y, m, n - Cal.dby y - Cal.cum y m + 1, rfl, ⟨⟨hm1, hm2, by omega, by omega⟩, hy1, hy2, by unfold Cal.num; omega⟩, rfl⟩


set_option maxHeartbeats 2000000 in
theorem RDate_no (y m d : Int) (w : World) (h : ¬ (1900 ≤ y ∧ y ≤ 2199 ∧ 1 ≤ m ∧ m ≤ 12 ∧ 1 ≤ d ∧ d ≤ Cal.dim y m)) :
    Calls Tryz.prog 49 #[.int .i64 y, .int .i64 m, .int .i64 d] w fun e w' => e = .returned (kn 0 0) ∧ Below w.heap.size w w' := by
  by_cases c1 : 1900 ≤ y ∧ y ≤ 2199
  · obtain ⟨y1, y2⟩ := c1
    by_cases c2 : 1 ≤ m ∧ m ≤ 12
    · obtain ⟨m1, m2⟩ := c2
      have c3 : d < 1 ∨ Cal.dim y m < d := by omega
      have C3 := Lib.hid c3; clear c3 h
      go_enter Tryz.func49, Tryz.ntmps49
      go_wp2_with fail
      refine (within_yes _ _ _ _ y1 y2).mono ?_; rintro e w' ⟨rfl, rfl⟩
      go_wp2_with fail
      refine (within_yes _ _ _ _ m1 m2).mono ?_; rintro e w' ⟨rfl, rfl⟩
      go_wp2_with fail
      refine (monthDays_any _ _ _ (by omega) (by omega) m1 m2).mono ?_; rintro e w' ⟨rfl, rfl⟩
      go_wp2_with fail
      refine (within_no _ _ _ _ C3.out).mono ?_; rintro e w' ⟨rfl, rfl⟩
      go_wp2
      refine bodyPost_ret (v := kn 0 0) (by simp [results, Tryz.results49, go_sem]) rfl ⟨rfl, ?_⟩
      exact (Below.refl _ _).alloc (Nat.le_refl _) _
    · have c3 : m < 1 ∨ 12 < m := by omega
      have C3 := Lib.hid c3; clear c3 c2 h
      go_enter Tryz.func49, Tryz.ntmps49
      go_wp2_with fail
      refine (within_yes _ _ _ _ y1 y2).mono ?_; rintro e w' ⟨rfl, rfl⟩
      go_wp2_with fail
      refine (within_no _ _ _ _ C3.out).mono ?_; rintro e w' ⟨rfl, rfl⟩
      go_wp2
      refine bodyPost_ret (v := kn 0 0) (by simp [results, Tryz.results49, go_sem]) rfl ⟨rfl, ?_⟩
      exact (Below.refl _ _).alloc (Nat.le_refl _) _
  · have c3 : y < 1900 ∨ 2199 < y := by omega
    have C3 := Lib.hid c3; clear c3 c1 h
    go_enter Tryz.func49, Tryz.ntmps49
    go_wp2_with fail
    refine (within_no _ _ _ _ C3.out).mono ?_; rintro e w' ⟨rfl, rfl⟩
    go_wp2
    refine bodyPost_ret (v := kn 0 0) (by simp [results, Tryz.results49, go_sem]) rfl ⟨rfl, ?_⟩
    exact (Below.refl _ _).alloc (Nat.le_refl _) _

/-- The days that the loops over the years have added so far. -/
theorem dby_1970 : Cal.dby 1970 = 0 := by decide
set_option maxHeartbeats 4000000 in
theorem RDate_yes (y m d : Int) (w : World) (h1 : 1900 ≤ y) (h2 : y ≤ 2199) (hv : Cal.Valid y m d) :
    Calls Tryz.prog 49 #[.int .i64 y, .int .i64 m, .int .i64 d] w fun e w' => e = .returned (kn 6 (Cal.num y m d)) ∧ Below w.heap.size w w' := by
  obtain ⟨v1, v2, v3, v4⟩ := hv
  have hb := Cal.dby_bd y (by omega) (by omega)
  have hd := Cal.dim_bd y m
  have cm := Cal.cum_bd y m v1 (by omega)
  go_enter Tryz.func49, Tryz.ntmps49
  go_wp2_with fail
  refine (within_yes _ _ _ _ h1 h2).mono ?_; rintro e w' ⟨rfl, rfl⟩
  go_wp2_with fail
  refine (within_yes _ _ _ _ v1 v2).mono ?_; rintro e w' ⟨rfl, rfl⟩
  go_wp2_with fail
  refine (monthDays_any _ _ _ (by omega) (by omega) v1 v2).mono ?_; rintro e w' ⟨rfl, rfl⟩
  go_wp2_with fail
  refine (within_yes _ _ _ _ v3 v4).mono ?_; rintro e w' ⟨rfl, rfl⟩
  go_wp2_with fail
  go_loop [7, 8] (fun r k => ∃ j : Int, 1 ≤ j ∧ j ≤ m ∧ k = .int .i64 j ∧ r = .int .i64 (d - 1 + Cal.cum y j)) (fun _ k => (12 - intOf k).toNat)
  case atStart => exact ⟨1, by omega, by omega, rfl, by rw [Cal.cum_1]; simp⟩
  case round =>
    obtain ⟨j, hj1, hj2, rfl, rfl⟩ := hrel
    have cb := Cal.cum_bd y j hj1 (by omega)
    have db := Cal.dim_bd y j
    have cs := Lib.hid (Cal.cum_succ y j hj1 (by omega))
    by_cases hlt : j < m
    · go_wp2_with (go_at_call 35; refine (monthDays_any _ _ _ (by omega) (by omega) (by omega) (by omega)).mono ?_; rintro e w' ⟨rfl, rfl⟩)
      go_round
      case rel => exact ⟨j + 1, by omega, by omega, by go_num, by rw [cs.out]; go_num⟩
      case measure => simp [intOf]; omega
    · obtain rfl : j = m := by omega
      clear cb db cs
      go_wp2_with fail
      go_loop [7, 9] (fun r k => ∃ i : Int, 1970 ≤ i ∧ (i ≤ y ∨ i = 1970) ∧ k = .int .i64 i ∧ r = .int .i64 (d - 1 + Cal.cum y j + Cal.dby i)) (fun _ k => (y - intOf k).toNat)
      case atStart => exact ⟨1970, by omega, .inr rfl, rfl, by rw [dby_1970]; simp⟩
      case round =>
        obtain ⟨i, hi1, hi2, rfl, rfl⟩ := hrel
        have I2 := Lib.hid hi2; clear hi2
        have hi3 : i ≤ 2199 := by rcases I2.out with h | h <;> omega
        have bi := Cal.dby_bd i (by omega) (by omega)
        have li := Cal.lp_01 i
        have si := Lib.hid (Cal.dby_succ i)
        by_cases hl : i < y
        · go_wp2_with (go_at_call 34; refine (yearDays_any _ _ (by omega) (by omega)).mono ?_; rintro e w' ⟨rfl, rfl⟩)
          go_round
          case rel => exact ⟨i + 1, by omega, .inl (by omega), by go_num, by rw [si.out]; go_num⟩
          case measure => simp [intOf]; omega
        · have hm : i = (if y < 1970 then 1970 else y) := by rcases I2.out with h | h <;> split <;> omega
          have HM := Lib.hid hm; clear hm
          go_wp2_with fail
          go_loop [7, 10] (fun r k => ∃ q : Int, y ≤ q ∧ (q ≤ 1970 ∨ q = y) ∧ k = .int .i64 q ∧ r = .int .i64 (d - 1 + Cal.cum y j + Cal.dby i - Cal.dby q + Cal.dby y)) (fun _ k => (1970 - intOf k).toNat)
          case atStart => exact ⟨y, by omega, .inr rfl, rfl, by go_num⟩
          case round =>
            obtain ⟨q, hq1, hq2, rfl, rfl⟩ := hrel
            have Q2 := Lib.hid hq2; clear hq2
            have hq3 : q ≤ 2199 := by rcases Q2.out with h | h <;> omega
            have bq := Cal.dby_bd q (by omega) (by omega)
            have lq := Cal.lp_01 q
            have sq := Lib.hid (Cal.dby_succ q)
            by_cases hl2 : q < 1970
            · go_wp2_with (go_at_call 34; refine (yearDays_any _ _ (by omega) (by omega)).mono ?_; rintro e w' ⟨rfl, rfl⟩)
              go_round
              case rel => exact ⟨q + 1, by omega, .inl (by omega), by go_num, by rw [sq.out]; go_num⟩
              case measure => simp [intOf]; omega
            · have hn : Hid (d - 1 + Cal.cum y j + Cal.dby i - Cal.dby q + Cal.dby y = Cal.num y j d) := by
                have e : Cal.dby i = Cal.dby q := by
                  have h := HM.out
                  split at h
                  · rw [h, show q = 1970 by rcases Q2.out with h | h <;> omega]
                  · rw [h, show q = y by rcases Q2.out with h | h <;> omega]
                unfold Hid Cal.num; omega
              go_wp2
              refine bodyPost_ret (v := kn 6 (Cal.num y j d)) (by simp [results, Tryz.results49, go_sem, hn.out]) rfl ⟨rfl, ?_⟩
              exact (Below.refl _ _).alloc (Nat.le_refl _) _
theorem RDate_any (y m d : Int) (w : World) :
    Calls Tryz.prog 49 #[.int .i64 y, .int .i64 m, .int .i64 d] w fun e w' => e = .returned (kn (dk y m d) (dn y m d)) ∧ Below w.heap.size w w' := by
  by_cases h : 1900 ≤ y ∧ y ≤ 2199 ∧ 1 ≤ m ∧ m ≤ 12 ∧ 1 ≤ d ∧ d ≤ Cal.dim y m
  · obtain ⟨e1, e2⟩ := d_yes h.1 h.2.1 ⟨h.2.2.1, h.2.2.2.1, h.2.2.2.2.1, h.2.2.2.2.2⟩
    rw [e1, e2]
    exact RDate_yes y m d w h.1 h.2.1 ⟨h.2.2.1, h.2.2.2.1, h.2.2.2.2.1, h.2.2.2.2.2⟩
  · obtain ⟨e1, e2⟩ := d_no h
    rw [e1, e2]
    exact RDate_no y m d w h
theorem RCivil_at (n : Int) (w : World) (h1 : -25567 ≤ n) (h2 : n ≤ 84005) (y m d : Int) (hd : DateOf n y m d) :
    Calls Tryz.prog 17 #[.int .i64 n] w fun e w' => e = .returned (.tuple #[.int .i64 y, .int .i64 m, .int .i64 d, .int .i64 0]) ∧ w = w' := by
  refine (RCivil_yes n w h1 h2).mono ?_
  rintro e w' ⟨y', m', d', rfl, hd', rfl⟩
  obtain ⟨rfl, rfl, rfl⟩ := Cal.num_inj y' m' d' y m d hd'.1 hd.1 (by rw [hd'.2.2.2, hd.2.2.2])
  exact ⟨rfl, rfl⟩

end Go.Proofs.YtcohkmpjendhnaaGreatDoor
