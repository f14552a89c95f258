/-
  Months of package value and of its reference; and the law that all functions on days are as specified.
-/
import Derived.Test.YtleiapoaoiapbaaDoorDaysSpec
namespace Go.Proofs.YtleiapoaoiapbaaDoor
open Go.RowKit

theorem bcell {W w1 : World} (hb : Below W.heap.size W w1) : (∀ b o, b < W.heap.size → w1.cell? ⟨b, o, none⟩ = W.cell? ⟨b, o, none⟩) ∧ (∀ b o, b < W.heap.size → w1.frozen? ⟨b, o, none⟩ = W.frozen? ⟨b, o, none⟩) :=
  ⟨fun b o h => hb.cell (p := ⟨b, o, none⟩) h, fun b o h => hb.frozen (p := ⟨b, o, none⟩) h⟩
theorem below4 {B b : Nat} {w w1 : World} (h : Below B w w1) (hb : B ≤ b) (x0 x1 x2 x3 : Value) :
    Below B w ((((w1.setCell ⟨b, 0, none⟩ x0).setCell ⟨b, 1, none⟩ x1).setCell ⟨b, 2, none⟩ x2).setCell ⟨b, 3, none⟩ x3) :=
  (((h.setCell (p := ⟨b, 0, none⟩) hb x0).setCell (p := ⟨b, 1, none⟩) hb x1).setCell (p := ⟨b, 2, none⟩) hb x2).setCell (p := ⟨b, 3, none⟩) hb x3
theorem date_ex (n : Int) (w : World) (hT : Tab w) (h1 : -25567 ≤ n) (h2 : n ≤ 84005) (y m d : Int) (hd : DateOf n y m d) :
    Calls Tryd.prog 15 #[.int .i64 n] w fun e w' => e = .returned (.tuple #[.int .i64 y, .int .i64 m, .int .i64 d]) ∧ w = w' := by
  refine (civil_any n w hT h1 h2).mono ?_
  rintro e w' ⟨y', m', d', rfl, hd', rfl⟩
  obtain ⟨rfl, rfl, rfl⟩ := Cal.num_inj y' m' d' y m d hd'.1 hd.1 (by rw [hd'.2.2.2, hd.2.2.2])
  exact ⟨rfl, rfl⟩
theorem Civil_at (n : Int) (w : World) (hT : Tab w) (h1 : -25567 ≤ n) (h2 : n ≤ 84005) (y m d : Int) (hd : DateOf n y m d) :
    Calls Tryd.prog 5 #[.int .i64 n] w fun e w' => e = .returned (.tuple #[.int .i64 y, .int .i64 m, .int .i64 d, .int .i64 0]) ∧ w = w' := by
  refine (Civil_yes n w hT h1 h2).mono ?_
  rintro e w' ⟨y', m', d', rfl, hd', rfl⟩
  obtain ⟨rfl, rfl, rfl⟩ := Cal.num_inj y' m' d' y m d hd'.1 hd.1 (by rw [hd'.2.2.2, hd.2.2.2])
  exact ⟨rfl, rfl⟩
theorem RCivil_at (n : Int) (w : World) (h1 : -25567 ≤ n) (h2 : n ≤ 84005) (y m d : Int) (hd : DateOf n y m d) :
    Calls Tryd.prog 6 #[.int .i64 n] w fun e w' => e = .returned (.tuple #[.int .i64 y, .int .i64 m, .int .i64 d, .int .i64 0]) ∧ w = w' := by
  refine (RCivil_yes n w h1 h2).mono ?_
  rintro e w' ⟨y', m', d', rfl, hd', rfl⟩
  obtain ⟨rfl, rfl, rfl⟩ := Cal.num_inj y' m' d' y m d hd'.1 hd.1 (by rw [hd'.2.2.2, hd.2.2.2])
  exact ⟨rfl, rfl⟩

set_option maxHeartbeats 1000000 in
theorem Months_no (n k : Int) (w : World) (h : (n < -25567 ∨ 84005 < n) ∨ (-25567 ≤ n ∧ n ≤ 84005) ∧ (k < -3600 ∨ 3600 < k)) :
    Calls Tryd.prog 12 #[.int .i64 n, .int .i64 k] w fun e w' => e = .returned (kn 0 0) ∧ Below w.heap.size w w' := by
  rcases h with h | ⟨⟨h1, h2⟩, h | h⟩
  · have H := Lib.hid h; clear h
    go_enter Tryd.func12, Tryd.ntmps12
    go_wp2_with (go_at_call 14; refine (isDay_no _ _ H.out).mono ?_; rintro e w' ⟨rfl, rfl⟩)
    refine bodyPost_ret (v := kn 0 0) (by simp [results, Tryd.results12, go_sem]) rfl ⟨rfl, ?_⟩
    exact (Below.refl _ _).alloc (Nat.le_refl _) _
  · go_enter Tryd.func12, Tryd.ntmps12
    go_wp2_with (go_at_call 14; refine (isDay_yes _ _ h1 h2).mono ?_; rintro e w' ⟨rfl, rfl⟩)
    refine bodyPost_ret (v := kn 0 0) (by simp [results, Tryd.results12, go_sem]) rfl ⟨rfl, ?_⟩
    exact (Below.refl _ _).alloc (Nat.le_refl _) _
  · have e1 : decide (k < -3600) = false := by simp; omega
    go_enter Tryd.func12, Tryd.ntmps12
    go_wp2_with (go_at_call 14; refine (isDay_yes _ _ h1 h2).mono ?_; rintro e w' ⟨rfl, rfl⟩)
    refine bodyPost_ret (v := kn 0 0) (by simp [results, Tryd.results12, go_sem]) rfl ⟨rfl, ?_⟩
    exact (Below.refl _ _).alloc (Nat.le_refl _) _

theorem quot12 (t : Int) (h1 : 10000 ≤ t) (h2 : t ≤ 40000) : 800 ≤ t / 12 ∧ t / 12 ≤ 3400 ∧ 1 ≤ t % 12 + 1 ∧ t % 12 + 1 ≤ 12 := by omega
set_option maxHeartbeats 2000000 in
theorem Months_le (n k : Int) (w : World) (hT : Tab w) (h1 : -25567 ≤ n) (h2 : n ≤ 84005) (h3 : -3600 ≤ k) (h4 : k ≤ 3600) (y m d : Int) (hd : DateOf n y m d) (t : Int) (ht : t = 12 * y + m - 1 + k) (hle : d ≤ Cal.dim (t / 12) (t % 12 + 1)) :
    Calls Tryd.prog 12 #[.int .i64 n, .int .i64 k] w fun e w' => e = .returned (kn (dk (t / 12) (t % 12 + 1) (d)) (dn (t / 12) (t % 12 + 1) (d))) ∧ Below w.heap.size w w' := by
  have HD := Lib.hid hd; clear hd
  have HT := Lib.hid hT; clear hT
  obtain ⟨⟨m1, m2, d1, d2⟩, y1, y2, _⟩ := HD.out
  have t1 : 10000 ≤ t := by omega
  have t2 : t ≤ 40000 := by omega
  obtain ⟨q1, q2, q3, q4⟩ := quot12 t t1 t2
  have TT : Hid (k + (12 * y + m - 1) = t) := by unfold Hid; omega
  clear ht d2
  go_enter Tryd.func12, Tryd.ntmps12
  go_wp2_with (go_at_call 14; refine (isDay_yes _ _ h1 h2).mono ?_; rintro e w' ⟨rfl, rfl⟩)
  refine (date_ex _ _ (HT.out.alloc _) h1 h2 y m d HD.out).mono ?_
  rintro e w' ⟨rfl, rfl⟩
  go_wp2_with fail
  rw [TT.out]
  refine (lengthOf_any _ _ _ (HT.out.alloc _) (by omega) (by omega) (by omega) (by omega)).mono ?_
  rintro e w' ⟨rfl, rfl⟩
  go_wp2_with fail
  refine (Date_any _ _ _ _ (HT.out.alloc _)).mono ?_
  rintro e w1 ⟨rfl, hb⟩
  obtain ⟨hc, hf⟩ := bcell hb
  go_wp2
  refine bodyPost_ret (v := kn (dk (t / 12) (t % 12 + 1) (d)) (dn (t / 12) (t % 12 + 1) (d))) (by simp [results, Tryd.results12, go_sem, hc]) rfl ⟨rfl, ?_⟩
  have hB := ((Below.refl _ w).alloc (Nat.le_refl _) _).trans (hb.mono (by simp))
  exact below4 hB (Nat.le_refl _) _ _ _ _
set_option maxHeartbeats 2000000 in
theorem Months_gt (n k : Int) (w : World) (hT : Tab w) (h1 : -25567 ≤ n) (h2 : n ≤ 84005) (h3 : -3600 ≤ k) (h4 : k ≤ 3600) (y m d : Int) (hd : DateOf n y m d) (t : Int) (ht : t = 12 * y + m - 1 + k) (hle : Cal.dim (t / 12) (t % 12 + 1) < d) :
    Calls Tryd.prog 12 #[.int .i64 n, .int .i64 k] w fun e w' => e = .returned (kn (dk (t / 12) (t % 12 + 1) (Cal.dim (t / 12) (t % 12 + 1))) (dn (t / 12) (t % 12 + 1) (Cal.dim (t / 12) (t % 12 + 1)))) ∧ Below w.heap.size w w' := by
  have HD := Lib.hid hd; clear hd
  have HT := Lib.hid hT; clear hT
  obtain ⟨⟨m1, m2, d1, d2⟩, y1, y2, _⟩ := HD.out
  have t1 : 10000 ≤ t := by omega
  have t2 : t ≤ 40000 := by omega
  obtain ⟨q1, q2, q3, q4⟩ := quot12 t t1 t2
  have TT : Hid (k + (12 * y + m - 1) = t) := by unfold Hid; omega
  clear ht d2
  go_enter Tryd.func12, Tryd.ntmps12
  go_wp2_with (go_at_call 14; refine (isDay_yes _ _ h1 h2).mono ?_; rintro e w' ⟨rfl, rfl⟩)
  refine (date_ex _ _ (HT.out.alloc _) h1 h2 y m d HD.out).mono ?_
  rintro e w' ⟨rfl, rfl⟩
  go_wp2_with fail
  rw [TT.out]
  refine (lengthOf_any _ _ _ (HT.out.alloc _) (by omega) (by omega) (by omega) (by omega)).mono ?_
  rintro e w' ⟨rfl, rfl⟩
  go_wp2_with fail
  refine (Date_any _ _ _ _ (HT.out.alloc _)).mono ?_
  rintro e w1 ⟨rfl, hb⟩
  obtain ⟨hc, hf⟩ := bcell hb
  go_wp2
  refine bodyPost_ret (v := kn (dk (t / 12) (t % 12 + 1) (Cal.dim (t / 12) (t % 12 + 1))) (dn (t / 12) (t % 12 + 1) (Cal.dim (t / 12) (t % 12 + 1)))) (by simp [results, Tryd.results12, go_sem, hc]) rfl ⟨rfl, ?_⟩
  have hB := ((Below.refl _ w).alloc (Nat.le_refl _) _).trans (hb.mono (by simp))
  exact below4 hB (Nat.le_refl _) _ _ _ _
set_option maxHeartbeats 2000000 in
theorem RMonths_le (n k : Int) (w : World) (h1 : -25567 ≤ n) (h2 : n ≤ 84005) (h3 : -4800 ≤ k) (h4 : k ≤ 4800) (y m d : Int) (hd : DateOf n y m d) (t : Int) (ht : t = 12 * y + m - 1 + k) (hle : d ≤ Cal.dim (t / 12) (t % 12 + 1)) :
    Calls Tryd.prog 13 #[.int .i64 n, .int .i64 k] w fun e w' => e = .returned (kn (dk (t / 12) (t % 12 + 1) (d)) (dn (t / 12) (t % 12 + 1) (d))) ∧ Below w.heap.size w w' := by
  have HD := Lib.hid hd; clear hd
  obtain ⟨⟨m1, m2, d1, d2⟩, y1, y2, _⟩ := HD.out
  have t1 : 10000 ≤ t := by omega
  have t2 : t ≤ 40000 := by omega
  obtain ⟨q1, q2, q3, q4⟩ := quot12 t t1 t2
  have TT : Hid (12 * y + m - 1 + k = t) := by unfold Hid; omega
  clear ht d2
  go_enter Tryd.func13, Tryd.ntmps13
  go_wp2_with fail
  refine (RCivil_at _ _ h1 h2 y m d HD.out).mono ?_
  rintro e w' ⟨rfl, rfl⟩
  go_wp2_with fail
  refine (within_yes _ _ _ _ h3 h4).mono ?_
  rintro e w' ⟨rfl, rfl⟩
  go_wp2_with fail
  rw [TT.out]
  refine (monthDays_any _ _ _ (by omega) (by omega) (by omega) (by omega)).mono ?_
  rintro e w' ⟨rfl, rfl⟩
  go_wp2_with fail
  refine (RDate_any _ _ _ _).mono ?_
  rintro e w1 ⟨rfl, hb⟩
  obtain ⟨hc, hf⟩ := bcell hb
  go_wp2
  refine bodyPost_ret (v := kn (dk (t / 12) (t % 12 + 1) (d)) (dn (t / 12) (t % 12 + 1) (d))) (by simp [results, Tryd.results13, go_sem, hc]) rfl ⟨rfl, ?_⟩
  have hB := ((Below.refl _ w).alloc (Nat.le_refl _) _).trans (hb.mono (by simp))
  exact below4 hB (Nat.le_refl _) _ _ _ _
set_option maxHeartbeats 2000000 in
theorem RMonths_gt (n k : Int) (w : World) (h1 : -25567 ≤ n) (h2 : n ≤ 84005) (h3 : -4800 ≤ k) (h4 : k ≤ 4800) (y m d : Int) (hd : DateOf n y m d) (t : Int) (ht : t = 12 * y + m - 1 + k) (hle : Cal.dim (t / 12) (t % 12 + 1) < d) :
    Calls Tryd.prog 13 #[.int .i64 n, .int .i64 k] w fun e w' => e = .returned (kn (dk (t / 12) (t % 12 + 1) (Cal.dim (t / 12) (t % 12 + 1))) (dn (t / 12) (t % 12 + 1) (Cal.dim (t / 12) (t % 12 + 1)))) ∧ Below w.heap.size w w' := by
  have HD := Lib.hid hd; clear hd
  obtain ⟨⟨m1, m2, d1, d2⟩, y1, y2, _⟩ := HD.out
  have t1 : 10000 ≤ t := by omega
  have t2 : t ≤ 40000 := by omega
  obtain ⟨q1, q2, q3, q4⟩ := quot12 t t1 t2
  have TT : Hid (12 * y + m - 1 + k = t) := by unfold Hid; omega
  clear ht d2
  go_enter Tryd.func13, Tryd.ntmps13
  go_wp2_with fail
  refine (RCivil_at _ _ h1 h2 y m d HD.out).mono ?_
  rintro e w' ⟨rfl, rfl⟩
  go_wp2_with fail
  refine (within_yes _ _ _ _ h3 h4).mono ?_
  rintro e w' ⟨rfl, rfl⟩
  go_wp2_with fail
  rw [TT.out]
  refine (monthDays_any _ _ _ (by omega) (by omega) (by omega) (by omega)).mono ?_
  rintro e w' ⟨rfl, rfl⟩
  go_wp2_with fail
  refine (RDate_any _ _ _ _).mono ?_
  rintro e w1 ⟨rfl, hb⟩
  obtain ⟨hc, hf⟩ := bcell hb
  go_wp2
  refine bodyPost_ret (v := kn (dk (t / 12) (t % 12 + 1) (Cal.dim (t / 12) (t % 12 + 1))) (dn (t / 12) (t % 12 + 1) (Cal.dim (t / 12) (t % 12 + 1)))) (by simp [results, Tryd.results13, go_sem, hc]) rfl ⟨rfl, ?_⟩
  have hB := ((Below.refl _ w).alloc (Nat.le_refl _) _).trans (hb.mono (by simp))
  exact below4 hB (Nat.le_refl _) _ _ _ _
set_option maxHeartbeats 1000000 in
theorem RMonths_no (n k : Int) (w : World) (h : (n < -25567 ∨ 84005 < n) ∨ (-25567 ≤ n ∧ n ≤ 84005) ∧ (k < -4800 ∨ 4800 < k)) (y m d : Int) (hd : (-25567 ≤ n ∧ n ≤ 84005) → DateOf n y m d) :
    Calls Tryd.prog 13 #[.int .i64 n, .int .i64 k] w fun e w' => e = .returned (kn 0 0) ∧ Below w.heap.size w w' := by
  rcases h with h | ⟨⟨h1, h2⟩, h⟩
  · have H := Lib.hid h; clear h hd
    go_enter Tryd.func13, Tryd.ntmps13
    go_wp2_with (go_at_call 6; refine (RCivil_no _ _ H.out).mono ?_; rintro e w' ⟨rfl, rfl⟩)
    refine bodyPost_ret (v := kn 0 0) (by simp [results, Tryd.results13, go_sem]) rfl ⟨rfl, ?_⟩
    exact (Below.refl _ _).alloc (Nat.le_refl _) _
  · have H := Lib.hid h; clear h
    have HD := Lib.hid (hd ⟨h1, h2⟩); clear hd
    go_enter Tryd.func13, Tryd.ntmps13
    go_wp2_with fail
    refine (RCivil_at _ _ h1 h2 y m d HD.out).mono ?_
    rintro e w' ⟨rfl, rfl⟩
    go_wp2_with fail
    refine (within_no _ _ _ _ H.out).mono ?_
    rintro e w' ⟨rfl, rfl⟩
    go_wp2
    refine bodyPost_ret (v := kn 0 0) (by simp [results, Tryd.results13, go_sem]) rfl ⟨rfl, ?_⟩
    exact (Below.refl _ _).alloc (Nat.le_refl _) _

/-- Every day has a date. -/
theorem has_date (n : Int) (h1 : -25567 ≤ n) (h2 : n ≤ 84005) : ∃ y m d : Int, DateOf n y m d := Cal.date_of n h1 h2
/-- What Months comes to, as far as the law is concerned: both return the same. -/
theorem months_both (n k : Int) : ∃ p q : Int, (∀ w : World, Tab w → Calls Tryd.prog 12 #[.int .i64 n, .int .i64 k] w fun e w' => e = .returned (kn p q) ∧ Below w.heap.size w w') ∧
    (∀ w : World, Tab w → Calls Tryd.prog 13 #[.int .i64 n, .int .i64 k] w fun e w' => e = .returned (kn p q) ∧ Below w.heap.size w w') := by
  by_cases hn : -25567 ≤ n ∧ n ≤ 84005
  · obtain ⟨h1, h2⟩ := hn
    obtain ⟨y, m, d, hd⟩ := has_date n h1 h2
    by_cases hk : -4800 ≤ k ∧ k ≤ 4800
    · by_cases hle : d ≤ Cal.dim ((12 * y + m - 1 + k) / 12) ((12 * y + m - 1 + k) % 12 + 1)
      · refine ⟨_, _, fun w hT => ?_, fun w _ => RMonths_le n k w h1 h2 hk.1 hk.2 y m d hd _ rfl hle⟩
        by_cases hs : -3600 ≤ k ∧ k ≤ 3600
        · exact Months_le n k w hT h1 h2 hs.1 hs.2 y m d hd _ rfl hle
        · have e := d_no (y := (12 * y + m - 1 + k) / 12) (m := (12 * y + m - 1 + k) % 12 + 1) (d := d) (by obtain ⟨⟨_, _, _, _⟩, _, _, _⟩ := hd; omega)
          rw [e.1, e.2]
          exact Months_no n k w (.inr ⟨⟨h1, h2⟩, by omega⟩)
      · refine ⟨_, _, fun w hT => ?_, fun w _ => RMonths_gt n k w h1 h2 hk.1 hk.2 y m d hd _ rfl (by omega)⟩
        by_cases hs : -3600 ≤ k ∧ k ≤ 3600
        · exact Months_gt n k w hT h1 h2 hs.1 hs.2 y m d hd _ rfl (by omega)
        · have e := d_no (y := (12 * y + m - 1 + k) / 12) (m := (12 * y + m - 1 + k) % 12 + 1) (d := Cal.dim ((12 * y + m - 1 + k) / 12) ((12 * y + m - 1 + k) % 12 + 1)) (by obtain ⟨⟨_, _, _, _⟩, _, _, _⟩ := hd; omega)
          rw [e.1, e.2]
          exact Months_no n k w (.inr ⟨⟨h1, h2⟩, by omega⟩)
    · exact ⟨0, 0, fun w _ => Months_no n k w (.inr ⟨⟨h1, h2⟩, by omega⟩), fun w _ => RMonths_no n k w (.inr ⟨⟨h1, h2⟩, by omega⟩) y m d (fun _ => hd)⟩
  · exact ⟨0, 0, fun w _ => Months_no n k w (.inl (by omega)), fun w _ => RMonths_no n k w (.inl (by omega)) 0 0 0 (fun h => absurd h hn)⟩
theorem civil_both (n : Int) : ∃ a b c f : Int, (∀ w : World, Tab w → Calls Tryd.prog 5 #[.int .i64 n] w fun e w' => e = .returned (.tuple #[.int .i64 a, .int .i64 b, .int .i64 c, .int .i64 f]) ∧ w = w') ∧
    (∀ w : World, Calls Tryd.prog 6 #[.int .i64 n] w fun e w' => e = .returned (.tuple #[.int .i64 a, .int .i64 b, .int .i64 c, .int .i64 f]) ∧ w = w') := by
  by_cases hn : -25567 ≤ n ∧ n ≤ 84005
  · obtain ⟨y, m, d, hd⟩ := has_date n hn.1 hn.2
    exact ⟨y, m, d, 0, fun w hT => Civil_at n w hT hn.1 hn.2 y m d hd, fun w => RCivil_at n w hn.1 hn.2 y m d hd⟩
  · exact ⟨0, 0, 0, 1, fun w _ => Civil_no n w (by omega), fun w => RCivil_no n w (by omega)⟩
theorem week_both (n : Int) : ∃ v h : Int, (∀ w : World, Calls Tryd.prog 7 #[.int .i64 n] w fun e w' => e = .returned (.tuple #[.int .i64 v, .int .i64 h]) ∧ w = w') ∧
    (∀ w : World, Calls Tryd.prog 8 #[.int .i64 n] w fun e w' => e = .returned (.tuple #[.int .i64 v, .int .i64 h]) ∧ w = w') := by
  by_cases hn : -25567 ≤ n ∧ n ≤ 84005
  · exact ⟨_, _, fun w => Weekday_yes n w hn.1 hn.2, fun w => RWeekday_yes n w hn.1 hn.2⟩
  · exact ⟨_, _, fun w => Weekday_no n w (by omega), fun w => RWeekday_no n w (by omega)⟩
set_option maxHeartbeats 1000000 in
theorem same_kn (k n : Int) (w : World) :
    Calls Tryd.prog 9 #[kn k n, kn k n] w fun e w' => e = .returned (.bool true) ∧ Below w.heap.size w w' := by
  go_enter Tryd.func9, Tryd.ntmps9
  go_wp2_with (go_at_call 20; refine (equal_nil _).mono ?_; rintro e w' ⟨rfl, rfl⟩)
  go_ret
  exact ⟨rfl, ((Below.refl _ _).alloc (Nat.le_refl _) _).alloc (by simp) _⟩

set_option maxHeartbeats 4000000 in
theorem law_days (y m d n k : Int) (w : World) (hT : Tab w) :
    Calls Tryd.prog 3 #[.int .i64 y, .int .i64 m, .int .i64 d, .int .i64 n, .int .i64 k] w fun e w' => e = .returned (.bool true) ∧ Below w.heap.size w w' := by
  have HT := Lib.hid hT; clear hT
  obtain ⟨a, b, c, f, hC, hRC⟩ := civil_both n
  obtain ⟨v, h, hW, hRW⟩ := week_both n
  obtain ⟨p, q, hM, hRM⟩ := months_both n k
  have HC := Lib.hid hC; clear hC
  have HRC := Lib.hid hRC; clear hRC
  have HW := Lib.hid hW; clear hW
  have HRW := Lib.hid hRW; clear hRW
  have HM := Lib.hid hM; clear hM
  have HRM := Lib.hid hRM; clear hRM
  go_enter Tryd.func3, Tryd.ntmps3
  go_wp2_with fail
  refine (HC.out _ HT.out).mono ?_; rintro e w' ⟨rfl, rfl⟩
  go_wp2_with fail
  refine (HRC.out _).mono ?_; rintro e w' ⟨rfl, rfl⟩
  go_wp2_with fail
  refine (HW.out _).mono ?_; rintro e w' ⟨rfl, rfl⟩
  go_wp2_with fail
  refine (HRW.out _).mono ?_; rintro e w' ⟨rfl, rfl⟩
  go_wp2_with fail
  refine (Date_any _ _ _ _ HT.out).mono ?_; rintro e w1 ⟨rfl, hb1⟩
  have B1 := Lib.hid hb1; clear hb1
  go_wp2_with fail
  refine (RDate_any _ _ _ _).mono ?_; rintro e w2 ⟨rfl, hb2⟩
  have B2 := Lib.hid (B1.out.trans (hb2.mono B1.out.size)); clear hb2
  go_wp2_with fail
  refine (same_kn _ _ _).mono ?_; rintro e w3 ⟨rfl, hb3⟩
  have B3 := Lib.hid (B2.out.trans (hb3.mono B2.out.size)); clear hb3
  go_wp2_with fail
  refine (HM.out _ (HT.out.below B3.out)).mono ?_; rintro e w4 ⟨rfl, hb4⟩
  have B4 := Lib.hid (B3.out.trans (hb4.mono B3.out.size)); clear hb4
  go_wp2_with fail
  refine (HRM.out _ (HT.out.below B4.out)).mono ?_; rintro e w5 ⟨rfl, hb5⟩
  have B5 := Lib.hid (B4.out.trans (hb5.mono B4.out.size)); clear hb5
  go_wp2_with fail
  refine (same_kn _ _ _).mono ?_; rintro e w6 ⟨rfl, hb6⟩
  have B6 := Lib.hid (B5.out.trans (hb6.mono B5.out.size)); clear hb6
  go_wp2
  go_ret
  exact ⟨rfl, B6.out⟩
end Go.Proofs.YtleiapoaoiapbaaDoor
