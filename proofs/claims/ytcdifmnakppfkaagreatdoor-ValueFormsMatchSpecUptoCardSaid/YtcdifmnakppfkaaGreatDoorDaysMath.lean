/-
  The calendar of chapter 1 in plain integers: how many days lie ahead of a year and of a month, the number of a date, that each day has just one date, and that the next day has the next date. Nothing of the program stands here.
-/
namespace Go.Proofs.YtcdifmnakppfkaaGreatDoor.Cal

/-- Is it a leap year. -/
def leapB (y : Int) : Bool := decide ((y % 4 = 0 ∧ y % 100 ≠ 0) ∨ y % 400 = 0)
def lp (y : Int) : Int := if leapB y then 1 else 0
/-- Leap years from the year 1 on, ahead of a year. -/
def ahead (y : Int) : Int := (y - 1) / 4 - (y - 1) / 100 + (y - 1) / 400
/-- The day with which a year begins. -/
def dby (y : Int) : Int := 365 * (y - 1970) + ahead y - 477
def dim (y m : Int) : Int := if m = 2 then 28 + lp y else if m = 4 ∨ m = 6 ∨ m = 9 ∨ m = 11 then 30 else 31
/-- Days of a year ahead of a month. -/
def cum (y m : Int) : Int :=
  if m ≤ 1 then 0 else if m = 2 then 31 else
  (if m = 3 then 59 else if m = 4 then 90 else if m = 5 then 120 else if m = 6 then 151 else if m = 7 then 181 else if m = 8 then 212 else if m = 9 then 243 else if m = 10 then 273 else if m = 11 then 304 else if m = 12 then 334 else 365) + lp y
def num (y m d : Int) : Int := dby y + cum y m + d - 1
def Valid (y m d : Int) : Prop := 1 ≤ m ∧ m ≤ 12 ∧ 1 ≤ d ∧ d ≤ dim y m

theorem lp_01 (y : Int) : 0 ≤ lp y ∧ lp y ≤ 1 := by unfold lp; split <;> omega
theorem lp_yes {y : Int} (h : leapB y = true) : lp y = 1 := by simp [lp, h]
theorem lp_no {y : Int} (h : leapB y = false) : lp y = 0 := by simp [lp, h]
theorem dby_succ (y : Int) : dby (y + 1) = dby y + 365 + lp y := by
  unfold dby ahead lp leapB
  by_cases h : (y % 4 = 0 ∧ y % 100 ≠ 0) ∨ y % 400 = 0
  · simp only [h, decide_true, if_true]; omega
  · simp only [h, decide_false, Bool.false_eq_true, if_false]; omega
theorem dby_mono (a b : Int) (h : a ≤ b) : dby a ≤ dby b := by unfold dby ahead; omega
theorem dby_1900 : dby 1900 = -25567 := by decide
theorem dby_2200 : dby 2200 = 84006 := by decide
theorem dby_guess (k : Int) (h0 : 0 ≤ k) : dby (1900 + k) ≤ -25567 + 366 * k := by unfold dby ahead; omega
theorem dby_bd (y : Int) (h0 : 1 ≤ y) (h : y ≤ 10000) : -800000 ≤ dby y ∧ dby y ≤ 3000000 := by unfold dby ahead; omega
theorem ahead_bd (y : Int) (h0 : 1 ≤ y) (h : y ≤ 10000) : 0 ≤ ahead y ∧ ahead y ≤ 2500 := by unfold ahead; omega
theorem dim_bd (y m : Int) : 28 ≤ dim y m ∧ dim y m ≤ 31 := by
  have := lp_01 y; unfold dim; split
  · omega
  · split <;> omega
theorem cum_bd (y m : Int) (h1 : 1 ≤ m) (h2 : m ≤ 13) : 0 ≤ cum y m ∧ cum y m ≤ 366 := by
  have hl := lp_01 y
  have hm : m = 1 ∨ m = 2 ∨ m = 3 ∨ m = 4 ∨ m = 5 ∨ m = 6 ∨ m = 7 ∨ m = 8 ∨ m = 9 ∨ m = 10 ∨ m = 11 ∨ m = 12 ∨ m = 13 := by omega
  rcases hm with rfl | rfl | rfl | rfl | rfl | rfl | rfl | rfl | rfl | rfl | rfl | rfl | rfl <;>
    first | (simp [cum]; done) | (simp [cum]; omega)
theorem cum_1 (y : Int) : cum y 1 = 0 := by simp [cum]
theorem cum_13 (y : Int) : cum y 13 = 365 + lp y := by simp [cum]
theorem cum_succ (y m : Int) (h1 : 1 ≤ m) (h2 : m ≤ 12) : cum y (m + 1) = cum y m + dim y m := by
  have hm : m = 1 ∨ m = 2 ∨ m = 3 ∨ m = 4 ∨ m = 5 ∨ m = 6 ∨ m = 7 ∨ m = 8 ∨ m = 9 ∨ m = 10 ∨ m = 11 ∨ m = 12 := by omega
  rcases hm with rfl | rfl | rfl | rfl | rfl | rfl | rfl | rfl | rfl | rfl | rfl | rfl <;> simp [cum, dim] <;> omega
theorem cum_mono (y m m' : Int) (h1 : 1 ≤ m) (h2 : m < m') (h3 : m' ≤ 13) : cum y m + dim y m ≤ cum y m' := by
  have hl := lp_01 y
  have hm : m = 1 ∨ m = 2 ∨ m = 3 ∨ m = 4 ∨ m = 5 ∨ m = 6 ∨ m = 7 ∨ m = 8 ∨ m = 9 ∨ m = 10 ∨ m = 11 ∨ m = 12 := by omega
  have hm' : m' = 2 ∨ m' = 3 ∨ m' = 4 ∨ m' = 5 ∨ m' = 6 ∨ m' = 7 ∨ m' = 8 ∨ m' = 9 ∨ m' = 10 ∨ m' = 11 ∨ m' = 12 ∨ m' = 13 := by omega
  rw [← cum_succ y m h1 (by omega)]
  rcases hm with rfl | rfl | rfl | rfl | rfl | rfl | rfl | rfl | rfl | rfl | rfl | rfl <;>
    rcases hm' with rfl | rfl | rfl | rfl | rfl | rfl | rfl | rfl | rfl | rfl | rfl | rfl <;>
      first | omega | (simp [cum]; done) | (simp [cum]; omega)

/-- A date lies in its year. -/
theorem num_in (y m d : Int) (h : Valid y m d) : dby y ≤ num y m d ∧ num y m d < dby (y + 1) := by
  obtain ⟨a, b, c, e⟩ := h
  have h0 := cum_bd y m a (by omega)
  have h1 : cum y m + dim y m ≤ cum y 13 := cum_mono y m 13 a (by omega) (by omega)
  rw [cum_13] at h1
  rw [dby_succ]
  unfold num
  omega
/-- A day has one date. -/
theorem num_inj (y m d y' m' d' : Int) (h : Valid y m d) (h' : Valid y' m' d') (e : num y m d = num y' m' d') : y = y' ∧ m = m' ∧ d = d' := by
  have i := num_in y m d h
  have i' := num_in y' m' d' h'
  have hy : y = y' := by
    rcases Int.lt_trichotomy y y' with l | l | l
    · have := dby_mono (y + 1) y' (by omega); omega
    · exact l
    · have := dby_mono (y' + 1) y (by omega); omega
  subst hy
  obtain ⟨a, b, c, g⟩ := h
  obtain ⟨a', b', c', g'⟩ := h'
  unfold num at e
  have hm : m = m' := by
    rcases Int.lt_trichotomy m m' with l | l | l
    · have := cum_mono y m m' a l (by omega); omega
    · exact l
    · have := cum_mono y m' m a' l (by omega); omega
  subst hm
  exact ⟨rfl, rfl, by omega⟩
/-- The next day has the next date. -/
theorem next_date (y m d p q r : Int) (h : Valid y m d) (h' : Valid p q r) (e : num p q r = num y m d + 1) :
    (p = y ∧ q = m ∧ r = d + 1) ∨ (p = y ∧ q = m + 1 ∧ r = 1) ∨ (p = y + 1 ∧ q = 1 ∧ r = 1 ∧ m = 12) := by
  have hv := h
  obtain ⟨a, b, c, g⟩ := h
  by_cases hd : d < dim y m
  · refine Or.inl (num_inj _ _ _ _ _ _ h' ⟨a, b, by omega, by omega⟩ ?_)
    rw [e]; unfold num; omega
  · by_cases hm : m < 12
    · refine Or.inr (Or.inl (num_inj _ _ _ _ _ _ h' ⟨by omega, by omega, by omega, ?_⟩ ?_))
      · have := dim_bd y (m + 1); omega
      · rw [e]; unfold num; rw [cum_succ y m a (by omega)]; omega
    · have hm12 : m = 12 := by omega
      have hn := num_inj p q r (y + 1) 1 1 h' ⟨by omega, by omega, by omega, by have := dim_bd (y + 1) 1; omega⟩ (by
        rw [e]; unfold num; rw [dby_succ, cum_1]
        have := cum_succ y 12 (by omega) (by omega)
        have h13 := cum_13 y
        rw [show (12 : Int) + 1 = 13 from rfl] at this
        subst hm12
        omega)
      exact Or.inr (Or.inr ⟨hn.1, hn.2.1, hn.2.2, hm12⟩)

/-- Some year begins not behind a day, and the next one behind it. -/
theorem year_of (k : Nat) : ∀ n : Int, -25567 ≤ n → n < dby (1900 + k) → ∃ y : Int, 1900 ≤ y ∧ y < 1900 + k ∧ dby y ≤ n ∧ n < dby (y + 1) := by
  induction k with
  | zero => intro n h1 h2; have := dby_1900; simp at h2; omega
  | succ k ih =>
    intro n h1 h2
    by_cases h : n < dby (1900 + k)
    · obtain ⟨y, a, b, c, e⟩ := ih n h1 h
      exact ⟨y, a, by omega, c, e⟩
    · exact ⟨1900 + k, by omega, by omega, by omega, by rw [show (1900 : Int) + k + 1 = 1900 + (k + 1 : Nat) by omega]; exact h2⟩
theorem month_of (y : Int) (k : Nat) (hk : k ≤ 12) : ∀ r : Int, 0 ≤ r → r < cum y (1 + k) → ∃ m : Int, 1 ≤ m ∧ m < 1 + k ∧ cum y m ≤ r ∧ r < cum y (m + 1) := by
  induction k with
  | zero => intro r h1 h2; have := cum_1 y; simp at h2; omega
  | succ k ih =>
    intro r h1 h2
    by_cases h : r < cum y (1 + k)
    · obtain ⟨m, a, b, c, e⟩ := ih (by omega) r h1 h
      exact ⟨m, a, by omega, c, e⟩
    · exact ⟨1 + k, by omega, by omega, by omega, by rw [show (1 : Int) + k + 1 = 1 + (k + 1 : Nat) by omega]; exact h2⟩
theorem date_of (n : Int) (h1 : -25567 ≤ n) (h2 : n ≤ 84005) : ∃ y m d : Int, Valid y m d ∧ 1900 ≤ y ∧ y ≤ 2199 ∧ num y m d = n := by
  have h3 := dby_2200
  obtain ⟨y, a, b, c, e⟩ := year_of 300 n h1 (by rw [show (1900 : Int) + (300 : Nat) = 2200 from rfl]; omega)
  have hs := dby_succ y
  have h13 := cum_13 y
  obtain ⟨m, a', b', c', e'⟩ := month_of y 12 (by omega) (n - dby y) (by omega) (by rw [show (1 : Int) + (12 : Nat) = 13 from rfl]; omega)
  have hc := cum_succ y m a' (by omega)
  exact ⟨y, m, n - dby y - cum y m + 1, ⟨a', by omega, by omega, by omega⟩, a, by omega, by unfold num; omega⟩
end Go.Proofs.YtcdifmnakppfkaaGreatDoor.Cal
