/-
  What a text means: of the texts of sound values the value comes back. No walk.
-/
import Derived.Test.YtcohkmpjendhnaaGreatDoorTxtShown
namespace Go.Proofs.YtcohkmpjendhnaaGreatDoor
open Go.RowKit

/-- These parts are those of every sound value with this text. -/
def Means (t : List UInt8) (k n : Int) (s : ByteArray) (l : List Int) : Prop :=
  ∀ k' n' s' l', Good k' n' s' l' → showT k' n' s' l' = t → k = k' ∧ n = n' ∧ s = s' ∧ l = l'

theorem dec_head (u : Nat) : ∃ c r, Lib.decDigits u = c :: r ∧ 48 ≤ c.toNat ∧ c.toNat ≤ 57 := by
  have hd := Txt.dec_digit u
  cases e : Lib.decDigits u with
  | nil => exact absurd e (Txt.dec_ne u)
  | cons c r => exact ⟨c, r, rfl, by rw [e] at hd; exact (hd c (by simp)).1, by rw [e] at hd; exact (hd c (by simp)).2⟩
/-- How the text of a sound value begins. -/
def Head (k : Int) (c : UInt8) (r : List UInt8) : Prop :=
  (k = 0 ∧ c = 45 ∧ r = []) ∨ (k = 1 ∧ (c = 100 ∨ c = 114 ∨ c = 110)) ∨ (k = 2 ∧ (c = 45 ∧ r ≠ [] ∨ 48 ≤ c.toNat ∧ c.toNat ≤ 57)) ∨ (k = 3 ∧ c = 39) ∨ (k = 4 ∧ c = 35) ∨ (k = 5 ∧ c = 123) ∨ (k = 6 ∧ c = 64) ∨ (k = 7 ∧ (c = 116 ∨ c = 102))
theorem head_of {k n : Int} {s : ByteArray} {l : List Int} (h : Good k n s l) : ∃ c r, showT k n s l = c :: r ∧ Head k c r := by
  cases h with
  | none => exact ⟨45, [], by simp [showT], .inl ⟨rfl, rfl, rfl⟩⟩
  | special n h1 h2 =>
    have hn : n = 1 ∨ n = 2 ∨ n = 3 := by omega
    rcases hn with rfl | rfl | rfl
    · exact ⟨_, _, by simp [showT, reasonT]; rfl, .inr (.inl ⟨rfl, .inl rfl⟩)⟩
    · exact ⟨_, _, by simp [showT, reasonT]; rfl, .inr (.inl ⟨rfl, .inr (.inl rfl)⟩)⟩
    · exact ⟨_, _, by simp [showT, reasonT]; rfl, .inr (.inl ⟨rfl, .inr (.inr rfl)⟩)⟩
  | number n h1 h2 =>
    obtain ⟨c, r, e, a, b⟩ := dec_head (n.natAbs / 10000)
    by_cases hn : n < 0
    · refine ⟨45, Txt.magT n.natAbs, by simp [showT, Txt.numT, hn], .inr (.inr (.inl ⟨rfl, .inl ⟨rfl, ?_⟩⟩))⟩
      unfold Txt.magT; rw [e]; simp
    · refine ⟨c, r ++ Txt.fracT (n.natAbs % 10000), by simp [showT, Txt.numT, hn, Txt.magT, e], .inr (.inr (.inl ⟨rfl, .inr ⟨a, b⟩⟩))⟩
  | text s h hb => exact ⟨_, _, by simp [showT]; rfl, .inr (.inr (.inr (.inl ⟨rfl, rfl⟩)))⟩
  | choice n h1 h2 => exact ⟨_, _, by simp [showT, Txt.codeT]; rfl, .inr (.inr (.inr (.inr (.inl ⟨rfl, rfl⟩))))⟩
  | choices l h hx => exact ⟨_, _, by simp [showT, Txt.setT]; rfl, .inr (.inr (.inr (.inr (.inr (.inl ⟨rfl, rfl⟩)))))⟩
  | day n h1 h2 =>
    obtain ⟨y, m, d, hd⟩ := has_date n h1 h2
    exact ⟨_, _, by simp [showT, dayOf_eq hd, Txt.dayT]; rfl, .inr (.inr (.inr (.inr (.inr (.inr (.inl ⟨rfl, rfl⟩))))))⟩
  | bool n h1 h2 =>
    have hn : n = 0 ∨ n = 1 := by omega
    rcases hn with rfl | rfl
    · exact ⟨_, _, by simp [showT, boolT]; rfl, .inr (.inr (.inr (.inr (.inr (.inr (.inr ⟨rfl, .inr rfl⟩))))))⟩
    · exact ⟨_, _, by simp [showT, boolT]; rfl, .inr (.inr (.inr (.inr (.inr (.inr (.inr ⟨rfl, .inl rfl⟩))))))⟩
theorem head_at {k n : Int} {s : ByteArray} {l : List Int} (h : Good k n s l) {c : UInt8} {r : List UInt8} (e : showT k n s l = c :: r) : Head k c r := by
  obtain ⟨c', r', e', hh⟩ := head_of h
  rw [e] at e'
  injection e' with e1 e2
  rw [e1, e2]; exact hh

theorem no_num {c : UInt8} {r : List UInt8} (hc : c ≠ 45) (hd : ¬ (48 ≤ c.toNat ∧ c.toNat ≤ 57)) (h : c = 45 ∧ r ≠ [] ∨ 48 ≤ c.toNat ∧ c.toNat ≤ 57) : False := by
  rcases h with h | h
  · exact hc h.1
  · exact hd h
theorem means_nil (k n : Int) (s : ByteArray) (l : List Int) : Means [] k n s l := by
  intro k' n' s' l' hg e
  obtain ⟨c, r, e', _⟩ := head_of hg
  rw [e] at e'; cases e'
theorem means_none : Means [45] 0 0 ⟨#[]⟩ [] := by
  intro k' n' s' l' hg e
  have hh := head_at hg e
  have hk : k' = 0 := by
    rcases hh with h | h | h | h | h | h | h | h
    · exact h.1
    · exact absurd h.2 (by decide)
    · exact absurd h.2 (by decide)
    all_goals exact absurd h.2 (by decide)
  subst hk
  cases hg
  exact ⟨rfl, rfl, rfl, rfl⟩
theorem means_reason (i : Int) (h1 : 1 ≤ i) (h2 : i ≤ 3) : Means (reasonT i) 1 i ⟨#[]⟩ [] := by
  intro k' n' s' l' hg e
  have hi : i = 1 ∨ i = 2 ∨ i = 3 := by omega
  have hk : k' = 1 := by
    rcases hi with rfl | rfl | rfl
    all_goals
      have hh := head_at hg e
      rcases hh with h | h | h | h | h | h | h | h
      · exact absurd h.2.1 (by decide)
      · exact h.1
      all_goals exact absurd h.2 (by decide)
  subst hk
  cases hg with
  | special n a b =>
    have hn : n' = 1 ∨ n' = 2 ∨ n' = 3 := by omega
    refine ⟨rfl, ?_, rfl, rfl⟩
    rcases hn with rfl | rfl | rfl <;> rcases hi with rfl | rfl | rfl <;> first | rfl | (exact absurd e (by simp [showT, reasonT]))
theorem means_bool (b : Bool) : Means (boolT b) 7 (if b then 1 else 0) ⟨#[]⟩ [] := by
  intro k' n' s' l' hg e
  have hk : k' = 7 := by
    cases b
    all_goals
      have hh := head_at hg e
      rcases hh with h | h | h | h | h | h | h | h
      · exact absurd h.2.1 (by decide)
      · exact absurd h.2 (by decide)
      · exact absurd h.2 (by decide)
      · exact absurd h.2 (by decide)
      · exact absurd h.2 (by decide)
      · exact absurd h.2 (by decide)
      · exact absurd h.2 (by decide)
      · exact h.1
  subst hk
  cases hg with
  | bool n a c =>
    have hn : n' = 0 ∨ n' = 1 := by omega
    refine ⟨rfl, ?_, rfl, rfl⟩
    rcases hn with rfl | rfl <;> cases b <;> first | rfl | (exact absurd e (by simp [showT, boolT]))

/-- A text within quotes. -/
def insideT (t : List UInt8) : List UInt8 := (t.drop 1).take (t.length - 2)
theorem inside_mid (a b : UInt8) (x : List UInt8) : insideT (a :: (x ++ [b])) = x := by
  unfold insideT; simp
theorem means_text (r : List UInt8) : Means (39 :: r) 3 0 (bs (Lib.replaceAll (insideT (39 :: r)) [39, 39] [39])) [] := by
  intro k' n' s' l' hg e
  have hh := head_at hg e
  have hk : k' = 3 := by
    rcases hh with h | h | h | h | h | h | h | h
    · exact absurd h.2.1 (by decide)
    · exact absurd h.2 (by decide)
    · exact (no_num (by decide) (by decide) h.2).elim
    · exact h.1
    all_goals exact absurd h.2 (by decide)
  subst hk
  cases hg with
  | text s h hb =>
    refine ⟨rfl, rfl, ?_, rfl⟩
    rw [← e]
    simp only [showT]
    simp only [show ¬ ((3 : Int) = 1) by omega, show ¬ ((3 : Int) = 2) by omega, if_false, if_true]
    rw [inside_mid, Txt.undbl, bs_of]
theorem itoa_nat' {n : Int} (h : 0 ≤ n) : Lib.itoa n = Lib.decDigits n.toNat := by
  unfold Lib.itoa; rw [if_neg (by omega)]
theorem natF_itoa {n : Int} (h1 : 1 ≤ n) (h2 : n ≤ 999) : Txt.natF (Lib.itoa n) = n := by
  rw [itoa_nat' (by omega), Txt.natF_dec (k := 2) (by omega) (by omega)]; omega
theorem means_choice (r : List UInt8) : Means (35 :: r) 4 (Txt.natF r) ⟨#[]⟩ [] := by
  intro k' n' s' l' hg e
  have hh := head_at hg e
  have hk : k' = 4 := by
    rcases hh with h | h | h | h | h | h | h | h
    · exact absurd h.2.1 (by decide)
    · exact absurd h.2 (by decide)
    · exact (no_num (by decide) (by decide) h.2).elim
    · exact absurd h.2 (by decide)
    · exact h.1
    all_goals exact absurd h.2 (by decide)
  subst hk
  cases hg with
  | choice n a b =>
    refine ⟨rfl, ?_, rfl, rfl⟩
    simp [showT, Txt.codeT] at e
    rw [← e]; exact natF_itoa a b

/-- What a text within braces means. -/
def setM (t : List UInt8) : List Int := if t = [] then [] else (Lib.splitK [44] 0 (min 41 (t.length + 1) - 1) t).map fun p => Txt.natF (Lib.trimPrefix p [35])
theorem itoa_digits {n : Int} (h1 : 1 ≤ n) : ∀ b ∈ Lib.itoa n, 48 ≤ b.toNat ∧ b.toNat ≤ 57 := by
  rw [itoa_nat' (by omega)]; exact Txt.dec_digit _
theorem code_comma {n : Int} (h1 : 1 ≤ n) : (44 : UInt8) ∉ Txt.codeT n := by
  intro h
  rcases List.mem_cons.1 h with h | h
  · exact absurd h (by decide)
  · have := itoa_digits h1 _ h
    exact absurd this (by decide)
theorem join_ge (xs : List (List UInt8)) (h : ∀ x ∈ xs, 1 ≤ x.length) : xs.length ≤ (Lib.join xs [44]).length + 1 ∧ (xs ≠ [] → Lib.join xs [44] ≠ []) := by
  cases xs with
  | nil => simp
  | cons x r =>
    have hx := h x (by simp)
    have e : (Lib.join (x :: r) [44]).length = 1 * r.length + Lib.lens (x :: r) := Lib.join_length x r [44]
    have hl : x.length ≤ Lib.lens (x :: r) := by simp [Lib.lens]
    refine ⟨by simp only [List.length_cons]; omega, fun _ hn => ?_⟩
    rw [hn] at e; simp at e; omega
theorem setM_join (l : List Int) (h : l.length ≤ 40) (hx : ∀ x ∈ l, 1 ≤ x ∧ x ≤ 999) : setM (Lib.join (l.map Txt.codeT) [44]) = l := by
  by_cases h0 : l = []
  · subst h0; rfl
  · have hc : ∀ x ∈ l.map Txt.codeT, 1 ≤ x.length := by
      intro x hx'; obtain ⟨n, _, rfl⟩ := List.mem_map.1 hx'; simp [Txt.codeT]
    obtain ⟨g1, g2⟩ := join_ge _ hc
    have hne : l.map Txt.codeT ≠ [] := by simpa using h0
    have hlen : 1 ≤ l.length := by
      rcases Nat.eq_zero_or_pos l.length with e | e
      · exact absurd (List.eq_nil_of_length_eq_zero e) h0
      · exact e
    rw [List.length_map] at g1
    unfold setM
    rw [if_neg (g2 hne), Txt.split_join 44 (l.map Txt.codeT) _ hne (by rw [List.length_map]; omega) (by
      intro x hx'
      obtain ⟨n, hn, rfl⟩ := List.mem_map.1 hx'
      exact code_comma (hx n hn).1), List.map_map]
    conv => rhs; rw [← List.map_id l]
    refine List.map_congr_left fun n hn => ?_
    have e : Lib.trimPrefix (Txt.codeT n) [35] = Lib.itoa n := by
      unfold Lib.trimPrefix Txt.codeT; simp [Lib.hasPrefix]
    simp only [Function.comp_apply, e, id_eq]
    exact natF_itoa (hx n hn).1 (hx n hn).2
theorem means_set (r : List UInt8) : Means (123 :: r) 5 0 ⟨#[]⟩ (setM (insideT (123 :: r))) := by
  intro k' n' s' l' hg e
  have hh := head_at hg e
  have hk : k' = 5 := by
    rcases hh with h | h | h | h | h | h | h | h
    · exact absurd h.2.1 (by decide)
    · exact absurd h.2 (by decide)
    · exact (no_num (by decide) (by decide) h.2).elim
    · exact absurd h.2 (by decide)
    · exact absurd h.2 (by decide)
    · exact h.1
    all_goals exact absurd h.2 (by decide)
  subst hk
  cases hg with
  | choices l h hx =>
    refine ⟨rfl, rfl, rfl, ?_⟩
    have e2 : 123 :: r = 123 :: (Lib.join (l'.map Txt.codeT) [44] ++ [125]) := by rw [← e]; simp [showT, Txt.setT]
    rw [e2, inside_mid]
    refine setM_join l' h fun x hx' => ?_
    obtain ⟨j, hj, ej⟩ := List.getElem_of_mem hx'
    have := hx j hj
    simp only [List.getD_eq_getElem?_getD, List.getElem?_eq_getElem hj, Option.getD_some, ej] at this
    exact this

/-- What a text behind an at sign means. -/
def dayK (t : List UInt8) : Int := if t.length = 10 then dk (Txt.natF (t.take 4)) (Txt.natF ((t.drop 5).take 2)) (Txt.natF (t.drop 8)) else 0
def dayN (t : List UInt8) : Int := if t.length = 10 then dn (Txt.natF (t.take 4)) (Txt.natF ((t.drop 5).take 2)) (Txt.natF (t.drop 8)) else 0
theorem means_day (r : List UInt8) : Means (64 :: r) (dayK r) (dayN r) ⟨#[]⟩ [] := by
  intro k' n' s' l' hg e
  have hh := head_at hg e
  have hk : k' = 6 := by
    rcases hh with h | h | h | h | h | h | h | h
    · exact absurd h.2.1 (by decide)
    · exact absurd h.2 (by decide)
    · exact (no_num (by decide) (by decide) h.2).elim
    · exact absurd h.2 (by decide)
    · exact absurd h.2 (by decide)
    · exact absurd h.2 (by decide)
    · exact h.1
    · exact absurd h.2 (by decide)
  subst hk
  cases hg with
  | day n h1 h2 =>
    obtain ⟨y, m, d, hd⟩ := has_date n' h1 h2
    have e2 : r = Txt.pad 4 y ++ 45 :: (Txt.pad 2 m ++ 45 :: Txt.pad 2 d) := by
      simp [showT, dayOf_eq hd, Txt.dayT] at e; exact e.symm
    have hb := Cal.dim_bd (y : Int) (m : Int)
    have hd' := hd
    obtain ⟨⟨v1, v2, v3, v4⟩, v5, v6, v7⟩ := hd'
    have ly := Txt.pad_len (k := 3) (u := y) (by omega)
    have lm := Txt.pad_len (k := 1) (u := m) (by omega)
    have ld := Txt.pad_len (k := 1) (u := d) (by omega)
    have ty : r.take 4 = Txt.pad 4 y := by rw [e2, List.take_append_of_le_length (by rw [ly]; omega), List.take_of_length_le (by rw [ly]; omega)]
    have d5 : r.drop 5 = Txt.pad 2 m ++ 45 :: Txt.pad 2 d := by
      rw [e2, show 5 = (Txt.pad 4 y).length + 1 by rw [ly], List.drop_append]; simp
    have tm : (r.drop 5).take 2 = Txt.pad 2 m := by rw [d5, List.take_append_of_le_length (by rw [lm]; omega), List.take_of_length_le (by rw [lm]; omega)]
    have d8 : r.drop 8 = Txt.pad 2 d := by
      rw [show r.drop 8 = (r.drop 5).drop 3 by rw [List.drop_drop], d5, show 3 = (Txt.pad 2 m).length + 1 by rw [lm], List.drop_append]; simp
    have ll : r.length = 10 := by rw [e2]; simp [ly, lm, ld]
    have ny := Txt.natF_pad (k := 3) (u := y) (by omega) (by omega)
    have nm := Txt.natF_pad (k := 1) (u := m) (by omega) (by omega)
    have nd := Txt.natF_pad (k := 1) (u := d) (by omega) (by omega)
    obtain ⟨q1, q2⟩ := d_yes v5 v6 hd.1
    unfold dayK dayN
    rw [if_pos ll, if_pos ll, ty, tm, d8, ny, nm, nd, q1, q2]
    exact ⟨rfl, v7, rfl, rfl⟩

/-- What a text of digits means. -/
def numP (t : List UInt8) : List UInt8 × List UInt8 := ((Lib.cut (Lib.trimPrefix t [45]) [46]).1, (Lib.cut (Lib.trimPrefix t [45]) [46]).2.1)
def numV (t : List UInt8) : Int := Txt.natF (numP t).1 * 10000 + max 0 (Txt.natF ((numP t).2 ++ List.replicate (4 - (numP t).2.length) 48))
def numK (t : List UInt8) : Int := if 11 < (numP t).1.length ∨ 4 < (numP t).2.length then 0 else 2
def numN (t : List UInt8) : Int := if 11 < (numP t).1.length ∨ 4 < (numP t).2.length then 0 else if Lib.hasPrefix t [45] then -numV t else numV t
theorem frac_back (r : Nat) (h : r < 10000) : Lib.trimRightB (Txt.pad 4 r) 48 ++ List.replicate (4 - (Lib.trimRightB (Txt.pad 4 r) 48).length) 48 = Txt.pad 4 r := by
  have := Txt.trim_back (Txt.pad 4 r) 48
  rw [Txt.pad_len (k := 3) (by omega)] at this
  exact this
theorem cut_miss {x : List UInt8} (h : (46 : UInt8) ∉ x) : Lib.cut x [46] = (x, [], false) := by
  unfold Lib.cut; rw [Txt.index_none_of h, if_neg (by omega)]
theorem cut_hit {x y : List UInt8} (h : (46 : UInt8) ∉ x) : Lib.cut (x ++ 46 :: y) [46] = (x, y, true) := by
  unfold Lib.cut; rw [Txt.index_at h, if_pos (by omega)]
  have d : (x ++ 46 :: y).drop (x.length + ([46] : List UInt8).length) = y := by rw [List.drop_append]; simp
  show (List.take x.length (x ++ 46 :: y), List.drop (x.length + ([46] : List UInt8).length) (x ++ 46 :: y), true) = _
  rw [d]; simp
theorem dec_dot (u : Nat) : (46 : UInt8) ∉ Lib.decDigits u := fun h => absurd (Txt.dec_digit u _ h) (by decide)
theorem mag_back (m : Nat) : (Lib.cut (Txt.magT m) [46]).1 = Lib.decDigits (m / 10000) ∧ (Lib.cut (Txt.magT m) [46]).2.1.length ≤ 4 ∧
    Txt.natF ((Lib.cut (Txt.magT m) [46]).2.1 ++ List.replicate (4 - (Lib.cut (Txt.magT m) [46]).2.1.length) 48) = (m % 10000 : Nat) := by
  unfold Txt.magT Txt.fracT
  by_cases h0 : m % 10000 = 0
  · rw [if_pos h0, List.append_nil, cut_miss (dec_dot _)]
    refine ⟨rfl, by simp, ?_⟩
    rw [h0]
    have := Txt.natF_pad (k := 3) (u := 0) (by omega) (by omega)
    have e : Txt.pad 4 0 = [] ++ List.replicate (4 - ([] : List UInt8).length) 48 := by decide +kernel
    rw [← e]; exact this
  · rw [if_neg h0, cut_hit (dec_dot _)]
    have hl := Txt.trim_le (Txt.pad 4 (m % 10000)) 48
    rw [Txt.pad_len (k := 3) (by omega)] at hl
    refine ⟨rfl, hl, ?_⟩
    show Txt.natF (Lib.trimRightB (Txt.pad 4 (m % 10000)) 48 ++ List.replicate (4 - (Lib.trimRightB (Txt.pad 4 (m % 10000)) 48).length) 48) = _
    rw [frac_back _ (by omega)]
    exact Txt.natF_pad (k := 3) (by omega) (by omega)
theorem num_back (n : Int) (h1 : -999999999999999 ≤ n) (h2 : n ≤ 999999999999999) : numK (Txt.numT n) = 2 ∧ numN (Txt.numT n) = n := by
  obtain ⟨m1, m2, m3⟩ := mag_back n.natAbs
  obtain ⟨c, r, ec, c1, c2⟩ := dec_head (n.natAbs / 10000)
  have eT : Lib.trimPrefix (Txt.numT n) [45] = Txt.magT n.natAbs ∧ Lib.hasPrefix (Txt.numT n) [45] = decide (n < 0) := by
    unfold Txt.numT
    by_cases hn : n < 0
    · rw [if_pos hn]; simp [Lib.trimPrefix, Lib.hasPrefix, hn]
    · rw [if_neg hn]
      have e : Txt.magT n.natAbs = c :: (r ++ Txt.fracT (n.natAbs % 10000)) := by unfold Txt.magT; rw [ec]; rfl
      have hp : Lib.hasPrefix (Txt.magT n.natAbs) [45] = false := by
        rw [e]; simp only [Lib.hasPrefix, List.isPrefixOf]
        have : (45 == c) = false := by rw [beq_eq_false_iff_ne]; rintro rfl; revert c1; decide
        rw [this]; rfl
      exact ⟨by unfold Lib.trimPrefix; rw [hp]; simp, by rw [hp]; simp [hn]⟩
  have l1 : (numP (Txt.numT n)).1.length ≤ 11 := by
    unfold numP; rw [eT.1, m1, Lib.decDigits_length]
    exact Txt.nDigits_le (k := 10) (by omega)
  have l2 : (numP (Txt.numT n)).2.length ≤ 4 := by unfold numP; rw [eT.1]; exact m2
  have hv : numV (Txt.numT n) = n.natAbs := by
    unfold numV numP
    rw [eT.1]
    simp only [m1, m3]
    rw [Txt.natF_dec (k := 10) (by omega) (by omega)]
    omega
  unfold numK numN
  rw [if_neg (by omega), if_neg (by omega), hv, eT.2]
  refine ⟨rfl, ?_⟩
  by_cases hn : n < 0 <;> simp [hn] <;> omega
/-- A text that is none of the others. -/
theorem means_number (t : List UInt8) (h1 : t ≠ [45]) (h2 : ∀ i, 1 ≤ i → i ≤ 3 → t ≠ reasonT i) (h3 : ∀ b, t ≠ boolT b) (h4 : t.head? ≠ some 39) (h5 : t.head? ≠ some 35) (h6 : t.head? ≠ some 123) (h7 : t.head? ≠ some 64) :
    Means t (numK t) (numN t) ⟨#[]⟩ [] := by
  intro k' n' s' l' hg e
  have hc := head_of hg
  rw [e] at hc
  obtain ⟨c, r, et, hh⟩ := hc
  rw [et] at h4 h5 h6 h7
  cases hg with
  | none => exact absurd e.symm h1
  | special n a b => exact absurd (e.symm.trans (by simp [showT])) (h2 _ a b)
  | number n a b =>
    have e2 : t = Txt.numT n' := by rw [← e]; simp [showT]
    obtain ⟨q1, q2⟩ := num_back n' a b
    rw [e2, q1, q2]; exact ⟨rfl, rfl, rfl, rfl⟩
  | text s a b => exact (show False by rcases hh with h | h | h | h | h | h | h | h <;> first | (exact absurd h.1 (by omega)) | (rw [h.2] at h4; exact h4 rfl)).elim
  | choice n a b => exact (show False by rcases hh with h | h | h | h | h | h | h | h <;> first | (exact absurd h.1 (by omega)) | (rw [h.2] at h5; exact h5 rfl)).elim
  | choices l a b => exact (show False by rcases hh with h | h | h | h | h | h | h | h <;> first | (exact absurd h.1 (by omega)) | (rw [h.2] at h6; exact h6 rfl)).elim
  | day n a b => exact (show False by rcases hh with h | h | h | h | h | h | h | h <;> first | (exact absurd h.1 (by omega)) | (rw [h.2] at h7; exact h7 rfl)).elim
  | bool n a b => exact absurd (e.symm.trans (by simp [showT])) (h3 (decide (n' = 1)))
end Go.Proofs.YtcohkmpjendhnaaGreatDoor
