/-
  What a text means to the reference: of the texts of sound values the value comes back. No walk.
-/
import Derived.Test.YtcohkmpjendhnaaGreatDoorTxtLaw
import Derived.Lib.SlTrimSet
namespace Go.Proofs.YtcohkmpjendhnaaGreatDoor
open Go.RowKit

/-- The number that Atoi gives beside whatever error. -/
def atoiV (l : List UInt8) : Int := match Lib.atoiAll l with
  | .ok v => v
  | .range => Lib.atoiSat l
  | _ => 0
theorem atoiV_bounds (l : List UInt8) : -9223372036854775808 ≤ atoiV l ∧ atoiV l ≤ 9223372036854775807 := by
  unfold atoiV
  split
  · rename_i v h; exact Lib.atoiAll_bounds h
  · exact Lib.atoiSat_bounds l
  · omega
theorem atoiV_of {l : List UInt8} {m : Int} (h : Txt.natF l = m) (h0 : 0 ≤ m) : atoiV l = m := by
  unfold Txt.natF at h
  unfold atoiV
  split at h
  · rename_i v hv
    rw [hv]
    split at h
    · omega
    · exact h
  · omega
theorem atoiV_lt {l : List UInt8} {k : Nat} (hl : l.length ≤ k) (hk : k ≤ 18) : -((10 ^ k : Nat) : Int) < atoiV l ∧ atoiV l < (10 ^ k : Nat) := by
  have h1 : (1 : Nat) ≤ 10 ^ k := Nat.one_le_pow _ _ (by decide)
  unfold atoiV
  rw [Lib.atoiAll_short l (by omega)]
  cases e : Lib.atoi l with
  | none => simp only [Lib.NumEnd.ofOption]; omega
  | some n =>
    simp only [Lib.NumEnd.ofOption]
    have h2 := atoi_lt e
    have h3 : 10 ^ l.length ≤ 10 ^ k := Nat.pow_le_pow_right (by decide) hl
    omega

theorem means_choiceR (r : List UInt8) : Means (35 :: r) 4 (atoiV r) ⟨#[]⟩ [] := by
  intro k' n' s' l' hg e
  obtain ⟨e1, e2, e3, e4⟩ := means_choice r k' n' s' l' hg e
  subst e1 e3 e4
  cases hg with
  | choice n a b => exact ⟨rfl, atoiV_of e2 (by omega), rfl, rfl⟩

/-! ### Sets -/
def piecesR (t : List UInt8) : List (List UInt8) := Lib.splitK [44] 0 (Lib.count t [44]) t
def keepR (ps : List (List UInt8)) : List Int := (ps.filter fun p => !p.isEmpty).map fun p => atoiV (Lib.trimPrefix p [35])
def setR (t : List UInt8) : List Int := keepR (piecesR (Lib.trimS t [123, 125]))
theorem dropWhile_stop {c : UInt8} {r : List UInt8} (p : UInt8 → Bool) (h : p c = false) : (c :: r).dropWhile p = c :: r := by simp [List.dropWhile, h]
theorem last_digit {x : List UInt8} (hx : x ≠ []) (h : ∀ b ∈ x, b ≠ 123 ∧ b ≠ 125) : ∃ y c, x.reverse = c :: y ∧ c ≠ 123 ∧ c ≠ 125 := by
  cases e : x.reverse with
  | nil => exact absurd (List.reverse_eq_nil_iff.1 e) hx
  | cons c y =>
    have : c ∈ x := by rw [← List.mem_reverse, e]; simp
    exact ⟨y, c, rfl, h c this⟩
theorem trim_braces (x : List UInt8) (h : ∀ b ∈ x, b ≠ 123 ∧ b ≠ 125) : Lib.trimS (123 :: (x ++ [125])) [123, 125] = x := by
  have hc : ∀ b : UInt8, b ≠ 123 → b ≠ 125 → ([123, 125] : List UInt8).contains b = false := by
    intro b h1 h2; simp [h1, h2]
  unfold Lib.trimS Lib.trimLeftS Lib.trimRightS
  have e : (123 :: (x ++ [125])).reverse = 125 :: (x.reverse ++ [123]) := by simp
  rw [e]
  have d1 : (125 :: (x.reverse ++ [123])).dropWhile (([123, 125] : List UInt8).contains ·) = (x.reverse ++ [123]).dropWhile (([123, 125] : List UInt8).contains ·) := by
    rw [List.dropWhile_cons, if_pos (by decide)]
  rw [d1]
  by_cases hx : x = []
  · subst hx; decide
  · obtain ⟨y, c, ey, c1, c2⟩ := last_digit hx h
    rw [ey, List.cons_append, dropWhile_stop _ (hc c c1 c2), ← List.cons_append, ← ey]
    rw [List.reverse_append, List.reverse_reverse]
    show (([123] : List UInt8).reverse ++ x).dropWhile _ = x
    have d2 : (([123] : List UInt8).reverse ++ x).dropWhile (([123, 125] : List UInt8).contains ·) = x.dropWhile (([123, 125] : List UInt8).contains ·) := by
      show (123 :: x).dropWhile _ = _
      rw [List.dropWhile_cons, if_pos (by decide)]
    rw [d2]
    cases x with
    | nil => rfl
    | cons b r => exact dropWhile_stop _ (hc b (h b (by simp)).1 (h b (by simp)).2)
theorem count_join (xs : List (List UInt8)) : xs.length ≤ (Lib.join xs [44]).count 44 + 1 := by
  induction xs with
  | nil => simp
  | cons x r ih =>
    cases r with
    | nil => simp
    | cons y r =>
      have e : Lib.join (x :: y :: r) [44] = x ++ 44 :: Lib.join (y :: r) [44] := by
        rw [Lib.join_cons, Lib.join_cons]; simp [Lib.joinTail]
      rw [e, List.count_append, List.count_cons_self]
      simp only [List.length_cons] at ih ⊢
      omega
theorem keepR_codes (l : List Int) (hx : ∀ x ∈ l, 1 ≤ x ∧ x ≤ 999) : keepR (l.map Txt.codeT) = l := by
  unfold keepR
  have hf : (l.map Txt.codeT).filter (fun p => !p.isEmpty) = l.map Txt.codeT := by
    rw [List.filter_eq_self]
    intro p hp
    obtain ⟨n, _, rfl⟩ := List.mem_map.1 hp
    simp [Txt.codeT]
  rw [hf, List.map_map]
  conv => rhs; rw [← List.map_id l]
  refine List.map_congr_left fun n hn => ?_
  have e : Lib.trimPrefix (Txt.codeT n) [35] = Lib.itoa n := by
    unfold Lib.trimPrefix Txt.codeT; simp [Lib.hasPrefix]
  simp only [Function.comp_apply, e, id_eq]
  exact atoiV_of (natF_itoa (hx n hn).1 (hx n hn).2) (by have := (hx n hn).1; omega)
theorem code_braces {n : Int} (h1 : 1 ≤ n) : ∀ b ∈ Txt.codeT n, b ≠ 123 ∧ b ≠ 125 := by
  intro b h
  rcases List.mem_cons.1 h with h | h
  · subst h; decide
  · have := itoa_digits h1 _ h
    constructor <;> (rintro rfl; revert this; decide)
theorem join_all (p : UInt8 → Prop) (hp : p 44) : ∀ xs : List (List UInt8), (∀ x ∈ xs, ∀ b ∈ x, p b) → ∀ b ∈ Lib.join xs [44], p b
  | [], _, b, hb => by simp [Lib.join_nil] at hb
  | [x], h, b, hb => by rw [Lib.join_one] at hb; exact h x (by simp) b hb
  | x :: y :: r, h, b, hb => by
    have e : Lib.join (x :: y :: r) [44] = x ++ 44 :: Lib.join (y :: r) [44] := by
      rw [Lib.join_cons, Lib.join_cons]; simp [Lib.joinTail]
    rw [e] at hb
    rcases List.mem_append.1 hb with hb | hb
    · exact h x (by simp) b hb
    · rcases List.mem_cons.1 hb with rfl | hb
      · exact hp
      · exact join_all p hp (y :: r) (fun z hz => h z (List.mem_cons_of_mem _ hz)) b hb
theorem setR_text (l : List Int) (hx : ∀ x ∈ l, 1 ≤ x ∧ x ≤ 999) : setR (123 :: (Lib.join (l.map Txt.codeT) [44] ++ [125])) = l := by
  unfold setR
  rw [trim_braces _ (join_all (fun b => b ≠ 123 ∧ b ≠ 125) (by decide) _ (by
    intro x hx' b hb
    obtain ⟨n, hn, rfl⟩ := List.mem_map.1 hx'
    exact code_braces (hx n hn).1 b hb))]
  by_cases h0 : l = []
  · subst h0; decide
  · have hne : l.map Txt.codeT ≠ [] := by simpa using h0
    unfold piecesR
    rw [Txt.split_join 44 _ _ hne (by rw [Lib.count_one]; exact count_join _) (by
      intro x hx'
      obtain ⟨n, hn, rfl⟩ := List.mem_map.1 hx'
      exact code_comma (hx n hn).1)]
    exact keepR_codes l hx
theorem means_setR (r : List UInt8) : Means (123 :: r) 5 0 ⟨#[]⟩ (setR (123 :: r)) := by
  intro k' n' s' l' hg e
  obtain ⟨e1, e2, e3, _⟩ := means_set r k' n' s' l' hg e
  subst e1 e2 e3
  cases hg with
  | choices l h hx =>
    refine ⟨rfl, rfl, rfl, ?_⟩
    have e2 : 123 :: r = 123 :: (Lib.join (l'.map Txt.codeT) [44] ++ [125]) := by rw [← e]; simp [showT, Txt.setT]
    rw [e2]
    refine setR_text l' fun x hx' => ?_
    obtain ⟨j, hj, ej⟩ := List.getElem_of_mem hx'
    have := hx j hj
    simp only [List.getD_eq_getElem?_getD, List.getElem?_eq_getElem hj, Option.getD_some, ej] at this
    exact this

/-! ### Days -/
def dayKR (r : List UInt8) : Int := dk (atoiV (r.take 4)) (atoiV ((r.drop 5).take 2)) (atoiV (r.drop 8))
def dayNR (r : List UInt8) : Int := dn (atoiV (r.take 4)) (atoiV ((r.drop 5).take 2)) (atoiV (r.drop 8))
theorem means_dayR (r : List UInt8) : Means (64 :: r) (dayKR r) (dayNR r) ⟨#[]⟩ [] := by
  intro k' n' s' l' hg e
  have hh := head_at hg e
  have hk : k' = 6 := by
    rcases hh with h | h | h | h | h | h | h | h
    · exact absurd h.2.1 (by decide)
    · exact absurd h.2 (by decide)
    · exact (no_num (by decide) (by decide) h.2).elim
    · exact absurd h.2 (by decide)
    · exact absurd h.2 (by decide)
    · exact absurd h.2 (by decide)
    · exact h.1
    · exact absurd h.2 (by decide)
  subst hk
  cases hg with
  | day n h1 h2 =>
    obtain ⟨y, m, d, hd⟩ := has_date n' h1 h2
    have e2 : r = Txt.pad 4 y ++ 45 :: (Txt.pad 2 m ++ 45 :: Txt.pad 2 d) := by
      simp [showT, dayOf_eq hd, Txt.dayT] at e; exact e.symm
    have hb := Cal.dim_bd (y : Int) (m : Int)
    have hd' := hd
    obtain ⟨⟨v1, v2, v3, v4⟩, v5, v6, v7⟩ := hd'
    have ly := Txt.pad_len (k := 3) (u := y) (by omega)
    have lm := Txt.pad_len (k := 1) (u := m) (by omega)
    have ld := Txt.pad_len (k := 1) (u := d) (by omega)
    have ty : r.take 4 = Txt.pad 4 y := by rw [e2, List.take_append_of_le_length (by rw [ly]; omega), List.take_of_length_le (by rw [ly]; omega)]
    have d5 : r.drop 5 = Txt.pad 2 m ++ 45 :: Txt.pad 2 d := by
      rw [e2, show 5 = (Txt.pad 4 y).length + 1 by rw [ly], List.drop_append]; simp
    have tm : (r.drop 5).take 2 = Txt.pad 2 m := by rw [d5, List.take_append_of_le_length (by rw [lm]; omega), List.take_of_length_le (by rw [lm]; omega)]
    have d8 : r.drop 8 = Txt.pad 2 d := by
      rw [show r.drop 8 = (r.drop 5).drop 3 by rw [List.drop_drop], d5, show 3 = (Txt.pad 2 m).length + 1 by rw [lm], List.drop_append]; simp
    have ny := atoiV_of (Txt.natF_pad (k := 3) (u := y) (by omega) (by omega)) (by omega)
    have nm := atoiV_of (Txt.natF_pad (k := 1) (u := m) (by omega) (by omega)) (by omega)
    have nd := atoiV_of (Txt.natF_pad (k := 1) (u := d) (by omega) (by omega)) (by omega)
    obtain ⟨q1, q2⟩ := d_yes v5 v6 hd.1
    unfold dayKR dayNR
    rw [ty, tm, d8, ny, nm, nd, q1, q2]
    exact ⟨rfl, v7, rfl, rfl⟩


theorem day_len {n : Int} (h1 : -25567 ≤ n) (h2 : n ≤ 84005) : (showT 6 n ⟨#[]⟩ []).length = 11 := by
  obtain ⟨y, m, d, hd⟩ := has_date n h1 h2
  have hb := Cal.dim_bd (y : Int) (m : Int)
  have hd' := hd
  obtain ⟨⟨v1, v2, v3, v4⟩, v5, v6, _⟩ := hd'
  have p1 := Txt.pad_len (k := 3) (u := y) (by omega)
  have p2 := Txt.pad_len (k := 1) (u := m) (by omega)
  have p3 := Txt.pad_len (k := 1) (u := d) (by omega)
  simp [showT, dayOf_eq hd, Txt.dayT, p1, p2, p3]

/-! ### Numbers -/
def decV (t : List UInt8) : Int :=
  if 4 < (numP t).2.length ∨ 12 < (numP t).1.length then 0
  else if Lib.hasPrefix t [45] then -(atoiV (numP t).1 * 10000 + atoiV ((numP t).2 ++ List.replicate (4 - (numP t).2.length) 48)) else atoiV (numP t).1 * 10000 + atoiV ((numP t).2 ++ List.replicate (4 - (numP t).2.length) 48)
theorem dec_back (n : Int) (h1 : -999999999999999 ≤ n) (h2 : n ≤ 999999999999999) : decV (Txt.numT n) = n := by
  obtain ⟨m1, m2, m3⟩ := mag_back n.natAbs
  obtain ⟨c, r, ec, c1, c2⟩ := dec_head (n.natAbs / 10000)
  have eT : Lib.trimPrefix (Txt.numT n) [45] = Txt.magT n.natAbs ∧ Lib.hasPrefix (Txt.numT n) [45] = decide (n < 0) := by
    unfold Txt.numT
    by_cases hn : n < 0
    · rw [if_pos hn]; simp [Lib.trimPrefix, Lib.hasPrefix, hn]
    · rw [if_neg hn]
      have e : Txt.magT n.natAbs = c :: (r ++ Txt.fracT (n.natAbs % 10000)) := by unfold Txt.magT; rw [ec]; rfl
      have hp : Lib.hasPrefix (Txt.magT n.natAbs) [45] = false := by
        rw [e]; simp only [Lib.hasPrefix, List.isPrefixOf]
        have : (45 == c) = false := by rw [beq_eq_false_iff_ne]; rintro rfl; revert c1; decide
        rw [this]; rfl
      exact ⟨by unfold Lib.trimPrefix; rw [hp]; simp, by rw [hp]; simp [hn]⟩
  have l1 : (numP (Txt.numT n)).1.length ≤ 12 := by
    unfold numP; rw [eT.1, m1, Lib.decDigits_length]
    have := Txt.nDigits_le (k := 10) (u := n.natAbs / 10000) (by omega)
    omega
  have l2 : (numP (Txt.numT n)).2.length ≤ 4 := by unfold numP; rw [eT.1]; exact m2
  have hv : atoiV (numP (Txt.numT n)).1 * 10000 + atoiV ((numP (Txt.numT n)).2 ++ List.replicate (4 - (numP (Txt.numT n)).2.length) 48) = n.natAbs := by
    unfold numP
    rw [eT.1]
    have q := atoiV_of m3 (by omega)
    simp only [m1, q]
    rw [atoiV_of (Txt.natF_dec (k := 10) (u := n.natAbs / 10000) (by omega) (by omega)) (by omega)]
    omega
  unfold decV
  rw [if_neg (by omega), hv, eT.2]
  by_cases hn : n < 0 <;> simp [hn] <;> omega
theorem means_numberR (t : List UInt8) (h1 : t ≠ [45]) (h2 : ∀ i, 1 ≤ i → i ≤ 3 → t ≠ reasonT i) (h3 : ∀ b, t ≠ boolT b) (h4 : t.head? = some 39 → t.length ≤ 1) (h5 : t.head? ≠ some 35) (h6 : t.head? ≠ some 123) (h7 : t.head? = some 64 → t.length ≠ 11) :
    Means t 2 (decV t) ⟨#[]⟩ [] := by
  intro k' n' s' l' hg e
  have hc := head_of hg
  rw [e] at hc
  obtain ⟨c, r, et, hh⟩ := hc
  rw [et] at h5 h6
  cases hg with
  | none => exact absurd e.symm h1
  | special n a b => exact absurd (e.symm.trans (by simp [showT])) (h2 _ a b)
  | number n a b =>
    have e2 : t = Txt.numT n' := by rw [← e]; simp [showT]
    rw [e2, dec_back n' a b]; exact ⟨rfl, rfl, rfl, rfl⟩
  | text s a b =>
    have := h4 (by rw [← e]; simp [showT])
    rw [← e] at this
    simp [showT] at this
  | choice n a b => exact (show False by rcases hh with h | h | h | h | h | h | h | h <;> first | (exact absurd h.1 (by omega)) | (rw [h.2] at h5; exact h5 rfl)).elim
  | choices l a b => exact (show False by rcases hh with h | h | h | h | h | h | h | h <;> first | (exact absurd h.1 (by omega)) | (rw [h.2] at h6; exact h6 rfl)).elim
  | day n a b =>
    have hl := day_len a b
    rw [e] at hl
    refine absurd hl (h7 ?_)
    rw [et]
    rcases hh with h | h | h | h | h | h | h | h <;> first | (exact absurd h.1 (by omega)) | (rw [h.2]; rfl)
  | bool n a b => exact absurd (e.symm.trans (by simp [showT])) (h3 (decide (n' = 1)))
/-- A text between quotes, as the reference cuts it. -/
theorem inside_cut (t : List UInt8) (h : 2 ≤ t.length) : (t.drop 1).take (t.length - 1 - 1) = insideT t := by
  unfold insideT; rw [show t.length - 1 - 1 = t.length - 2 by omega]
end Go.Proofs.YtcohkmpjendhnaaGreatDoor
