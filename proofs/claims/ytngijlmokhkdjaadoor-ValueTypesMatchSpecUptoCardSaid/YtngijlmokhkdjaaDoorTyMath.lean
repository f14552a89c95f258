/-
  The kinds that operations give, as plain functions: the table of package value and that of the reference agree, if there are as many arguments as the operation asks.
-/
import Derived.Test.YtngijlmokhkdjaaDoorExSpec
namespace Go.Proofs.YtngijlmokhkdjaaDoor

/-- The marks of an operation's arguments in the reference: -1 any kind, -2 Number or Day, -3 Choices or Text. -/
def marksS (o : Int) : List Int :=
  if o = 1 ∨ o = 2 ∨ o = 3 then [7] else if o = 4 ∨ o = 5 then [-1, -1] else if 6 ≤ o ∧ o ≤ 9 then [-2, -2] else if o = 10 then [4, 5] else if o = 11 then [5, 4]
  else if 12 ≤ o ∧ o ≤ 14 then [-1] else if 15 ≤ o ∧ o ≤ 19 then [2, 2] else if 20 ≤ o ∧ o ≤ 23 then [2] else if o = 24 ∨ o = 25 then [-2] else if o = 26 then [7, -1, -1]
  else if o = 27 then [-1, -1] else if o = 28 then [-3] else if o = 29 then [4] else if o = 30 then [3] else if 31 ≤ o ∧ o ≤ 33 then [3, 3] else if 34 ≤ o ∧ o ≤ 36 then [6] else if o = 37 ∨ o = 38 then [6, 6] else [6, 2]
/-- The mark of an operation's result in the reference. -/
def resultS (o : Int) : Int :=
  if 1 ≤ o ∧ o ≤ 13 then 7 else if 14 ≤ o ∧ o ≤ 23 then 2 else if o = 24 ∨ o = 25 then -2 else if o = 26 ∨ o = 27 then -1 else if o = 28 ∨ o = 29 then 2 else if o = 30 ∨ o = 31 then 3 else if o = 32 ∨ o = 33 then 7
  else if 34 ≤ o ∧ o ≤ 38 then 2 else 6
/-- What a mark stands for from an argument on, and whether the argument's kind fits. -/
def fitsS (mark kind so : Int) : Int × Bool :=
  if mark = -1 then (kind, decide (so = 0 ∨ so = kind)) else if mark = -2 then (kind, decide ((kind = 2 ∨ kind = 6) ∧ (so = 0 ∨ so = kind))) else if mark = -3 then (so, decide (kind = 5 ∨ kind = 3)) else (so, decide (mark = kind))
/-- All arguments, one after the other. -/
def operF (marks : List Int) : Nat → List Int → Int → Option Int
  | _, [], so => some so
  | i, k :: r, so => if (fitsS (marks.getD (min i (marks.length - 1)) 0) k so).2 = true then operF marks (i + 1) r (fitsS (marks.getD (min i (marks.length - 1)) 0) k so).1 else none
/-- The kind of an operation, as the reference finds it; 0: it has none. -/
def operS (o : Int) (ks : List Int) : Int :=
  match operF (marksS o) 0 ks 0 with
  | none => 0
  | some so => if resultS o < 0 then so else resultS o
def allK (ks : List Int) (k : Int) : Bool := ks.all fun x => x == k
/-- The kind of an operation, as package value finds it, and whether the arguments fit. -/
def resK (o : Int) (ks : List Int) : Int × Bool :=
  if 1 ≤ o ∧ o ≤ 3 then (7, allK ks 7) else if o = 4 ∨ o = 5 then (7, ks.getD 0 0 == ks.getD 1 0) else if 6 ≤ o ∧ o ≤ 9 then (7, allK ks 2 || allK ks 6) else if o = 10 then (7, ks.getD 0 0 == 4 && ks.getD 1 0 == 5)
  else if o = 11 then (7, ks.getD 0 0 == 5 && ks.getD 1 0 == 4) else if o = 12 ∨ o = 13 then (7, true) else if o = 14 then (2, true) else if o = 24 ∨ o = 25 then (ks.getD 0 0, allK ks 2 || allK ks 6)
  else if o = 26 then (ks.getD 1 0, ks.getD 0 0 == 7 && ks.getD 1 0 == ks.getD 2 0) else if o = 27 then (ks.getD 0 0, ks.getD 0 0 == ks.getD 1 0) else if o = 28 then (2, ks.getD 0 0 == 5 || ks.getD 0 0 == 3) else if o = 29 then (2, ks.getD 0 0 == 4)
  else if o = 30 ∨ o = 31 then (3, allK ks 3) else if o = 32 ∨ o = 33 then (7, allK ks 3) else if 34 ≤ o ∧ o ≤ 38 then (2, allK ks 6) else if o = 39 then (6, ks.getD 0 0 == 6 && ks.getD 1 0 == 2) else (2, allK ks 2)
/-- The kind of an operation, as package value finds it; 0: it has none. -/
def kindR (o : Int) (ks : List Int) : Int := if (resK o ks).2 = true then (resK o ks).1 else 0

theorem operF_seven : ∀ (ks : List Int) (i : Nat), operF [7] i ks 0 = if allK ks 7 = true then some 0 else none
  | [], _ => by simp [operF, allK]
  | k :: r, i => by
    have ih := operF_seven r (i + 1)
    by_cases hk : k = 7
    · subst hk
      simp only [operF, fitsS, allK, List.all_cons] at *
      simpa using ih
    · have hk' : ¬ (7 : Int) = k := fun h => hk h.symm
      simp [operF, fitsS, allK, hk, hk']
theorem operF_meas (s : Int) (hs : s = 2 ∨ s = 6) : ∀ (ks : List Int) (i : Nat), operF [-2] i ks s = if allK ks s = true then some s else none
  | [], _ => by simp [operF, allK]
  | k :: r, i => by
    have ih := operF_meas s hs r (i + 1)
    have h0 : s ≠ 0 := by omega
    by_cases hk : k = s
    · subst hk
      simp only [operF, fitsS, allK, List.all_cons] at *
      simpa [hs] using ih
    · have hk' : ¬ s = k := fun h => hk h.symm
      simp [operF, fitsS, allK, hk, hk', h0]
/-- What the two tables say of one, two and three arguments of sound kinds. -/
theorem tables_1 : ∀ o ∈ ([1, 12, 13, 14, 20, 21, 22, 23, 28, 29, 30, 34, 35, 36] : List Int), ∀ a ∈ ([2, 3, 4, 5, 6, 7] : List Int), kindR o [a] = operS o [a] := by decide +kernel
theorem tables_2 : ∀ o ∈ ([4, 5, 6, 7, 8, 9, 10, 11, 15, 16, 17, 18, 19, 27, 31, 32, 33, 37, 38, 39] : List Int), ∀ a ∈ ([2, 3, 4, 5, 6, 7] : List Int), ∀ b ∈ ([2, 3, 4, 5, 6, 7] : List Int), kindR o [a, b] = operS o [a, b] := by decide +kernel
theorem tables_3 : ∀ a ∈ ([2, 3, 4, 5, 6, 7] : List Int), ∀ b ∈ ([2, 3, 4, 5, 6, 7] : List Int), ∀ c ∈ ([2, 3, 4, 5, 6, 7] : List Int), kindR 26 [a, b, c] = operS 26 [a, b, c] := by decide +kernel
theorem tables_bools (o : Int) (ho : o = 2 ∨ o = 3) (ks : List Int) : kindR o ks = operS o ks := by
  have h := operF_seven ks 0
  rcases ho with rfl | rfl
  · have h1 : kindR 2 ks = if allK ks 7 = true then 7 else 0 := rfl
    have h2 : operS 2 ks = match operF [7] 0 ks 0 with | none => 0 | some so => if resultS 2 < 0 then so else resultS 2 := rfl
    rw [h1, h2, h]
    split <;> rfl
  · have h1 : kindR 3 ks = if allK ks 7 = true then 7 else 0 := rfl
    have h2 : operS 3 ks = match operF [7] 0 ks 0 with | none => 0 | some so => if resultS 3 < 0 then so else resultS 3 := rfl
    rw [h1, h2, h]
    split <;> rfl
theorem meas_cons (k : Int) (r : List Int) (hk : 2 ≤ k) : operF [-2] 0 (k :: r) 0 = if allK (k :: r) 2 = true ∨ allK (k :: r) 6 = true then some k else none := by
  by_cases h : k = 2 ∨ k = 6
  · have e : operF [-2] 0 (k :: r) 0 = operF [-2] 1 r k := by
      rcases h with rfl | rfl <;> rfl
    rw [e, operF_meas k h r 1]
    rcases h with rfl | rfl
    · have e1 : allK (2 :: r) 2 = allK r 2 := by simp [allK]
      have e2 : allK (2 :: r) 6 = false := by simp [allK]
      rw [e1, e2]; simp
    · have e1 : allK (6 :: r) 6 = allK r 6 := by simp [allK]
      have e2 : allK (6 :: r) 2 = false := by simp [allK]
      rw [e1, e2]; simp
  · have h1 : k ≠ 2 := fun e => h (.inl e)
    have h2 : k ≠ 6 := fun e => h (.inr e)
    simp [operF, fitsS, allK, h1, h2]
theorem tables_most (o : Int) (ho : o = 24 ∨ o = 25) (k : Int) (r : List Int) (hk : 2 ≤ k) : kindR o (k :: r) = operS o (k :: r) := by
  have h := meas_cons k r hk
  have h1 : kindR o (k :: r) = if (allK (k :: r) 2 || allK (k :: r) 6) = true then k else 0 := by rcases ho with rfl | rfl <;> rfl
  have h2 : operS o (k :: r) = match operF [-2] 0 (k :: r) 0 with | none => 0 | some so => so := by
    rcases ho with rfl | rfl
    · have : operS 24 (k :: r) = match operF [-2] 0 (k :: r) 0 with | none => 0 | some so => if resultS 24 < 0 then so else resultS 24 := rfl
      rw [this]; cases operF [-2] 0 (k :: r) 0 <;> rfl
    · have : operS 25 (k :: r) = match operF [-2] 0 (k :: r) 0 with | none => 0 | some so => if resultS 25 < 0 then so else resultS 25 := rfl
      rw [this]; cases operF [-2] 0 (k :: r) 0 <;> rfl
  rw [h1, h2, h]
  simp only [Bool.or_eq_true]
  split <;> rfl
theorem mem_kinds {k : Int} (h : 2 ≤ k ∧ k ≤ 7) : k ∈ ([2, 3, 4, 5, 6, 7] : List Int) := by
  have : k = 2 ∨ k = 3 ∨ k = 4 ∨ k = 5 ∨ k = 6 ∨ k = 7 := by omega
  simpa using this
/-- The two tables agree. -/
theorem tables (o : Int) (h1 : 1 ≤ o) (h2 : o ≤ 39) (ks : List Int) (hl : leastS o ≤ ks.length) (hm : (ks.length : Int) ≤ mostS o) (hk : ∀ k ∈ ks, 2 ≤ k ∧ k ≤ 7) : kindR o ks = operS o ks := by
  have kk := fun k (h : k ∈ ks) => mem_kinds (hk k h)
  by_cases hb : o = 2 ∨ o = 3
  · exact tables_bools o hb ks
  by_cases hv : o = 24 ∨ o = 25
  · cases ks with
    | nil =>
      have : leastS o = 2 := by rcases hv with rfl | rfl <;> rfl
      simp [this] at hl
    | cons k r => exact tables_most o hv k r (hk k (by simp)).1
  have hms : mostS o = leastS o := by unfold mostS; rw [if_neg (by omega)]
  by_cases h26 : o = 26
  · subst h26
    have e : leastS 26 = 3 := rfl
    match ks, hl, hm, kk with
    | [], hl, _, _ => simp [e] at hl
    | [_], hl, _, _ => simp [e] at hl
    | [_, _], hl, _, _ => simp [e] at hl
    | [a, b, c], _, _, kk => exact tables_3 a (kk a (by simp)) b (kk b (by simp)) c (kk c (by simp))
    | _ :: _ :: _ :: _ :: _, _, hm, _ => rw [hms, e] at hm; simp only [List.length_cons] at hm; omega
  by_cases ho : o = 1 ∨ o = 12 ∨ o = 13 ∨ o = 14 ∨ o = 20 ∨ o = 21 ∨ o = 22 ∨ o = 23 ∨ o = 28 ∨ o = 29 ∨ o = 30 ∨ o = 34 ∨ o = 35 ∨ o = 36
  · have e : leastS o = 1 := by unfold leastS; rw [if_neg h26, if_pos ho]
    match ks, hl, hm, kk with
    | [], hl, _, _ => simp [e] at hl
    | [a], _, _, kk => exact tables_1 o (by simpa using ho) a (kk a (by simp))
    | _ :: _ :: _, _, hm, _ => rw [hms, e] at hm; simp only [List.length_cons] at hm; omega
  · have e : leastS o = 2 := by unfold leastS; rw [if_neg h26, if_neg ho]
    have hm2 : o ∈ ([4, 5, 6, 7, 8, 9, 10, 11, 15, 16, 17, 18, 19, 27, 31, 32, 33, 37, 38, 39] : List Int) := by
      have : o = 4 ∨ o = 5 ∨ o = 6 ∨ o = 7 ∨ o = 8 ∨ o = 9 ∨ o = 10 ∨ o = 11 ∨ o = 15 ∨ o = 16 ∨ o = 17 ∨ o = 18 ∨ o = 19 ∨ o = 27 ∨ o = 31 ∨ o = 32 ∨ o = 33 ∨ o = 37 ∨ o = 38 ∨ o = 39 := by omega
      simpa using this
    match ks, hl, hm, kk with
    | [], hl, _, _ => simp [e] at hl
    | [_], hl, _, _ => simp [e] at hl
    | [a, b], _, _, kk => exact tables_2 o hm2 a (kk a (by simp)) b (kk b (by simp))
    | _ :: _ :: _ :: _, _, hm, _ => rw [hms, e] at hm; simp only [List.length_cons] at hm; omega
end Go.Proofs.YtngijlmokhkdjaaDoor
