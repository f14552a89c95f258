/-
  What is true of an expression that CheckExpr accepts: the numbers of its arguments, and that its kind is one.
-/
import Derived.Test.YtngijlmokhkdjaaDoorTySpec
namespace Go.Proofs.YtngijlmokhkdjaaDoor
open Go.RowKit

theorem one_part {h : Hd} {a : Fo} (h1 : oneS h a = 0) : partS h a = 0 ∧ allS a = 0 := by
  unfold oneS at h1
  by_cases hp : partS h a = 0
  · rw [if_neg (by simpa using hp)] at h1; exact ⟨hp, h1⟩
  · rw [if_pos hp] at h1; exact absurd h1 hp
theorem all_cons {h : Hd} {a r : Fo} (h1 : allS (.cons h a r) = 0) : oneS h a = 0 ∧ allS r = 0 := by
  rw [allS_cons] at h1
  by_cases hp : oneS h a = 0
  · rw [if_neg (by simpa using hp)] at h1; exact ⟨hp, h1⟩
  · rw [if_pos hp] at h1; exact absurd h1 hp
theorem all_drop : ∀ (k : Nat) {xs : Fo}, allS xs = 0 → allS (xs.drop k) = 0
  | 0, _, h => h
  | k + 1, .nil, _ => by simp [Fo.drop, allS]
  | k + 1, .cons h a r, hh => all_drop k (all_cons hh).2
theorem all_at {k : Nat} {xs : Fo} {h : Hd} {a : Fo} (h1 : allS xs = 0) (hk : xs.drop k = .cons h a (xs.drop (k + 1))) : oneS h a = 0 := by
  have := all_drop k h1
  rw [hk] at this
  exact (all_cons this).1
theorem not_fls {b : Bool} (h : ¬ b = false) : b = true := by cases b <;> simp_all
/-- What a part says of itself. -/
structure PartOk (h : Hd) (a : Fo) : Prop where
  known : knownS h.k h.o = true
  form : formS h.k h.o h.nm h.vk h.vn h.vs h.vl.length a.len = true
  const : h.k = 1 → 2 ≤ h.vk ∧ h.vk ≤ 7
  name : h.k ≠ 1 → h.k ≠ 4 → nameS h.nm = true
  about : h.k = 4 → aboutS h.o = true → a.fk = 2
theorem chk_kind {k n : Int} {s : ByteArray} {l : List Int} (h : cChk k n s l = 0) : 0 ≤ k ∧ k ≤ 7 := by
  unfold cChk at h
  by_cases hk : k < 0 ∨ 7 < k
  · simp [hk] at h
  · omega
theorem part_ok {h : Hd} {a : Fo} (hp : partS h a = 0) : PartOk h a := by
  unfold partS at hp
  by_cases h1 : knownS h.k h.o = false
  · rw [if_pos h1] at hp; cases hp
  rw [if_neg h1] at hp
  by_cases h2 : formS h.k h.o h.nm h.vk h.vn h.vs h.vl.length a.len = false
  · rw [if_pos h2] at hp; cases hp
  rw [if_neg h2] at hp
  refine ⟨not_fls h1, not_fls h2, ?_, ?_, ?_⟩
  · intro hk
    rw [if_pos hk] at hp
    by_cases hv : h.vk = 0 ∨ h.vk = 1
    · rw [if_pos hv] at hp; cases hp
    · rw [if_neg hv] at hp
      have := chk_kind hp
      omega
  · intro hk h4
    rw [if_neg hk, if_pos h4] at hp
    by_cases hn : nameS h.nm = false
    · rw [if_pos hn] at hp; cases hp
    · exact not_fls hn
  · intro h4 ha
    rw [if_neg (by omega), if_neg (by omega)] at hp
    by_cases hf : aboutS h.o = true ∧ a.fk ≠ 2
    · rw [if_pos hf] at hp; cases hp
    · exact Decidable.byContradiction fun hne => hf ⟨ha, hne⟩
theorem PartOk.kinds {h : Hd} {a : Fo} (hp : PartOk h a) : h.k = 1 ∨ h.k = 2 ∨ h.k = 3 ∨ h.k = 4 ∨ h.k = 5 := by
  have := hp.known
  unfold knownS at this
  simp at this
  omega
theorem PartOk.op {h : Hd} {a : Fo} (hp : PartOk h a) (h4 : h.k = 4) : 1 ≤ h.o ∧ h.o ≤ 39 := by
  have := hp.known
  unfold knownS at this
  simp at this
  omega
theorem PartOk.over {h : Hd} {a : Fo} (hp : PartOk h a) (h5 : h.k = 5) : 1 ≤ h.o ∧ h.o ≤ 6 := by
  have := hp.known
  unfold knownS at this
  simp at this
  omega
theorem PartOk.args {h : Hd} {a : Fo} (hp : PartOk h a) (h4 : h.k = 4) : leastS h.o ≤ a.len ∧ (a.len : Int) ≤ mostS h.o := by
  have := hp.form
  unfold formS leastK mostK at this
  simp [h4] at this
  omega
theorem PartOk.one {h : Hd} {a : Fo} (hp : PartOk h a) (h5 : h.k = 5) : a.len = 1 := by
  have := hp.form
  unfold formS leastK mostK at this
  simp [h5] at this
  omega
/-- The kind of an operation that fits is a kind. -/
theorem res_range (o : Int) (ks : List Int) (h1 : 1 ≤ o) (h2 : o ≤ 39) (hl : leastS o ≤ ks.length) (hk : ∀ k ∈ ks, 2 ≤ k ∧ k ≤ 7) : 2 ≤ (resK o ks).1 ∧ (resK o ks).1 ≤ 7 := by
  have g : ∀ i, i < ks.length → 2 ≤ ks.getD i 0 ∧ ks.getD i 0 ≤ 7 := fun i hi => by
    rw [List.getD_eq_getElem?_getD, List.getElem?_eq_getElem hi]
    exact hk _ (List.getElem_mem hi)
  have hl0 : 0 < ks.length := by
    have : 1 ≤ leastS o := by unfold leastS; repeat' split <;> omega
    omega
  have g0 := g 0 hl0
  by_cases h26 : o = 26
  · subst h26
    exact g 1 (by have : leastS 26 = 3 := rfl; omega)
  have c2 : (2 : Int) ≤ 2 ∧ (2 : Int) ≤ 7 := by decide
  have c3 : (2 : Int) ≤ 3 ∧ (3 : Int) ≤ 7 := by decide
  have c6 : (2 : Int) ≤ 6 ∧ (6 : Int) ≤ 7 := by decide
  have c7 : (2 : Int) ≤ 7 ∧ (7 : Int) ≤ 7 := by decide
  have ho : o = 1 ∨ o = 2 ∨ o = 3 ∨ o = 4 ∨ o = 5 ∨ o = 6 ∨ o = 7 ∨ o = 8 ∨ o = 9 ∨ o = 10 ∨ o = 11 ∨ o = 12 ∨ o = 13 ∨ o = 14 ∨ o = 15 ∨ o = 16 ∨ o = 17 ∨ o = 18 ∨ o = 19 ∨ o = 20 ∨ o = 21 ∨ o = 22 ∨ o = 23 ∨ o = 24 ∨ o = 25 ∨ o = 27 ∨ o = 28 ∨ o = 29 ∨ o = 30 ∨ o = 31 ∨ o = 32 ∨ o = 33 ∨ o = 34 ∨ o = 35 ∨ o = 36 ∨ o = 37 ∨ o = 38 ∨ o = 39 := by omega
  clear g h1 h2 hl hk hl0 h26
  rcases ho with rfl | rfl | rfl | rfl | rfl | rfl | rfl | rfl | rfl | rfl | rfl | rfl | rfl | rfl | rfl | rfl | rfl | rfl | rfl | rfl | rfl | rfl | rfl | rfl | rfl | rfl | rfl | rfl | rfl | rfl | rfl | rfl | rfl | rfl | rfl | rfl | rfl | rfl
  all_goals (first | exact c7 | exact c2 | exact c3 | exact c6 | exact g0)
/-- The kind of an aggregate that fits is a kind. -/
theorem over_range (o k : Int) (_h1 : 1 ≤ o) (_h2 : o ≤ 6) (h : (overK o k).2 = true) : 2 ≤ (overK o k).1 ∧ (overK o k).1 ≤ 7 := by
  unfold overK at h ⊢
  by_cases a1 : o = 1
  · simp [a1]
  by_cases a2 : o = 2
  · simp [a2]
  by_cases a3 : o = 3 ∨ o = 4
  · simp [a1, a2, a3]
  · simp [a1, a2, a3] at h ⊢
    omega
theorem orType_ok {k : Int} (h : (orType k).2 = 0) : (orType k).1 = k ∧ k ≠ 0 := by
  unfold orType at h ⊢
  by_cases hk : k = 0
  · simp [hk] at h
  · rw [if_neg hk]; exact ⟨rfl, hk⟩
/-- What a part's kind is like, if those of its arguments are kinds. -/
theorem part_range {C : List Cl} {L : List Ne} (hC : ∀ c ∈ C, 2 ≤ c.kind ∧ c.kind ≤ 7) {h : Hd} {a : Fo} (hp : PartOk h a) (pl : List ByteArray) (sub : List ByteArray → List Int × Int)
    (hs : ∀ pl, (sub pl).2 = 0 → (sub pl).1.length = a.len ∧ ∀ k ∈ (sub pl).1, 2 ≤ k ∧ k ≤ 7) (h0 : (partK C L h pl sub).2 = 0) : 2 ≤ (partK C L h pl sub).1 ∧ (partK C L h pl sub).1 ≤ 7 := by
  unfold partK at h0 ⊢
  by_cases h1 : h.k = 1
  · rw [if_pos h1]; exact hp.const h1
  rw [if_neg h1] at h0 ⊢
  by_cases h2 : h.k = 2
  · rw [if_pos h2] at h0 ⊢
    cases e : findC C h.nm with
    | none => rw [e] at h0; simp at h0
    | some c =>
      rw [e] at h0
      simp only at h0 ⊢
      by_cases hb : beginsS c.lp pl = true
      · rw [if_pos hb]; exact hC c (findC_some e).1
      · rw [if_neg hb] at h0; simp at h0
  rw [if_neg h2] at h0 ⊢
  by_cases h3 : h.k = 3
  · rw [if_pos h3] at h0 ⊢
    by_cases hb : (pl.any fun x => decide (x = h.nm)) = true
    · rw [if_pos hb]; exact ⟨by decide, by decide⟩
    · rw [if_neg hb] at h0; simp at h0
  rw [if_neg h3] at h0 ⊢
  by_cases h5 : h.k = 5
  · rw [if_pos h5] at h0 ⊢
    cases e : findL L h.nm with
    | none => rw [e] at h0; simp at h0
    | some l =>
      rw [e] at h0
      simp only at h0 ⊢
      by_cases hb : beginsS l.lp pl = true
      · rw [if_pos hb] at h0 ⊢
        by_cases hf : (sub (l.lp ++ [l.nm])).2 ≠ 0
        · rw [if_pos hf] at h0; exact absurd h0 hf
        · rw [if_neg hf] at h0 ⊢
          obtain ⟨e1, e2⟩ := orType_ok h0
          rw [e1]
          have ho := hp.over h5
          unfold overR at e2 ⊢
          by_cases hk : (overK h.o ((sub (l.lp ++ [l.nm])).1.getD 0 0)).2 = true
          · rw [if_pos hk]; exact over_range _ _ ho.1 ho.2 hk
          · rw [if_neg hk] at e2; exact absurd rfl e2
      · rw [if_neg hb] at h0; simp at h0
  rw [if_neg h5] at h0 ⊢
  by_cases hf : (sub pl).2 ≠ 0
  · rw [if_pos hf] at h0; exact absurd h0 hf
  rw [if_neg hf] at h0 ⊢
  obtain ⟨e1, e2⟩ := orType_ok h0
  rw [e1]
  have h4 : h.k = 4 := by have := hp.kinds; omega
  have ho := hp.op h4
  obtain ⟨hl, hk⟩ := hs pl (by simpa using hf)
  have ha := hp.args h4
  unfold kindR at e2 ⊢
  by_cases hk2 : (resK h.o (sub pl).1).2 = true
  · rw [if_pos hk2]; exact res_range _ _ ho.1 ho.2 (by rw [hl]; exact ha.1) hk
  · rw [if_neg hk2] at e2; exact absurd rfl e2
/-- The kinds of a row of expressions that CheckExpr accepts. -/
theorem kinds_ok {C : List Cl} {L : List Ne} (hC : ∀ c ∈ C, 2 ≤ c.kind ∧ c.kind ≤ 7) : ∀ xs : Fo, allS xs = 0 → ∀ pl, (kindsF C L xs pl).2 = 0 → (kindsF C L xs pl).1.length = xs.len ∧ ∀ k ∈ (kindsF C L xs pl).1, 2 ≤ k ∧ k ≤ 7 := by
  intro xs
  induction xs with
  | nil => intro _ pl _; exact ⟨rfl, fun k hk => by simp [kindsF] at hk⟩
  | cons h a r iha ihr =>
    intro h1 pl h0
    obtain ⟨g1, g2⟩ := all_cons h1
    obtain ⟨g3, g4⟩ := one_part g1
    simp only [kindsF] at h0 ⊢
    by_cases hp : (partK C L h pl (kindsF C L a)).2 ≠ 0
    · rw [if_pos hp] at h0; exact absurd h0 hp
    · rw [if_neg hp] at h0 ⊢
      by_cases hr : (kindsF C L r pl).2 ≠ 0
      · rw [if_pos hr] at h0; exact absurd h0 hr
      · rw [if_neg hr]
        obtain ⟨l1, l2⟩ := ihr g2 pl (by simpa using hr)
        refine ⟨by simp [l1, Fo.len], fun k hk => ?_⟩
        rcases List.mem_cons.1 hk with rfl | hk
        · exact part_range hC (part_ok g3) pl _ (iha g4) (by simpa using hp)
        · exact l2 k hk
/-- One expression more. -/
theorem kindsF_drop {C : List Cl} {L : List Ne} {k : Nat} {xs : Fo} {h : Hd} {a : Fo} (pl : List ByteArray) (hk : xs.drop k = .cons h a (xs.drop (k + 1))) :
    kindsF C L (xs.drop k) pl = if (kindS C L h a pl).2 ≠ 0 then ([], (kindS C L h a pl).2) else if (kindsF C L (xs.drop (k + 1)) pl).2 ≠ 0 then ([], (kindsF C L (xs.drop (k + 1)) pl).2) else ((kindS C L h a pl).1 :: (kindsF C L (xs.drop (k + 1)) pl).1, 0) := by
  rw [hk]; rfl
/-- What is known of a row once some of its kinds are. -/
def addK (ks : List Int) (p : List Int × Int) : List Int × Int := if p.2 ≠ 0 then ([], p.2) else (ks ++ p.1, 0)
theorem addK_nil (p : List Int × Int) (h : p.2 ≠ 0 → p.1 = []) : addK [] p = p := by
  unfold addK
  by_cases hp : p.2 ≠ 0
  · rw [if_pos hp, ← h hp]
  · rw [if_neg hp]
    have : p.2 = 0 := by simpa using hp
    rw [List.nil_append, ← this]
theorem kindsF_fault {C : List Cl} {L : List Ne} (xs : Fo) (pl : List ByteArray) (h : (kindsF C L xs pl).2 ≠ 0) : (kindsF C L xs pl).1 = [] := by
  cases xs with
  | nil => simp [kindsF] at h
  | cons a b r =>
    simp only [kindsF] at h ⊢
    by_cases h1 : (partK C L a pl (kindsF C L b)).2 ≠ 0
    · rw [if_pos h1]
    · rw [if_neg h1] at h ⊢
      by_cases h2 : (kindsF C L r pl).2 ≠ 0
      · rw [if_pos h2]
      · rw [if_neg h2] at h; simp at h
theorem addK_step {C : List Cl} {L : List Ne} {k : Nat} {xs : Fo} {h : Hd} {a : Fo} {ks : List Int} (pl : List ByteArray) (hk : xs.drop k = .cons h a (xs.drop (k + 1))) (hq : (kindS C L h a pl).2 = 0) :
    addK ks (kindsF C L (xs.drop k) pl) = addK (ks ++ [(kindS C L h a pl).1]) (kindsF C L (xs.drop (k + 1)) pl) := by
  rw [kindsF_drop pl hk, if_neg (by simpa using hq)]
  unfold addK
  by_cases h2 : (kindsF C L (xs.drop (k + 1)) pl).2 ≠ 0
  · rw [if_pos h2, if_pos h2, if_pos h2]
  · rw [if_neg h2, if_neg h2]
    simp
theorem addK_stop {C : List Cl} {L : List Ne} {k : Nat} {xs : Fo} {h : Hd} {a : Fo} {ks : List Int} (pl : List ByteArray) (hk : xs.drop k = .cons h a (xs.drop (k + 1))) (hq : (kindS C L h a pl).2 ≠ 0) :
    addK ks (kindsF C L (xs.drop k) pl) = ([], (kindS C L h a pl).2) := by
  rw [kindsF_drop pl hk, if_pos hq]
  unfold addK
  rw [if_pos hq]
theorem addK_end {C : List Cl} {L : List Ne} {xs : Fo} {ks : List Int} {k : Nat} (pl : List ByteArray) (hk : k = xs.len) : addK ks (kindsF C L (xs.drop k) pl) = (ks, 0) := by
  rw [Fo.drop_end hk]
  simp [addK, kindsF]
end Go.Proofs.YtngijlmokhkdjaaDoor
