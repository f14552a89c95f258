/-
  Package code: what the codings of a case come to.
-/
import Derived.Test.YthdmodmplpoejaaDoorCdPath
namespace Go.Proofs.YthdmodmplpoejaaDoor
open Go.RowKit Go.WideMaps Go.Maps

/-- How many of the first k have P. -/
def cn (P : Nat → Bool) : Nat → Nat
  | 0 => 0
  | k + 1 => cn P k + if P k = true then 1 else 0
theorem cn_le (P : Nat → Bool) : ∀ k, cn P k ≤ k
  | 0 => Nat.le_refl _
  | k + 1 => by have := cn_le P k; unfold cn; split <;> omega
theorem cn_all {P : Nat → Bool} : ∀ {k}, cn P k = k → ∀ j, j < k → P j = true
  | 0, _, j, hj => by omega
  | k + 1, h, j, hj => by
    unfold cn at h
    have := cn_le P k
    by_cases e : P k = true
    · rw [if_pos e] at h
      by_cases hjk : j = k
      · rw [hjk]; exact e
      · exact cn_all (k := k) (by omega) j (by omega)
    · rw [if_neg e] at h; omega
theorem cn_full {P : Nat → Bool} : ∀ {k}, (∀ j, j < k → P j = true) → cn P k = k
  | 0, _ => rfl
  | k + 1, h => by unfold cn; rw [cn_full fun j hj => h j (by omega), if_pos (h k (by omega))]
theorem cn_pos {P : Nat → Bool} : ∀ {k}, 0 < cn P k → ∃ j, j < k ∧ P j = true
  | 0, h => by simp [cn] at h
  | k + 1, h => by
    by_cases e : P k = true
    · exact ⟨k, by omega, e⟩
    · unfold cn at h
      rw [if_neg e] at h
      obtain ⟨j, hj, hP⟩ := cn_pos (k := k) (by omega)
      exact ⟨j, by omega, hP⟩
theorem cn_apart {P Q : Nat → Bool} : ∀ {k}, (∀ j, j < k → ¬ (P j = true ∧ Q j = true)) → cn P k + cn Q k ≤ k
  | 0, _ => Nat.le_refl _
  | k + 1, h => by
    have := cn_apart (P := P) (Q := Q) (k := k) fun j hj => h j (by omega)
    have hk := h k (by omega)
    unfold cn
    by_cases e : P k = true
    · have : ¬ Q k = true := fun e' => hk ⟨e, e'⟩
      rw [if_pos e, if_neg this]; omega
    · rw [if_neg e]; split <;> omega
theorem cn_meet {P Q : Nat → Bool} {k : Nat} (hP : k < 2 * cn P k) (hQ : k < 2 * cn Q k) : ∃ j, j < k ∧ P j = true ∧ Q j = true := by
  by_cases h : ∃ j, j < k ∧ P j = true ∧ Q j = true
  · exact h
  · have := cn_apart (P := P) (Q := Q) (k := k) fun j hj hb => h ⟨j, hj, hb⟩
    omega
theorem cn_mono {P Q : Nat → Bool} : ∀ {k}, (∀ j, j < k → P j = true → Q j = true) → cn P k ≤ cn Q k
  | 0, _ => Nat.le_refl _
  | k + 1, h => by
    have := cn_mono (P := P) (Q := Q) (k := k) fun j hj => h j (by omega)
    have hk := h k (by omega)
    unfold cn
    by_cases e : P k = true
    · rw [if_pos e, if_pos (hk e)]; omega
    · rw [if_neg e]; split <;> omega
theorem cn_less {P Q : Nat → Bool} : ∀ {k}, (∀ j, j < k → P j = true → Q j = true) → (∃ j, j < k ∧ Q j = true ∧ ¬ P j = true) → cn P k < cn Q k
  | 0, _, ⟨j, hj, _⟩ => by omega
  | k + 1, h, ⟨j, hj, hQ, hP⟩ => by
    have hk := h k (by omega)
    unfold cn
    by_cases e : j = k
    · subst e
      have := cn_mono (P := P) (Q := Q) (k := j) fun i hi => h i (by omega)
      rw [if_neg hP, if_pos hQ]; omega
    · have := cn_less (P := P) (Q := Q) (k := k) (fun i hi => h i (by omega)) ⟨j, by omega, hQ, hP⟩
      by_cases e : P k = true
      · rw [if_pos e, if_pos (hk e)]; omega
      · rw [if_neg e]; split <;> omega
theorem cn_congr {P Q : Nat → Bool} : ∀ {k}, (∀ j, j < k → P j = Q j) → cn P k = cn Q k
  | 0, _ => rfl
  | k + 1, h => by unfold cn; rw [cn_congr (k := k) fun j hj => h j (by omega), h k (by omega)]

section
variable {p lv : Nat → Nat} {H : Nat → Prop}
theorem pth_mem {c n : Nat} {s : Int} : s ∈ pth p c n ↔ ∃ i, i < n ∧ ((it p i c : Nat) : Int) = s := by
  unfold pth
  rw [List.mem_map]
  constructor
  · rintro ⟨i, hi, e⟩; exact ⟨i, List.mem_range.1 hi, e⟩
  · rintro ⟨i, hi, e⟩; exact ⟨i, List.mem_range.2 hi, e⟩
theorem pth_count (T : Tree p lv H) {c : Nat} (hc : In H c) (s : Int) : ∀ {n}, n ≤ lv c → (pth p c n).count s = if s ∈ pth p c n then 1 else 0
  | 0, _ => by simp [pth]
  | n + 1, hn => by
    have ih := pth_count T hc s (n := n) (by omega)
    rw [pth_succ, List.count_append, ih]
    by_cases e : ((it p n c : Nat) : Int) = s
    · have hno : ¬ s ∈ pth p c n := by
        rw [pth_mem]
        rintro ⟨i, hi, e2⟩
        have e3 : it p i c = it p n c := by omega
        have h1 := T.lvIt (k := i) hc
        have h2 := T.lvIt (k := n) hc
        rw [e3] at h1
        omega
      rw [if_neg hno, if_pos (by rw [e]; simp)]
      rw [e]; simp
    · have : s ∈ pth p c n ++ [((it p n c : Nat) : Int)] ↔ s ∈ pth p c n := by
        rw [List.mem_append]
        constructor
        · rintro (h | h)
          · exact h
          · simp at h; exact absurd h.symm e
        · exact fun h => .inl h
      have e0 : List.count s [((it p n c : Nat) : Int)] = 0 := by
        rw [List.count_eq_zero]; simp; exact fun h => e h.symm
      rw [e0]
      simp only [this]
      omega
/-- The codes of the codings; those that they are within. -/
def vP (D : List Cg) (s : Int) (j : Nat) : Bool := decide ((cg D j).cd = s)
def uP (p lv : Nat → Nat) (D : List Cg) (s : Int) (j : Nat) : Bool := decide (s ∈ pth p (cg D j).cd.toNat (lv (cg D j).cd.toNat))
def vN (D : List Cg) (s : Int) : Nat := cn (vP D s) D.length
def uN (p lv : Nat → Nat) (D : List Cg) (s : Int) : Nat := cn (uP p lv D s) D.length
/-- What a case comes to: a code, and the way. -/
def IsFin (p lv : Nat → Nat) (D : List Cg) (c y : Int) : Prop :=
  (y = 1 ∧ vN D c = D.length) ∨
  (y = 2 ∧ vN D c ≠ D.length ∧ D.length < 2 * vN D c) ∨
  (y = 3 ∧ (∀ s, ¬ D.length < 2 * vN D s) ∧ D.length < 2 * uN p lv D c ∧ ∀ s, D.length < 2 * uN p lv D s → lv s.toNat ≤ lv c.toNat) ∨
  (y = 4 ∧ c = 0 ∧ ∀ s, ¬ D.length < 2 * uN p lv D s)
/-- The codings of the case are codes. -/
def HasD (H : Nat → Prop) (D : List Cg) : Prop := ∀ j, j < D.length → ∃ c : Nat, (cg D j).cd = (c : Int) ∧ H c
theorem v_two {D : List Cg} {s t : Int} (hs : D.length < 2 * vN D s) (ht : D.length < 2 * vN D t) : s = t := by
  obtain ⟨j, _, h1, h2⟩ := cn_meet hs ht
  have h1 := of_decide_eq_true h1
  have h2 := of_decide_eq_true h2
  omega
theorem v_u (T : Tree p lv H) {D : List Cg} (hD : HasD H D) (s : Int) : vN D s ≤ uN p lv D s := by
  refine cn_mono fun j hj h => ?_
  have h := of_decide_eq_true h
  obtain ⟨c, e, hc⟩ := hD j hj
  refine decide_eq_true (pth_mem.2 ⟨0, ?_, ?_⟩)
  · rw [e, Int.toNat_natCast]
    have := T.lv0 (c := c) (.inr hc)
    have h0 : c ≠ 0 := (T.pos c hc).1
    omega
  · rw [e, Int.toNat_natCast, ← h, e]; rfl
/-- Two codes that codings have in common are on one path. -/
theorem u_one (T : Tree p lv H) {D : List Cg} (hD : HasD H D) {s t : Int} (hs : D.length < 2 * uN p lv D s) (ht : D.length < 2 * uN p lv D t) :
    ∃ x i j : Nat, In H x ∧ i < lv x ∧ j < lv x ∧ s = ((it p i x : Nat) : Int) ∧ t = ((it p j x : Nat) : Int) := by
  obtain ⟨k, hk, h1, h2⟩ := cn_meet hs ht
  obtain ⟨c, e, hc⟩ := hD k hk
  have h1 := of_decide_eq_true h1
  have h2 := of_decide_eq_true h2
  rw [e, Int.toNat_natCast, pth_mem] at h1 h2
  obtain ⟨i, hi, e1⟩ := h1
  obtain ⟨j, hj, e2⟩ := h2
  exact ⟨c, i, j, .inr hc, hi, hj, e1.symm, e2.symm⟩
theorem u_lv (T : Tree p lv H) {D : List Cg} (hD : HasD H D) {s t : Int} (hs : D.length < 2 * uN p lv D s) (ht : D.length < 2 * uN p lv D t) (e : lv s.toNat = lv t.toNat) : s = t := by
  obtain ⟨x, i, j, hx, hi, hj, rfl, rfl⟩ := u_one T hD hs ht
  rw [Int.toNat_natCast, Int.toNat_natCast, T.lvIt hx, T.lvIt hx] at e
  have : i = j := by omega
  rw [this]
theorem fin_one (T : Tree p lv H) {D : List Cg} (hD : HasD H D) (hn : 0 < D.length) {c y c' y' : Int} (h : IsFin p lv D c y) (h' : IsFin p lv D c' y') : c = c' ∧ y = y' := by
  have big : ∀ {s}, vN D s = D.length → D.length < 2 * vN D s := fun e => by omega
  have vu : ∀ {s}, D.length < 2 * vN D s → D.length < 2 * uN p lv D s := fun {s} e => by have := v_u T hD s; omega
  rcases h with ⟨rfl, h⟩ | ⟨rfl, h, h2⟩ | ⟨rfl, h, h2, h3⟩ | ⟨rfl, rfl, h⟩ <;>
  rcases h' with ⟨rfl, g⟩ | ⟨rfl, g, g2⟩ | ⟨rfl, g, g2, g3⟩ | ⟨rfl, rfl, g⟩
  · exact ⟨v_two (big h) (big g), rfl⟩
  · have := v_two (big h) g2; subst this; exact absurd h g
  · exact absurd (big h) (g _)
  · exact absurd (vu (big h)) (g _)
  · have := v_two h2 (big g); subst this; exact absurd g h
  · exact ⟨v_two h2 g2, rfl⟩
  · exact absurd h2 (g _)
  · exact absurd (vu h2) (g _)
  · exact absurd (big g) (h _)
  · exact absurd g2 (h _)
  · exact ⟨u_lv T hD h2 g2 (by have := h3 _ g2; have := g3 _ h2; omega), rfl⟩
  · exact absurd h2 (g _)
  · exact absurd (vu (big g)) (h _)
  · exact absurd (vu g2) (h _)
  · exact absurd g2 (h _)
  · exact ⟨rfl, rfl⟩
/-- How many nodes a code has below it, itself among them. -/
def cvd (l : List Nd) (s : Int) : Nat := cn (fun j => decide (s ∈ pth (par l) (nd l j).cd.toNat (lev l (nd l j).cd.toNat))) l.length
end
end Go.Proofs.YthdmodmplpoejaaDoor
