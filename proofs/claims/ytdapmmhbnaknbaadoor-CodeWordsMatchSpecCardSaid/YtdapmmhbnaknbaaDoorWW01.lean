/-
  Package code: what CheckFrame and the functions of frames give, of lists and numbers.
  Package code: words.
-/
import Derived.Test.YtdapmmhbnaknbaaDoorRows
import Derived.Shelf.GgClosure.StringsIndexFunc
import Derived.Laws.RangeAny
namespace Go.Proofs.YtdapmmhbnaknbaaDoor

/-- The first error of the first k places. -/
def fe (s : Nat → Int) : Nat → Int
  | 0 => 0
  | k + 1 => if fe s k = 0 then s k else fe s k
theorem fe_next {s : Nat → Int} {k : Nat} (h : fe s k = 0) : fe s (k + 1) = s k := by
  show (if fe s k = 0 then _ else _) = _
  rw [if_pos h]
theorem fe_stays {s : Nat → Int} {k : Nat} (h : fe s k ≠ 0) : ∀ m, fe s (k + m) = fe s k
  | 0 => rfl
  | m + 1 => by
    show (if fe s (k + m) = 0 then _ else fe s (k + m)) = _
    rw [fe_stays h m, if_neg h]
theorem fe_at {s : Nat → Int} {k n : Nat} (hk : k < n) (h0 : fe s k = 0) (h1 : s k ≠ 0) : fe s n = s k := by
  have e := fe_next h0
  have t := fe_stays (s := s) (k := k + 1) (by rw [e]; exact h1) (n - (k + 1))
  rw [show k + 1 + (n - (k + 1)) = n by omega, e] at t
  exact t
theorem fe_zero {s : Nat → Int} : ∀ {n : Nat}, fe s n = 0 → ∀ k, k < n → s k = 0
  | n + 1, h, k, hk => by
    by_cases h0 : fe s n = 0
    · rw [fe_next h0] at h
      by_cases e : k = n
      · rw [e]; exact h
      · exact fe_zero h0 k (by omega)
    · have := fe_stays h0 1
      rw [this] at h
      exact absurd h h0
theorem fe_all {s : Nat → Int} : ∀ {n : Nat}, (∀ k, k < n → s k = 0) → fe s n = 0
  | 0, _ => rfl
  | n + 1, h => by rw [fe_next (fe_all fun k hk => h k (by omega))]; exact h n (by omega)

/-- A node. -/
structure Nd where
  cd : Int
  pr : Int
  ti : ByteArray
def nd0 : Nd := ⟨0, 0, ⟨#[]⟩⟩
def nd (l : List Nd) (j : Nat) : Nd := l.getD j nd0
theorem nd_is {l : List Nd} {j : Nat} (h : j < l.length) : nd l j = l[j] := by unfold nd; rw [List.getD, List.getElem?_eq_getElem h]; rfl
theorem nd_mem {l : List Nd} {j : Nat} (h : j < l.length) : nd l j ∈ l := by rw [nd_is h]; exact List.getElem_mem h
/-- The text is a title. -/
def bts (s : ByteArray) : List UInt8 := s.data.toList
def titS (s : ByteArray) : Bool := (bts s).all (fun c => decide (32 ≤ c.toNat ∧ c.toNat ≤ 126)) && (decide (bts s ≠ []) && (decide ((bts s).head? ≠ some 32) && decide ((bts s).getLast? ≠ some 32)))
/-- The error of node k. -/
def ndE (l : List Nd) (k : Nat) : Int :=
  if (nd l k).cd < 1 ∨ 999 < (nd l k).cd then 1 else if k ≠ 0 ∧ (nd l k).cd ≤ (nd l (k - 1)).cd then 7
  else if 60 < (nd l k).ti.size then 2 else if titS (nd l k).ti = false then 3 else 0
/-- The place of the first node of the first k with a code. -/
def knw (l : List Nd) (c : Int) : Nat → Bool
  | 0 => decide (c = 0)
  | k + 1 => knw l c k || decide ((nd l k).cd = c)
theorem knw_iff {l : List Nd} {c : Int} : ∀ {k : Nat}, knw l c k = true ↔ c = 0 ∨ ∃ j, j < k ∧ (nd l j).cd = c
  | 0 => by simp [knw]
  | k + 1 => by
    unfold knw
    rw [Bool.or_eq_true, knw_iff]
    constructor
    · rintro ((h | ⟨j, h1, h2⟩) | h)
      · exact Or.inl h
      · exact Or.inr ⟨j, by omega, h2⟩
      · exact Or.inr ⟨k, by omega, by simpa using h⟩
    · rintro (h | ⟨j, h1, h2⟩)
      · exact Or.inl (Or.inl h)
      · by_cases e : j = k
        · right; subst e; simpa using h2
        · exact Or.inl (Or.inr ⟨j, by omega, h2⟩)
def prE (l : List Nd) (k : Nat) : Int := if knw l (nd l k).pr l.length = false then 5 else 0
/-- The code of the node above that of a code, of the first k nodes; 0 if there is none. -/
def parK (l : List Nd) (c : Nat) : Nat → Nat
  | 0 => 0
  | k + 1 => if (nd l k).cd = (c : Int) then (nd l k).pr.toNat else parK l c k
def par (l : List Nd) (c : Nat) : Nat := parK l c l.length
/-- How many steps lead up from a code, at most so many. -/
def clm (p : Nat → Nat) : Nat → Nat → Nat
  | 0, _ => 0
  | f + 1, c => if c = 0 then 0 else clm p f (p c) + 1
def lvl (l : List Nd) (k : Nat) : Nat := clm (par l) (l.length + 1) (nd l k).cd.toNat
/-- The error of CheckFrame. -/
def frS (l : List Nd) : Int :=
  if l.length = 0 then 9 else if 600 < l.length then 2
  else if fe (ndE l) l.length ≠ 0 then fe (ndE l) l.length
  else if fe (prE l) l.length ≠ 0 then 5
  else if ∃ k, k < l.length ∧ l.length < lvl l k then 18
  else if ∃ k, k < l.length ∧ 8 < lvl l k then 2 else 0

/-- What stands k steps above. -/
def it (p : Nat → Nat) : Nat → Nat → Nat
  | 0, c => c
  | k + 1, c => it p k (p c)
theorem it_add {p : Nat → Nat} : ∀ {i k c : Nat}, it p (i + k) c = it p k (it p i c)
  | 0, k, c => by rw [Nat.zero_add]; rfl
  | i + 1, k, c => by rw [show i + 1 + k = (i + k) + 1 by omega]; show it p (i + k) (p c) = _; rw [it_add]; rfl
theorem it_succ {p : Nat → Nat} {k c : Nat} : it p (k + 1) c = p (it p k c) := it_add (i := k) (k := 1)
theorem it_zero {p : Nat → Nat} (h0 : p 0 = 0) : ∀ {k : Nat}, it p k 0 = 0
  | 0 => rfl
  | k + 1 => by show it p k (p 0) = 0; rw [h0]; exact it_zero h0
theorem it_stays {p : Nat → Nat} (h0 : p 0 = 0) {i k c : Nat} (h : it p i c = 0) (hk : i ≤ k) : it p k c = 0 := by
  rw [show k = i + (k - i) by omega, it_add, h]; exact it_zero h0
theorem clm_le {p : Nat → Nat} : ∀ {f c : Nat}, clm p f c ≤ f
  | 0, _ => Nat.le_refl _
  | f + 1, c => by
    unfold clm
    split
    · omega
    · have := clm_le (p := p) (f := f) (c := p c); omega
theorem clm_it {p : Nat → Nat} : ∀ {f c : Nat}, clm p f c < f → it p (clm p f c) c = 0
  | 0, _, h => absurd h (Nat.not_lt_zero _)
  | f + 1, c, h => by
    unfold clm at h ⊢
    by_cases e : c = 0
    · rw [if_pos e]; exact e
    · rw [if_neg e] at h ⊢
      exact clm_it (by omega)
theorem clm_ne {p : Nat → Nat} : ∀ {f c i : Nat}, i < clm p f c → it p i c ≠ 0
  | 0, _, _, h => absurd h (Nat.not_lt_zero _)
  | f + 1, c, i, h => by
    unfold clm at h
    by_cases e : c = 0
    · rw [if_pos e] at h; omega
    · rw [if_neg e] at h
      match i with
      | 0 => exact e
      | i + 1 => exact clm_ne (f := f) (c := p c) (by omega)
theorem clm_eq {p : Nat → Nat} {f g c : Nat} (h : clm p f c < f) (hg : clm p f c < g) : clm p g c = clm p f c := by
  have a := clm_it h
  have b1 : ¬ clm p f c < clm p g c := fun hh => clm_ne hh a
  by_cases e : clm p g c = clm p f c
  · exact e
  · have hlt : clm p g c < clm p f c := by omega
    exact absurd (clm_it (by omega)) (clm_ne hlt)
theorem clm_full {p : Nat → Nat} (h0 : p 0 = 0) {f c : Nat} : f < clm p (f + 1) c ↔ it p f c ≠ 0 := by
  constructor
  · intro h; exact clm_ne h
  · intro h
    by_cases hlt : clm p (f + 1) c < f + 1
    · exact absurd (it_stays h0 (clm_it hlt) (by omega)) h
    · omega

/-- Of more numbers than a list has elements, two are equal. -/
theorem pigeon (g : Nat → Nat) : ∀ (S : List Nat), (∀ i, i ≤ S.length → g i ∈ S) → ∃ i j, i < j ∧ j ≤ S.length ∧ g i = g j
  | S, h => by
    by_cases hex : ∃ i, i < S.length ∧ g i = g S.length
    · obtain ⟨i, hi, e⟩ := hex
      exact ⟨i, S.length, hi, Nat.le_refl _, e⟩
    · have hm := h S.length (Nat.le_refl _)
      have hlen := List.length_erase_of_mem hm
      have hpos : 0 < S.length := List.length_pos_of_mem hm
      obtain ⟨i, j, h1, h2, h3⟩ := pigeon g (S.erase (g S.length)) fun i hi => by
        have hlt : i < S.length := by omega
        exact (List.mem_erase_of_ne fun e => hex ⟨i, hlt, e⟩).2 (h i (by omega))
      exact ⟨i, j, h1, by omega, h3⟩
termination_by S => S.length
decreasing_by
  rw [hlen]; omega
theorem it_round {p : Nat → Nat} (h0 : p 0 = 0) {c i j : Nat} (hij : i < j) (he : it p i c = it p j c) (hne : it p i c ≠ 0) (k : Nat) : it p k c ≠ 0 := by
  intro hz
  have hd : ∀ t, it p (i + t * (j - i)) c = it p i c := by
    intro t
    induction t with
    | zero => simp
    | succ t ih =>
      rw [Nat.succ_mul, ← Nat.add_assoc, it_add, ih, ← it_add, show i + (j - i) = j by omega, he]
  apply hne
  rw [← hd k]
  have h1 : k ≤ k * (j - i) := Nat.le_mul_of_pos_right k (by omega)
  exact it_stays h0 hz (by omega)

/-- A tree of codes: p is the code above, lv the level. -/
structure Tree (p lv : Nat → Nat) (H : Nat → Prop) : Prop where
  zero : lv 0 = 0
  top : p 0 = 0
  pos : ∀ c, H c → c ≠ 0 ∧ lv c = lv (p c) + 1 ∧ (p c = 0 ∨ H (p c))
/-- A code of the tree, or 0. -/
def In (H : Nat → Prop) (c : Nat) : Prop := c = 0 ∨ H c
theorem Tree.inP {p lv : Nat → Nat} {H : Nat → Prop} (T : Tree p lv H) {c : Nat} (h : In H c) : In H (p c) := by
  rcases h with rfl | h
  · rw [T.top]; exact Or.inl rfl
  · exact (T.pos c h).2.2
theorem Tree.inIt {p lv : Nat → Nat} {H : Nat → Prop} (T : Tree p lv H) : ∀ {k c : Nat}, In H c → In H (it p k c)
  | 0, _, h => h
  | k + 1, _, h => T.inIt (k := k) (T.inP h)
theorem Tree.lvP {p lv : Nat → Nat} {H : Nat → Prop} (T : Tree p lv H) {c : Nat} (h : In H c) : lv (p c) = lv c - 1 := by
  rcases h with rfl | h
  · rw [T.top, T.zero]
  · have := (T.pos c h).2.1; omega
theorem Tree.lvIt {p lv : Nat → Nat} {H : Nat → Prop} (T : Tree p lv H) : ∀ {k c : Nat}, In H c → lv (it p k c) = lv c - k
  | 0, _, _ => rfl
  | k + 1, c, h => by
    show lv (it p k (p c)) = _
    rw [T.lvIt (k := k) (T.inP h), T.lvP h]; omega
theorem Tree.lv0 {p lv : Nat → Nat} {H : Nat → Prop} (T : Tree p lv H) {c : Nat} (h : In H c) : lv c = 0 ↔ c = 0 := by
  constructor
  · intro e
    rcases h with h | h
    · exact h
    · have := (T.pos c h).2.1; omega
  · rintro rfl; exact T.zero
/-- m is b, or above it. -/
def anc (p lv : Nat → Nat) (a m : Nat) : Prop := ∃ k, k ≤ lv a ∧ it p k a = m
theorem anc_refl {p lv : Nat → Nat} (a : Nat) : anc p lv a a := ⟨0, Nat.zero_le _, rfl⟩
theorem Tree.ancLv {p lv : Nat → Nat} {H : Nat → Prop} (T : Tree p lv H) {a m : Nat} (h : In H a) (ha : anc p lv a m) : it p (lv a - lv m) a = m ∧ lv m ≤ lv a := by
  obtain ⟨k, hk, rfl⟩ := ha
  rw [T.lvIt h]
  exact ⟨by congr 1; omega, by omega⟩
theorem Tree.ancTrans {p lv : Nat → Nat} {H : Nat → Prop} (T : Tree p lv H) {a b c : Nat} (h : In H a) (h1 : anc p lv a b) (h2 : anc p lv b c) : anc p lv a c := by
  obtain ⟨i, hi, rfl⟩ := h1
  obtain ⟨k, hk, rfl⟩ := h2
  rw [T.lvIt h] at hk
  exact ⟨i + k, by omega, it_add⟩
/-- m is the lowest code that is, or is above, both; d is the number of the steps. -/
def MeetIs (p lv : Nat → Nat) (a b m d : Nat) : Prop :=
  anc p lv a m ∧ anc p lv b m ∧ d + 2 * lv m = lv a + lv b ∧ ∀ x, anc p lv a x → anc p lv b x → lv x ≤ lv m
theorem Tree.meetOne {p lv : Nat → Nat} {H : Nat → Prop} (T : Tree p lv H) {a b m d m' d' : Nat} (h : In H a) (h1 : MeetIs p lv a b m d) (h2 : MeetIs p lv a b m' d') : m = m' ∧ d = d' := by
  obtain ⟨x1, x2, x3, x4⟩ := h1
  obtain ⟨y1, y2, y3, y4⟩ := h2
  have e : lv m = lv m' := Nat.le_antisymm (y4 m x1 x2) (x4 m' y1 y2)
  have e1 := (T.ancLv h x1).1
  have e2 := (T.ancLv h y1).1
  rw [e] at e1
  exact ⟨e1.symm.trans e2, by omega⟩
theorem MeetIs.symm {p lv : Nat → Nat} {a b m d : Nat} (h : MeetIs p lv a b m d) : MeetIs p lv b a m d :=
  ⟨h.2.1, h.1, by have := h.2.2.1; omega, fun x h1 h2 => h.2.2.2 x h2 h1⟩
theorem Tree.meetZero {p lv : Nat → Nat} {H : Nat → Prop} (T : Tree p lv H) {a b m d : Nat} (ha : In H a) (hb : In H b) (h : MeetIs p lv a b m d) : d = 0 ↔ a = b := by
  obtain ⟨h1, h2, h3, h4⟩ := h
  have l1 := T.ancLv ha h1
  have l2 := T.ancLv hb h2
  constructor
  · intro e
    have e1 : lv a - lv m = 0 := by omega
    have e2 : lv b - lv m = 0 := by omega
    rw [e1] at l1; rw [e2] at l2
    exact l1.1.trans l2.1.symm
  · rintro rfl
    have := h4 a (anc_refl a) (anc_refl a)
    omega
theorem Tree.meetTri {p lv : Nat → Nat} {H : Nat → Prop} (T : Tree p lv H) {a b c m1 d1 m2 d2 m3 d3 : Nat} (ha : In H a) (hb : In H b) (hc : In H c)
    (h1 : MeetIs p lv a b m1 d1) (h2 : MeetIs p lv b c m2 d2) (h3 : MeetIs p lv a c m3 d3) : d3 ≤ d1 + d2 := by
  obtain ⟨x1, x2, x3, x4⟩ := h1
  obtain ⟨y1, y2, y3, y4⟩ := h2
  obtain ⟨z1, z2, z3, z4⟩ := h3
  have l1 := T.ancLv hb x2
  have l2 := T.ancLv hb y1
  by_cases e : lv m1 ≤ lv m2
  · have e9 : it p (lv m2 - lv m1) (it p (lv b - lv m2) b) = m1 := by
      rw [← it_add, show lv b - lv m2 + (lv m2 - lv m1) = lv b - lv m1 by omega]; exact l1.1
    rw [l2.1] at e9
    have : anc p lv m2 m1 := ⟨lv m2 - lv m1, by omega, e9⟩
    have := z4 m1 x1 (T.ancTrans hc y2 this)
    omega
  · have e9 : it p (lv m1 - lv m2) (it p (lv b - lv m1) b) = m2 := by
      rw [← it_add, show lv b - lv m1 + (lv m1 - lv m2) = lv b - lv m2 by omega]; exact l2.1
    rw [l1.1] at e9
    have : anc p lv m1 m2 := ⟨lv m1 - lv m2, by omega, e9⟩
    have := z4 m2 (T.ancTrans ha x1 this) y2
    omega
/-- How two ways up meet: always the lower one goes on. -/
def mtF (p lv : Nat → Nat) : Nat → Nat → Nat → Nat × Nat
  | 0, a, _ => (a, 0)
  | f + 1, a, b => if a = b then (a, 0) else if lv a < lv b then ((mtF p lv f (p b) a).1, (mtF p lv f (p b) a).2 + 1) else ((mtF p lv f (p a) b).1, (mtF p lv f (p a) b).2 + 1)
theorem Tree.meetUp {p lv : Nat → Nat} {H : Nat → Prop} (T : Tree p lv H) {a b m d : Nat} (ha : In H a) (hb : In H b) (hne : a ≠ b) (hl : lv b ≤ lv a) (h : MeetIs p lv (p a) b m d) : MeetIs p lv a b m (d + 1) := by
  obtain ⟨h1, h2, h3, h4⟩ := h
  have hp := T.lvP ha
  have h0 : lv a ≠ 0 := fun e => hne (((T.lv0 ha).1 e).trans ((T.lv0 hb).1 (by omega)).symm)
  obtain ⟨k, hk, e⟩ := h1
  refine ⟨⟨k + 1, by omega, e⟩, h2, by omega, fun x hx hy => ?_⟩
  obtain ⟨j, hj, rfl⟩ := hx
  match j with
  | 0 =>
    exfalso
    have := (T.ancLv hb hy)
    have e : lv b = lv a := by have := this.2; change lv a ≤ lv b at this; omega
    have e2 := this.1
    change it p (lv b - lv a) b = a at e2
    rw [e, Nat.sub_self] at e2
    exact hne e2.symm
  | j + 1 => exact h4 _ ⟨j, by omega, rfl⟩ hy
theorem Tree.mtF_is {p lv : Nat → Nat} {H : Nat → Prop} (T : Tree p lv H) : ∀ {f a b : Nat}, In H a → In H b → lv a + lv b ≤ f → MeetIs p lv a b (mtF p lv f a b).1 (mtF p lv f a b).2
  | 0, a, b, ha, hb, hf => by
    have e1 := (T.lv0 ha).1 (by omega)
    have e2 := (T.lv0 hb).1 (by omega)
    subst e1; subst e2
    exact ⟨anc_refl 0, anc_refl 0, by show 0 + 2 * lv 0 = _; omega, fun x hx _ => (T.ancLv ha hx).2⟩
  | f + 1, a, b, ha, hb, hf => by
    by_cases e : a = b
    · subst e
      unfold mtF
      simp only [if_true]
      exact ⟨anc_refl a, anc_refl a, by omega, fun x hx _ => (T.ancLv ha hx).2⟩
    · by_cases hlt : lv a < lv b
      · have h0 := T.lvP hb
        have := T.mtF_is (f := f) (T.inP hb) ha (by omega)
        unfold mtF
        rw [if_neg e, if_pos hlt]
        exact (T.meetUp hb ha (fun h => e h.symm) (by omega) this).symm
      · have h0 := T.lvP ha
        have h1 : lv a ≠ 0 := fun e1 => e (((T.lv0 ha).1 e1).trans ((T.lv0 hb).1 (by omega)).symm)
        have := T.mtF_is (f := f) (T.inP ha) hb (by omega)
        unfold mtF
        rw [if_neg e, if_neg hlt]
        exact T.meetUp ha hb e (by omega) this

/-- The level of a code, of the first k nodes; 0 if there is none. -/
def lvK (l : List Nd) (c : Nat) : Nat → Nat
  | 0 => 0
  | k + 1 => if (nd l k).cd = (c : Int) then lvl l k else lvK l c k
def lev (l : List Nd) (c : Nat) : Nat := lvK l c l.length
/-- A code of the frame. -/
def Has (l : List Nd) (c : Nat) : Prop := ∃ k, k < l.length ∧ (nd l k).cd = (c : Int)
/-- The nodes are sound by themselves. -/
structure Ord (l : List Nd) : Prop where
  rng : ∀ k, k < l.length → 1 ≤ (nd l k).cd ∧ (nd l k).cd ≤ 999
  inc : ∀ k, k + 1 < l.length → (nd l k).cd < (nd l (k + 1)).cd
theorem Ord.lt {l : List Nd} (h : Ord l) {i : Nat} : ∀ {j : Nat}, i < j → j < l.length → (nd l i).cd < (nd l j).cd
  | j + 1, hij, hj => by
    by_cases e : i = j
    · subst e; exact h.inc i hj
    · have := h.lt (i := i) (j := j) (by omega) (by omega); have := h.inc j hj; omega
theorem Ord.inj {l : List Nd} (h : Ord l) {i j : Nat} (hi : i < l.length) (hj : j < l.length) (e : (nd l i).cd = (nd l j).cd) : i = j := by
  by_cases h1 : i < j
  · have := h.lt h1 hj; omega
  · by_cases h2 : j < i
    · have := h.lt h2 hi; omega
    · omega
theorem ord_of {l : List Nd} (h : fe (ndE l) l.length = 0) : Ord l := by
  have hz := fe_zero h
  constructor
  · intro k hk
    have := hz k hk
    unfold ndE at this
    by_cases e : (nd l k).cd < 1 ∨ 999 < (nd l k).cd
    · rw [if_pos e] at this; simp at this
    · omega
  · intro k hk
    have := hz (k + 1) hk
    unfold ndE at this
    by_cases e : (nd l (k + 1)).cd < 1 ∨ 999 < (nd l (k + 1)).cd
    · rw [if_pos e] at this; simp at this
    · rw [if_neg e] at this
      by_cases e2 : k + 1 ≠ 0 ∧ (nd l (k + 1)).cd ≤ (nd l (k + 1 - 1)).cd
      · rw [if_pos e2] at this; simp at this
      · simp at e2; omega
theorem at_K {α : Type} (f : Nat → α) (l : List Nd) (g : Nat → α) (h0 : Ord l) {c : Nat} (hg : ∀ k, g (k + 1) = if (nd l k).cd = (c : Int) then f k else g k) {j : Nat} (hc : (nd l j).cd = (c : Int)) : ∀ {n : Nat}, n ≤ l.length → j < n → g n = f j
  | n + 1, hn, hj => by
    rw [hg]
    by_cases e : (nd l n).cd = (c : Int)
    · rw [if_pos e]
      rw [h0.inj (i := j) (j := n) (by omega) (by omega) (hc.trans e.symm)]
    · rw [if_neg e]
      have : j ≠ n := fun e2 => e (by rw [← e2]; exact hc)
      exact at_K f l g h0 hg hc (by omega) (by omega)
theorem no_K {α : Type} (f : Nat → α) (l : List Nd) (g : Nat → α) {c : Nat} (hg : ∀ k, g (k + 1) = if (nd l k).cd = (c : Int) then f k else g k) : ∀ {n : Nat}, (∀ j, j < n → (nd l j).cd ≠ (c : Int)) → g n = g 0
  | 0, _ => rfl
  | n + 1, h => by
    rw [hg, if_neg (h n (by omega))]
    exact no_K f l g hg fun j hj => h j (by omega)
theorem par_at {l : List Nd} (h : Ord l) {c j : Nat} (hj : j < l.length) (hc : (nd l j).cd = (c : Int)) : par l c = (nd l j).pr.toNat :=
  at_K (fun k => (nd l k).pr.toNat) l (parK l c) h (fun _ => rfl) hc (Nat.le_refl _) hj
theorem par_no {l : List Nd} {c : Nat} (h : ¬ Has l c) : par l c = 0 :=
  no_K (fun k => (nd l k).pr.toNat) l (parK l c) (fun _ => rfl) fun j hj e => h ⟨j, hj, e⟩
theorem lev_at {l : List Nd} (h : Ord l) {c j : Nat} (hj : j < l.length) (hc : (nd l j).cd = (c : Int)) : lev l c = lvl l j :=
  at_K (fun k => lvl l k) l (lvK l c) h (fun _ => rfl) hc (Nat.le_refl _) hj
theorem lev_no {l : List Nd} {c : Nat} (h : ¬ Has l c) : lev l c = 0 :=
  no_K (fun k => lvl l k) l (lvK l c) (fun _ => rfl) fun j hj e => h ⟨j, hj, e⟩
/-- The parents are known. -/
def Kn (l : List Nd) : Prop := ∀ k, k < l.length → (nd l k).pr = 0 ∨ ∃ j, j < l.length ∧ (nd l j).cd = (nd l k).pr
theorem kn_of {l : List Nd} (h : fe (prE l) l.length = 0) : Kn l := fun k hk => by
  have := fe_zero h k hk
  unfold prE at this
  by_cases e : knw l (nd l k).pr l.length = false
  · rw [if_pos e] at this; simp at this
  · exact knw_iff.1 (by simpa using e)
theorem has_pos {l : List Nd} (h : Ord l) {c : Nat} (hc : Has l c) : 1 ≤ c ∧ c ≤ 999 := by
  obtain ⟨k, hk, e⟩ := hc
  have := h.rng k hk
  omega
theorem par_in {l : List Nd} (h : Ord l) (hk : Kn l) {c : Nat} : par l c = 0 ∨ Has l (par l c) := by
  by_cases hc : Has l c
  · obtain ⟨j, hj, e⟩ := hc
    rw [par_at h hj e]
    rcases hk j hj with e2 | ⟨i, hi, e2⟩
    · left; rw [e2]; rfl
    · right
      have := h.rng i hi
      exact ⟨i, hi, by omega⟩
  · left; exact par_no hc
theorem par_top {l : List Nd} (h : Ord l) : par l 0 = 0 := par_no fun hc => by have := has_pos h hc; omega
/-- A sound frame. -/
structure Fr (l : List Nd) : Prop where
  ne : 0 < l.length
  le : l.length ≤ 600
  ord : Ord l
  kn : Kn l
  tit : ∀ k, k < l.length → (nd l k).ti.size ≤ 60 ∧ titS (nd l k).ti = true
  lv : ∀ k, k < l.length → lvl l k ≤ l.length ∧ lvl l k ≤ 8
theorem fr_of {l : List Nd} (h : frS l = 0) : Fr l := by
  unfold frS at h
  by_cases h1 : l.length = 0
  · rw [if_pos h1] at h; simp at h
  rw [if_neg h1] at h
  by_cases h2 : 600 < l.length
  · rw [if_pos h2] at h; simp at h
  rw [if_neg h2] at h
  by_cases h3 : fe (ndE l) l.length ≠ 0
  · rw [if_pos h3] at h; exact absurd h h3
  rw [if_neg h3] at h
  by_cases h4 : fe (prE l) l.length ≠ 0
  · rw [if_pos h4] at h; simp at h
  rw [if_neg h4] at h
  by_cases h5 : ∃ k, k < l.length ∧ l.length < lvl l k
  · rw [if_pos h5] at h; simp at h
  rw [if_neg h5] at h
  by_cases h6 : ∃ k, k < l.length ∧ 8 < lvl l k
  · rw [if_pos h6] at h; simp at h
  have h3' : fe (ndE l) l.length = 0 := by omega
  have h4' : fe (prE l) l.length = 0 := by omega
  refine ⟨by omega, by omega, ord_of h3', kn_of h4', fun k hk => ?_, fun k hk => ?_⟩
  · have := fe_zero h3' k hk
    unfold ndE at this
    by_cases e1 : (nd l k).cd < 1 ∨ 999 < (nd l k).cd
    · rw [if_pos e1] at this; simp at this
    rw [if_neg e1] at this
    by_cases e2 : k ≠ 0 ∧ (nd l k).cd ≤ (nd l (k - 1)).cd
    · rw [if_pos e2] at this; simp at this
    rw [if_neg e2] at this
    by_cases e3 : 60 < (nd l k).ti.size
    · rw [if_pos e3] at this; simp at this
    rw [if_neg e3] at this
    by_cases e4 : titS (nd l k).ti = false
    · rw [if_pos e4] at this; simp at this
    exact ⟨by omega, by simpa using e4⟩
  · constructor
    · by_cases e : lvl l k ≤ l.length
      · exact e
      · exact absurd ⟨k, hk, by omega⟩ h5
    · by_cases e : lvl l k ≤ 8
      · exact e
      · exact absurd ⟨k, hk, by omega⟩ h6
theorem Fr.lev {l : List Nd} (h : Fr l) {c : Nat} (hc : Has l c) : lev l c = clm (par l) (l.length + 1) c ∧ 1 ≤ lev l c ∧ lev l c ≤ 8 ∧ lev l c ≤ l.length := by
  obtain ⟨k, hk, e⟩ := hc
  have e1 := lev_at h.ord hk e
  have e2 : lvl l k = clm (par l) (l.length + 1) c := by unfold lvl; rw [e]; rfl
  have e3 := h.lv k hk
  have e4 := h.ord.rng k hk
  refine ⟨e1.trans e2, ?_, by omega, by omega⟩
  rw [e1, e2]
  unfold clm
  rw [if_neg (by omega)]
  omega
theorem Fr.tree {l : List Nd} (h : Fr l) : Tree (par l) (Go.Proofs.YtdapmmhbnaknbaaDoor.lev l) (Has l) := by
  refine ⟨lev_no fun hc => ?_, par_top h.ord, fun c hc => ?_⟩
  · have := has_pos h.ord hc; omega
  · have h1 := has_pos h.ord hc
    have h2 := h.lev hc
    have hp := par_in h.ord h.kn (c := c)
    refine ⟨by omega, ?_, hp⟩
    have e : clm (par l) (l.length + 1) c = clm (par l) l.length (par l c) + 1 := by
      rw [clm, if_neg (by omega)]
    rw [h2.1, e]
    rcases hp with h0 | hh
    · rw [h0]
      have z : Go.Proofs.YtdapmmhbnaknbaaDoor.lev l 0 = 0 := lev_no fun hc => by have := has_pos h.ord hc; omega
      rw [z]
      have : clm (par l) l.length 0 = 0 := by
        match l.length with
        | 0 => rfl
        | n + 1 => rw [clm, if_pos rfl]
      rw [this]
    · have h3 := h.lev hh
      rw [h3.1, clm_eq (f := l.length) (g := l.length + 1) (by omega) (by omega)]
end Go.Proofs.YtdapmmhbnaknbaaDoor
namespace Go.Proofs.YtdapmmhbnaknbaaDoor

/-- A byte (a rune) of a word. -/
def wdB (b : Nat) : Bool := (decide (97 ≤ b) && decide (b ≤ 122)) || (decide (48 ≤ b) && decide (b ≤ 57))
def wdS (l : List UInt8) : Bool := l.all fun b => wdB b.toNat
def isW (l : List UInt8) : Bool := decide (l ≠ []) && (decide (l.length ≤ 30) && wdS l)
theorem wdB_hi {n : Nat} (h : 128 ≤ n) : wdB n = false := by
  unfold wdB
  rw [decide_eq_false (p := n ≤ 122) (by omega), decide_eq_false (p := n ≤ 57) (by omega)]; simp
theorem at_ba (s : ByteArray) (i : Nat) (h : i < s.size) : s.data.toList[i]? = some (s[i]'h) := by
  have h2 : i < s.data.toList.length := by rw [← Lib.size_eq]; exact h
  rw [List.getElem?_eq_getElem h2]
  congr 1
theorem idx_word (s : ByteArray) : ∀ (f pos : Nat), s.size ≤ pos + f → (0 ≤ Lib.idxFuncFrom (fun r => !wdB r) true s f pos ↔ ∃ j, ∃ h : j < s.size, pos ≤ j ∧ wdB (s[j]'h).toNat = false)
  | 0, pos, h => by
    constructor
    · intro h1; exact absurd h1 (by show ¬ (0 : Int) ≤ -1; omega)
    · rintro ⟨j, hj, hp, _⟩; omega
  | f + 1, pos, h => by
    unfold Lib.idxFuncFrom
    by_cases hp : pos < s.size
    · rw [if_pos hp]
      by_cases ha : (s[pos]'hp).toNat < 128
      · rw [decode_ascii s pos hp ha]
        cases hw : wdB (s[pos]'hp).toNat with
        | false =>
          simp only [hw, Bool.not_false, if_true]
          exact ⟨fun _ => ⟨pos, hp, Nat.le_refl _, hw⟩, fun _ => by omega⟩
        | true =>
          simp only [hw, Bool.not_true, Bool.false_eq_true, if_false]
          rw [idx_word s f (pos + 1) (by omega)]
          constructor
          · rintro ⟨j, hj, h1, h2⟩; exact ⟨j, hj, by omega, h2⟩
          · rintro ⟨j, hj, h1, h2⟩
            by_cases e : j = pos
            · subst e; rw [hw] at h2; cases h2
            · exact ⟨j, hj, by omega, h2⟩
      · have hd := (decode_high s pos hp (by omega)).1
        rw [if_pos (by rw [wdB_hi hd]; rfl)]
        exact ⟨fun _ => ⟨pos, hp, Nat.le_refl _, wdB_hi (by omega)⟩, fun _ => by omega⟩
    · rw [if_neg hp]
      constructor
      · intro h1; exact absurd h1 (by omega)
      · rintro ⟨j, hj, h1, _⟩; omega
theorem word_is (s : ByteArray) : decide (0 ≤ Lib.idxFunc (fun r => !wdB r) true s) = !wdS s.data.toList := by
  have h := idx_word s s.size 0 (by omega)
  have e : (∃ j, ∃ h : j < s.size, 0 ≤ j ∧ wdB (s[j]'h).toNat = false) ↔ wdS s.data.toList = false := by
    unfold wdS
    rw [List.all_eq_false]
    constructor
    · rintro ⟨j, hj, _, h⟩
      exact ⟨s[j]'hj, List.mem_of_getElem? (at_ba s j hj), by rw [h]; simp⟩
    · rintro ⟨b, hb, h⟩
      obtain ⟨j, hj, e⟩ := List.getElem_of_mem hb
      have hj2 : j < s.size := by rw [Lib.size_eq]; exact hj
      have e2 := at_ba s j hj2
      rw [List.getElem?_eq_getElem hj, e] at e2
      exact ⟨j, hj2, Nat.zero_le _, by rw [← Option.some.inj e2]; simpa using h⟩
  rw [show Lib.idxFunc (fun r => !wdB r) true s = Lib.idxFuncFrom (fun r => !wdB r) true s s.size 0 from rfl]
  cases hw : wdS s.data.toList with
  | false => rw [hw] at e; exact decide_eq_true (h.2 (e.2 rfl))
  | true => rw [hw] at e; exact decide_eq_false (fun h1 => absurd (e.1 (h.1 h1)) (by simp))

/-- Bytes in lower case; a byte of a row. -/
def lowB (b : UInt8) : UInt8 := if 65 ≤ b.toNat ∧ b.toNat ≤ 90 then b + 32 else b
def rowB (b : UInt8) : Bool := wdB (lowB b).toNat
/-- The rows of a text behind a row w that has begun. -/
def rowsF : List UInt8 → List UInt8 → List (List UInt8)
  | [], w => if w = [] then [] else [w]
  | b :: l, w => if rowB b = true then rowsF l (w ++ [lowB b]) else (if w = [] then [] else [w]) ++ rowsF l []
/-- An ending. -/
structure En where
  fr : ByteArray
  to : ByteArray
def stmF : List En → List UInt8 → List UInt8
  | [], w => w
  | e :: l, w => if e.fr.data.toList <:+ w ∧ e.fr.data.toList.length + 3 ≤ w.length then w.take (w.length - e.fr.data.toList.length) ++ e.to.data.toList else stmF l w
def stpF (S : List ByteArray) (E : List En) (out : List (List UInt8)) (r : List UInt8) : List (List UInt8) :=
  if r.take 30 ∈ S.map (·.data.toList) then out else if stmF E (r.take 30) ∈ out then out else out ++ [stmF E (r.take 30)]
def wrdF (S : List ByteArray) (E : List En) (out : List (List UInt8)) (rows : List (List UInt8)) : List (List UInt8) := rows.foldl (stpF S E) out
theorem stp_pre (S : List ByteArray) (E : List En) (out : List (List UInt8)) (r : List UInt8) : out <+: stpF S E out r := by
  unfold stpF
  split
  · exact List.prefix_refl _
  · split
    · exact List.prefix_refl _
    · exact List.prefix_append _ _
theorem wrd_pre (S : List ByteArray) (E : List En) : ∀ (rows out : List (List UInt8)), out <+: wrdF S E out rows
  | [], out => List.prefix_refl _
  | r :: l, out => (stp_pre S E out r).trans (wrd_pre S E l (stpF S E out r))
/-- Once there are sixty words, the others do not count. -/
theorem wrd_full {S : List ByteArray} {E : List En} {rows out : List (List UInt8)} (h : out.length = 60) : (wrdF S E out rows).take 60 = out := by
  obtain ⟨t, e⟩ := wrd_pre S E rows out
  rw [← e, List.take_append_of_le_length (by omega), List.take_of_length_le (by omega)]
end Go.Proofs.YtdapmmhbnaknbaaDoor
