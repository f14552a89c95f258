/-
  Package code: the path of a code.
  Package code: majority.
  Package code: what the codings of a case come to.
  Package code: the cases of a list of codings.
-/
import Derived.Test.YtheekfijbbgbkaaGreatDoorTS07
import Derived.Maps.RangeWalk
namespace Go.Proofs.YtheekfijbbgbkaaGreatDoor
open Go.RowKit Go.WideMaps Go.Maps

theorem pth_succ (p : Nat → Nat) (c n : Nat) : pth p c (n + 1) = pth p c n ++ [((it p n c : Nat) : Int)] := by
  unfold pth
  rw [List.range_succ, List.map_append]
  rfl
theorem own_low {w : World} {B B' : Nat} {e : TypeId} {size : Nat} {v : Value} {n : Nat} {xs : List Value} (h : w.ownsRow B e size v n xs) (hb : B' ≤ B) : w.ownsRow B' e size v n xs :=
  ⟨h.1, h.2.imp id (fun ⟨g, cap, cur, e1, e2, e3⟩ => ⟨g, cap, cur, e1, Nat.le_trans hb e2, e3⟩)⟩
def PaP (p : Nat → Nat) (c n : Nat) (w : World) (e : Ending) (w' : World) : Prop :=
  ∃ v, e = .returned v ∧ w'.ownsRow w.heap.size 3 1 v n ((pth p c n).map (Value.int .i64)) ∧ Below w.heap.size w w'
end Go.Proofs.YtheekfijbbgbkaaGreatDoor
namespace Go.Proofs.YtheekfijbbgbkaaGreatDoor
open Go.RowKit Go.WideMaps Go.Maps

/-- c is the lowest code that is counted for more than half of all; 0: there is none. -/
def IsMaj (lv : Nat → Nat) (f : Int → Option Int) (all c : Nat) : Prop :=
  (c = 0 ∨ ∃ x, f (c : Nat) = some x ∧ (all : Int) < 2 * x ∧ 0 < lv c) ∧ ∀ d x, f d = some x → (all : Int) < 2 * x → lv d.toNat ≤ lv c
def MajL (lv : Nat → Nat) (f : Int → Option Int) (all : Nat) (left : Lit → Bool) (c : Nat) : Prop :=
  c < 1000 ∧ (c = 0 ∨ ∃ x, f (c : Nat) = some x ∧ (all : Int) < 2 * x ∧ 0 < lv c) ∧ ∀ d x, f d = some x → (all : Int) < 2 * x → left (.int .i64 d) = false → lv d.toNat ≤ lv c
def MajP (lv : Nat → Nat) (f : Int → Option Int) (all : Nat) (w : World) (e : Ending) (w' : World) : Prop := ∃ c : Nat, c < 1000 ∧ e = .returned (.int .i64 c) ∧ IsMaj lv f all c ∧ Below w.heap.size w w'
theorem same_int (a b : Int) : (Lit.int .i64 a).sameKey (.int .i64 b) = decide (a = b) := by
  unfold Lit.sameKey
  by_cases h : a = b <;> simp [h]
/-- Keys and counts are small. -/
def Small (f : Int → Option Int) : Prop := ∀ s x, f s = some x → (0 ≤ s ∧ s < 1000) ∧ (0 ≤ x ∧ x ≤ 20000)
/-- The step of the loop: one entry more. -/
theorem MajL.miss {lv : Nat → Nat} {f : Int → Option Int} {all : Nat} {left : Lit → Bool} {c : Nat} (h : MajL lv f all left c) {s x : Int} (hs : f s = some x) (hx : (all : Int) < 2 * x → lv s.toNat ≤ lv c) :
    MajL lv f all (fun z => left z && !z.sameKey (.int .i64 s)) c := by
  refine ⟨h.1, h.2.1, fun d y hd hy hl => ?_⟩
  by_cases e : d = s
  · subst e
    rw [hs] at hd
    injection hd with hd
    subst hd
    exact hx hy
  · refine h.2.2 d y hd hy ?_
    simpa only [same_int, e, decide_false, Bool.not_false, Bool.and_true] using hl
theorem MajL.hit {lv : Nat → Nat} {f : Int → Option Int} {all : Nat} {left : Lit → Bool} {c : Nat} (h : MajL lv f all left c) {s x : Int} (h0 : 0 ≤ s) (h9 : s < 1000) (hs : f s = some x) (hx : (all : Int) < 2 * x) (hl : lv c < lv s.toNat) :
    MajL lv f all (fun z => left z && !z.sameKey (.int .i64 s)) s.toNat := by
  have es : ((s.toNat : Nat) : Int) = s := Int.toNat_of_nonneg h0
  refine ⟨by omega, .inr ⟨x, by rw [es]; exact hs, hx, by omega⟩, fun d y hd hy hl' => ?_⟩
  by_cases e : d = s
  · subst e; exact Nat.le_refl _
  · have := h.2.2 d y hd hy (by simpa only [same_int, e, decide_false, Bool.not_false, Bool.and_true] using hl')
    omega
/-- THE STEP over a map from ints, whatever its elements. -/
theorem next_nums {P : Program} {w : World} {ops : Array Oper} {rest : List Oper} {o : Oper} {a : Act} {Q : Exit → Act → World → Prop} (hg : o.guard = none) (it : Operand) (hop : o.op = Op.next it false) (k : TypeId) (K : Keyed P k) (hk : P.underlying k = some (.int .i64)) (b r n : Nat) (D : DataW Value) (left : Lit → Bool) (cnt : Nat)
    (hit : a.eval it = .pointer (some ⟨r, 0, none⟩)) (h : w.ranges P k asIs b r n D left cnt)
    (hDone : cnt = 0 → (∀ kl, left kl = false) → wpList P ops Q rest (a.put o.dst (.tuple #[.bool false])) w)
    (hMore : ∀ (s : Int) (c : Value) (w' : World) (cnt' : Nat), left (.int .i64 s) = true → (∀ zd, D.atKey (.int .i64 s) zd = .held c) → w'.ranges P k asIs b r n D (fun z => left z && !z.sameKey (.int .i64 s)) cnt' → cnt' < cnt →
      w.grownBy w' (some r) → w'.heap.size = w.heap.size → (Instr.entry (.pointer (some ⟨r, 0, none⟩))).run P w' = .ok (.tuple #[.int .i64 s, c]) w' → wpList P ops Q rest (a.put o.dst (.tuple #[.bool true, .int .i64 s, c])) w') :
    wpList P ops Q (o :: rest) a w :=
  wpList_next_ranges w hg it hop k K asIs (fun x : Int => Value.int .i64 x) (fun v : Value => v) (fun key kl h => by obtain ⟨x, e, _⟩ := Maps.keyOf_int_inv hk h; exact ⟨x, e⟩) (fun v y _ => ⟨v, rfl⟩) b r n D left cnt hit h hDone
    (fun s c kl y w' cnt' hkey hlk hy hat hrg hlt hgr hsz hen => by
      obtain ⟨s', e1, rfl, _⟩ := Maps.keyOf_int_inv hk hkey
      injection e1 with _ e1
      subst e1
      simp only [asIs, Option.some.injEq] at hy
      subst hy
      exact hMore s c w' cnt' hlk hat hrg hlt hgr hsz hen)
end Go.Proofs.YtheekfijbbgbkaaGreatDoor
namespace Go.Proofs.YtheekfijbbgbkaaGreatDoor
open Go.RowKit Go.WideMaps Go.Maps

/-- How many of the first k have P. -/
def cn (P : Nat → Bool) : Nat → Nat
  | 0 => 0
  | k + 1 => cn P k + if P k = true then 1 else 0
theorem cn_le (P : Nat → Bool) : ∀ k, cn P k ≤ k
  | 0 => Nat.le_refl _
  | k + 1 => by have := cn_le P k; unfold cn; split <;> omega
theorem cn_all {P : Nat → Bool} : ∀ {k}, cn P k = k → ∀ j, j < k → P j = true
  | 0, _, j, hj => by omega
  | k + 1, h, j, hj => by
    unfold cn at h
    have := cn_le P k
    by_cases e : P k = true
    · rw [if_pos e] at h
      by_cases hjk : j = k
      · rw [hjk]; exact e
      · exact cn_all (k := k) (by omega) j (by omega)
    · rw [if_neg e] at h; omega
theorem cn_full {P : Nat → Bool} : ∀ {k}, (∀ j, j < k → P j = true) → cn P k = k
  | 0, _ => rfl
  | k + 1, h => by unfold cn; rw [cn_full fun j hj => h j (by omega), if_pos (h k (by omega))]
theorem cn_pos {P : Nat → Bool} : ∀ {k}, 0 < cn P k → ∃ j, j < k ∧ P j = true
  | 0, h => by simp [cn] at h
  | k + 1, h => by
    by_cases e : P k = true
    · exact ⟨k, by omega, e⟩
    · unfold cn at h
      rw [if_neg e] at h
      obtain ⟨j, hj, hP⟩ := cn_pos (k := k) (by omega)
      exact ⟨j, by omega, hP⟩
theorem cn_apart {P Q : Nat → Bool} : ∀ {k}, (∀ j, j < k → ¬ (P j = true ∧ Q j = true)) → cn P k + cn Q k ≤ k
  | 0, _ => Nat.le_refl _
  | k + 1, h => by
    have := cn_apart (P := P) (Q := Q) (k := k) fun j hj => h j (by omega)
    have hk := h k (by omega)
    unfold cn
    by_cases e : P k = true
    · have : ¬ Q k = true := fun e' => hk ⟨e, e'⟩
      rw [if_pos e, if_neg this]; omega
    · rw [if_neg e]; split <;> omega
theorem cn_meet {P Q : Nat → Bool} {k : Nat} (hP : k < 2 * cn P k) (hQ : k < 2 * cn Q k) : ∃ j, j < k ∧ P j = true ∧ Q j = true := by
  by_cases h : ∃ j, j < k ∧ P j = true ∧ Q j = true
  · exact h
  · have := cn_apart (P := P) (Q := Q) (k := k) fun j hj hb => h ⟨j, hj, hb⟩
    omega
theorem cn_mono {P Q : Nat → Bool} : ∀ {k}, (∀ j, j < k → P j = true → Q j = true) → cn P k ≤ cn Q k
  | 0, _ => Nat.le_refl _
  | k + 1, h => by
    have := cn_mono (P := P) (Q := Q) (k := k) fun j hj => h j (by omega)
    have hk := h k (by omega)
    unfold cn
    by_cases e : P k = true
    · rw [if_pos e, if_pos (hk e)]; omega
    · rw [if_neg e]; split <;> omega
theorem cn_less {P Q : Nat → Bool} : ∀ {k}, (∀ j, j < k → P j = true → Q j = true) → (∃ j, j < k ∧ Q j = true ∧ ¬ P j = true) → cn P k < cn Q k
  | 0, _, ⟨j, hj, _⟩ => by omega
  | k + 1, h, ⟨j, hj, hQ, hP⟩ => by
    have hk := h k (by omega)
    unfold cn
    by_cases e : j = k
    · subst e
      have := cn_mono (P := P) (Q := Q) (k := j) fun i hi => h i (by omega)
      rw [if_neg hP, if_pos hQ]; omega
    · have := cn_less (P := P) (Q := Q) (k := k) (fun i hi => h i (by omega)) ⟨j, by omega, hQ, hP⟩
      by_cases e : P k = true
      · rw [if_pos e, if_pos (hk e)]; omega
      · rw [if_neg e]; split <;> omega
theorem cn_congr {P Q : Nat → Bool} : ∀ {k}, (∀ j, j < k → P j = Q j) → cn P k = cn Q k
  | 0, _ => rfl
  | k + 1, h => by unfold cn; rw [cn_congr (k := k) fun j hj => h j (by omega), h k (by omega)]

section
variable {p lv : Nat → Nat} {H : Nat → Prop}
theorem pth_mem {c n : Nat} {s : Int} : s ∈ pth p c n ↔ ∃ i, i < n ∧ ((it p i c : Nat) : Int) = s := by
  unfold pth
  rw [List.mem_map]
  constructor
  · rintro ⟨i, hi, e⟩; exact ⟨i, List.mem_range.1 hi, e⟩
  · rintro ⟨i, hi, e⟩; exact ⟨i, List.mem_range.2 hi, e⟩
theorem pth_count (T : Tree p lv H) {c : Nat} (hc : In H c) (s : Int) : ∀ {n}, n ≤ lv c → (pth p c n).count s = if s ∈ pth p c n then 1 else 0
  | 0, _ => by simp [pth]
  | n + 1, hn => by
    have ih := pth_count T hc s (n := n) (by omega)
    rw [pth_succ, List.count_append, ih]
    by_cases e : ((it p n c : Nat) : Int) = s
    · have hno : ¬ s ∈ pth p c n := by
        rw [pth_mem]
        rintro ⟨i, hi, e2⟩
        have e3 : it p i c = it p n c := by omega
        have h1 := T.lvIt (k := i) hc
        have h2 := T.lvIt (k := n) hc
        rw [e3] at h1
        omega
      rw [if_neg hno, if_pos (by rw [e]; simp)]
      rw [e]; simp
    · have : s ∈ pth p c n ++ [((it p n c : Nat) : Int)] ↔ s ∈ pth p c n := by
        rw [List.mem_append]
        constructor
        · rintro (h | h)
          · exact h
          · simp at h; exact absurd h.symm e
        · exact fun h => .inl h
      have e0 : List.count s [((it p n c : Nat) : Int)] = 0 := by
        rw [List.count_eq_zero]; simp; exact fun h => e h.symm
      rw [e0]
      simp only [this]
      omega
/-- The codes of the codings; those that they are within. -/
def vP (D : List Cg) (s : Int) (j : Nat) : Bool := decide ((cg D j).cd = s)
def uP (p lv : Nat → Nat) (D : List Cg) (s : Int) (j : Nat) : Bool := decide (s ∈ pth p (cg D j).cd.toNat (lv (cg D j).cd.toNat))
def vN (D : List Cg) (s : Int) : Nat := cn (vP D s) D.length
def uN (p lv : Nat → Nat) (D : List Cg) (s : Int) : Nat := cn (uP p lv D s) D.length
/-- What a case comes to: a code, and the way. -/
def IsFin (p lv : Nat → Nat) (D : List Cg) (c y : Int) : Prop :=
  (y = 1 ∧ vN D c = D.length) ∨
  (y = 2 ∧ vN D c ≠ D.length ∧ D.length < 2 * vN D c) ∨
  (y = 3 ∧ (∀ s, ¬ D.length < 2 * vN D s) ∧ D.length < 2 * uN p lv D c ∧ ∀ s, D.length < 2 * uN p lv D s → lv s.toNat ≤ lv c.toNat) ∨
  (y = 4 ∧ c = 0 ∧ ∀ s, ¬ D.length < 2 * uN p lv D s)
/-- The codings of the case are codes. -/
def HasD (H : Nat → Prop) (D : List Cg) : Prop := ∀ j, j < D.length → ∃ c : Nat, (cg D j).cd = (c : Int) ∧ H c
theorem v_two {D : List Cg} {s t : Int} (hs : D.length < 2 * vN D s) (ht : D.length < 2 * vN D t) : s = t := by
  obtain ⟨j, _, h1, h2⟩ := cn_meet hs ht
  have h1 := of_decide_eq_true h1
  have h2 := of_decide_eq_true h2
  omega
theorem v_u (T : Tree p lv H) {D : List Cg} (hD : HasD H D) (s : Int) : vN D s ≤ uN p lv D s := by
  refine cn_mono fun j hj h => ?_
  have h := of_decide_eq_true h
  obtain ⟨c, e, hc⟩ := hD j hj
  refine decide_eq_true (pth_mem.2 ⟨0, ?_, ?_⟩)
  · rw [e, Int.toNat_natCast]
    have := T.lv0 (c := c) (.inr hc)
    have h0 : c ≠ 0 := (T.pos c hc).1
    omega
  · rw [e, Int.toNat_natCast, ← h, e]; rfl
/-- Two codes that codings have in common are on one path. -/
theorem u_one (T : Tree p lv H) {D : List Cg} (hD : HasD H D) {s t : Int} (hs : D.length < 2 * uN p lv D s) (ht : D.length < 2 * uN p lv D t) :
    ∃ x i j : Nat, In H x ∧ i < lv x ∧ j < lv x ∧ s = ((it p i x : Nat) : Int) ∧ t = ((it p j x : Nat) : Int) := by
  obtain ⟨k, hk, h1, h2⟩ := cn_meet hs ht
  obtain ⟨c, e, hc⟩ := hD k hk
  have h1 := of_decide_eq_true h1
  have h2 := of_decide_eq_true h2
  rw [e, Int.toNat_natCast, pth_mem] at h1 h2
  obtain ⟨i, hi, e1⟩ := h1
  obtain ⟨j, hj, e2⟩ := h2
  exact ⟨c, i, j, .inr hc, hi, hj, e1.symm, e2.symm⟩
theorem u_lv (T : Tree p lv H) {D : List Cg} (hD : HasD H D) {s t : Int} (hs : D.length < 2 * uN p lv D s) (ht : D.length < 2 * uN p lv D t) (e : lv s.toNat = lv t.toNat) : s = t := by
  obtain ⟨x, i, j, hx, hi, hj, rfl, rfl⟩ := u_one T hD hs ht
  rw [Int.toNat_natCast, Int.toNat_natCast, T.lvIt hx, T.lvIt hx] at e
  have : i = j := by omega
  rw [this]
theorem fin_one (T : Tree p lv H) {D : List Cg} (hD : HasD H D) (hn : 0 < D.length) {c y c' y' : Int} (h : IsFin p lv D c y) (h' : IsFin p lv D c' y') : c = c' ∧ y = y' := by
  have big : ∀ {s}, vN D s = D.length → D.length < 2 * vN D s := fun e => by omega
  have vu : ∀ {s}, D.length < 2 * vN D s → D.length < 2 * uN p lv D s := fun {s} e => by have := v_u T hD s; omega
  rcases h with ⟨rfl, h⟩ | ⟨rfl, h, h2⟩ | ⟨rfl, h, h2, h3⟩ | ⟨rfl, rfl, h⟩ <;>
  rcases h' with ⟨rfl, g⟩ | ⟨rfl, g, g2⟩ | ⟨rfl, g, g2, g3⟩ | ⟨rfl, rfl, g⟩
  · exact ⟨v_two (big h) (big g), rfl⟩
  · have := v_two (big h) g2; subst this; exact absurd h g
  · exact absurd (big h) (g _)
  · exact absurd (vu (big h)) (g _)
  · have := v_two h2 (big g); subst this; exact absurd g h
  · exact ⟨v_two h2 g2, rfl⟩
  · exact absurd h2 (g _)
  · exact absurd (vu h2) (g _)
  · exact absurd (big g) (h _)
  · exact absurd g2 (h _)
  · exact ⟨u_lv T hD h2 g2 (by have := h3 _ g2; have := g3 _ h2; omega), rfl⟩
  · exact absurd h2 (g _)
  · exact absurd (vu (big g)) (h _)
  · exact absurd (vu g2) (h _)
  · exact absurd g2 (h _)
  · exact ⟨rfl, rfl⟩
/-- How many nodes a code has below it, itself among them. -/
def cvd (l : List Nd) (s : Int) : Nat := cn (fun j => decide (s ∈ pth (par l) (nd l j).cd.toNat (lev l (nd l j).cd.toNat))) l.length
end
end Go.Proofs.YtheekfijbbgbkaaGreatDoor
namespace Go.Proofs.YtheekfijbbgbkaaGreatDoor
open Go.RowKit Go.WideMaps Go.Maps

/-- The codings from s on, n of them. -/
def seg (C : List Cg) (s n : Nat) : List Cg := (List.range n).map fun i => cg C (s + i)
theorem seg_len (C : List Cg) (s n : Nat) : (seg C s n).length = n := by unfold seg; simp
theorem seg_at {C : List Cg} {s n i : Nat} (h : i < n) : cg (seg C s n) i = cg C (s + i) := by
  unfold seg
  rw [cg, List.getD, List.getElem?_map, List.getElem?_range h]
  rfl
theorem seg_succ (C : List Cg) (s n : Nat) : seg C s (n + 1) = seg C s n ++ [cg C (s + n)] := by
  unfold seg
  rw [List.range_succ, List.map_append]
  rfl
/-- A case begins at k. -/
def New (C : List Cg) (k : Nat) : Prop := k = 0 ∨ (cg C k).ca ≠ (cg C (k - 1)).ca
instance (C : List Cg) (k : Nat) : Decidable (New C k) := by unfold New; infer_instance
/-- Where the case of coding k begins. -/
def beg (C : List Cg) : Nat → Nat
  | 0 => 0
  | k + 1 => if New C (k + 1) then k + 1 else beg C k
/-- The cases that begin among the first k, all but the last one of them. -/
def cas (C : List Cg) : Nat → List (List Cg)
  | 0 => []
  | k + 1 => if New C (k + 1) then cas C k ++ [seg C (beg C k) (k + 1 - beg C k)] else cas C k
/-- All cases. -/
def cases_ (C : List Cg) : List (List Cg) := if C.length = 0 then [] else cas C (C.length - 1) ++ [seg C (beg C (C.length - 1)) (C.length - beg C (C.length - 1))]
theorem beg_le (C : List Cg) : ∀ k, beg C k ≤ k
  | 0 => Nat.le_refl _
  | k + 1 => by have := beg_le C k; unfold beg; split <;> omega
theorem beg_new {C : List Cg} {k : Nat} (h : New C (k + 1)) : beg C (k + 1) = k + 1 := by unfold beg; rw [if_pos h]
theorem beg_old {C : List Cg} {k : Nat} (h : ¬ New C (k + 1)) : beg C (k + 1) = beg C k := by rw [beg, if_neg h]
theorem cas_new {C : List Cg} {k : Nat} (h : New C (k + 1)) : cas C (k + 1) = cas C k ++ [seg C (beg C k) (k + 1 - beg C k)] := by rw [cas, if_pos h]
theorem cas_old {C : List Cg} {k : Nat} (h : ¬ New C (k + 1)) : cas C (k + 1) = cas C k := by rw [cas, if_neg h]
theorem cas_len (C : List Cg) : ∀ k, (cas C k).length ≤ k
  | 0 => Nat.le_refl _
  | k + 1 => by
    have := cas_len C k
    unfold cas
    split
    · rw [List.length_append]; simp; exact this
    · omega
theorem cases_len (C : List Cg) : (cases_ C).length ≤ C.length := by
  unfold cases_
  split
  · simp
  · have := cas_len C (C.length - 1)
    rw [List.length_append]; simp; omega
/-- Each case has codings, and they are some of C. -/
theorem cas_all (C : List Cg) : ∀ k, k < C.length → ∀ D ∈ cas C k, 0 < D.length ∧ ∃ s, s + D.length ≤ C.length ∧ D = seg C s D.length
  | 0, _, D, h => by simp [cas] at h
  | k + 1, hk, D, h => by
    unfold cas at h
    split at h
    · rw [List.mem_append] at h
      rcases h with h | h
      · exact cas_all C k (by omega) D h
      · simp at h
        have := beg_le C k
        subst h
        rw [seg_len]
        exact ⟨by omega, beg C k, by omega, rfl⟩
    · exact cas_all C k (by omega) D h
theorem cases_all {C : List Cg} {D : List Cg} (h : D ∈ cases_ C) : 0 < D.length ∧ ∃ s, s + D.length ≤ C.length ∧ D = seg C s D.length := by
  unfold cases_ at h
  split at h
  · simp at h
  · have := beg_le C (C.length - 1)
    rw [List.mem_append] at h
    rcases h with h | h
    · exact cas_all C _ (by omega) D h
    · simp at h
      subst h
      rw [seg_len]
      exact ⟨by omega, _, by omega, rfl⟩
def rn (R : List (List Cg)) (j : Nat) : List Cg := R.getD j []
/-- A slice of slices of codings. -/
def RdR (w : World) (a : Option Addr) (R : List (List Cg)) : Prop :=
  ∀ j, j < R.length → ∃ g a' c', a = some ⟨g, 0, none⟩ ∧ g < w.heap.size ∧ w.cell? ⟨g, j, none⟩ = some (.slice a' (rn R j).length c') ∧ RdC w a' (rn R j)
theorem rn_snoc {R : List (List Cg)} {D : List Cg} {j : Nat} (h : j < (R ++ [D]).length) : (j < R.length ∧ rn (R ++ [D]) j = rn R j) ∨ (j = R.length ∧ rn (R ++ [D]) j = D) := by
  unfold rn
  rw [List.length_append] at h
  by_cases e : j < R.length
  · exact .inl ⟨e, by rw [List.getD, List.getD, List.getElem?_append_left e]⟩
  · have : j = R.length := by simp at h; omega
    subst this
    exact .inr ⟨rfl, by rw [List.getD, List.getElem?_append_right (Nat.le_refl _)]; simp⟩
theorem own_slice {w : World} {B : Nat} {e : TypeId} {size : Nat} {v : Value} {n : Nat} {xs : List Value} (h : w.ownsRow B e size v n xs) : ∃ a c, v = .slice a n c := by
  rcases h.2 with ⟨rfl, h0⟩ | ⟨g, cap, cur, rfl, _⟩
  · exact ⟨none, 0, by rw [h0]⟩
  · exact ⟨_, _, rfl⟩
/-- A part of the codings. -/
theorem RdC.part {w : World} {b off : Nat} {C : List Cg} {s n : Nat} (h : RdC w (some ⟨b, off, none⟩) C) (hs : s + n ≤ C.length) : RdC w (some ⟨b, off + s * 3, none⟩) (seg C s n) := by
  refine ⟨by rw [seg_len]; have := h.1; omega, fun h0 => ?_⟩
  rw [seg_len] at h0
  obtain ⟨b', off', e, hl, hc⟩ := h.2 (by omega)
  injection e with e
  injection e with e1 e2
  subst e1; subst e2
  refine ⟨b, off + s * 3, rfl, hl, fun j hj => ?_⟩
  rw [seg_len] at hj
  rw [seg_at hj]
  have := hc (s + j) (by omega)
  rw [show off + s * 3 + j * 3 = off + (s + j) * 3 by omega]
  exact this
end Go.Proofs.YtheekfijbbgbkaaGreatDoor
