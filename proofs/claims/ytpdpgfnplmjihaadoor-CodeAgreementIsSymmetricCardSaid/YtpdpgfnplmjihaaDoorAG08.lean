/-
  Package code: majority.
  Package code: final.
  CodeAgreementIsSymmetric: pairs of codes, and what is counted of them.
  CodeAgreementIsSymmetric: the code that a coder gave to a case.
-/
import Derived.Test.YtpdpgfnplmjihaaDoorAG07
import Derived.Maps.RangeWalk
import Derived.Test.YtpdpgfnplmjihaaDoorShelf
import Derived.Test.YtpdpgfnplmjihaaDoorAG03
namespace Go.Proofs.YtpdpgfnplmjihaaDoor
open Go.RowKit Go.WideMaps Go.Maps

/-- c is the lowest code that is counted for more than half of all; 0: there is none. -/
def IsMaj (lv : Nat → Nat) (f : Int → Option Int) (all c : Nat) : Prop :=
  (c = 0 ∨ ∃ x, f (c : Nat) = some x ∧ (all : Int) < 2 * x ∧ 0 < lv c) ∧ ∀ d x, f d = some x → (all : Int) < 2 * x → lv d.toNat ≤ lv c
def MajL (lv : Nat → Nat) (f : Int → Option Int) (all : Nat) (left : Lit → Bool) (c : Nat) : Prop :=
  c < 1000 ∧ (c = 0 ∨ ∃ x, f (c : Nat) = some x ∧ (all : Int) < 2 * x ∧ 0 < lv c) ∧ ∀ d x, f d = some x → (all : Int) < 2 * x → left (.int .i64 d) = false → lv d.toNat ≤ lv c
def MajP (lv : Nat → Nat) (f : Int → Option Int) (all : Nat) (w : World) (e : Ending) (w' : World) : Prop := ∃ c : Nat, c < 1000 ∧ e = .returned (.int .i64 c) ∧ IsMaj lv f all c ∧ Below w.heap.size w w'
theorem same_int (a b : Int) : (Lit.int .i64 a).sameKey (.int .i64 b) = decide (a = b) := by
  unfold Lit.sameKey
  by_cases h : a = b <;> simp [h]
/-- Keys and counts are small. -/
def Small (f : Int → Option Int) : Prop := ∀ s x, f s = some x → (0 ≤ s ∧ s < 1000) ∧ (0 ≤ x ∧ x ≤ 20000)
/-- The step of the loop: one entry more. -/
theorem MajL.miss {lv : Nat → Nat} {f : Int → Option Int} {all : Nat} {left : Lit → Bool} {c : Nat} (h : MajL lv f all left c) {s x : Int} (hs : f s = some x) (hx : (all : Int) < 2 * x → lv s.toNat ≤ lv c) :
    MajL lv f all (fun z => left z && !z.sameKey (.int .i64 s)) c := by
  refine ⟨h.1, h.2.1, fun d y hd hy hl => ?_⟩
  by_cases e : d = s
  · subst e
    rw [hs] at hd
    injection hd with hd
    subst hd
    exact hx hy
  · refine h.2.2 d y hd hy ?_
    simpa only [same_int, e, decide_false, Bool.not_false, Bool.and_true] using hl
theorem MajL.hit {lv : Nat → Nat} {f : Int → Option Int} {all : Nat} {left : Lit → Bool} {c : Nat} (h : MajL lv f all left c) {s x : Int} (h0 : 0 ≤ s) (h9 : s < 1000) (hs : f s = some x) (hx : (all : Int) < 2 * x) (hl : lv c < lv s.toNat) :
    MajL lv f all (fun z => left z && !z.sameKey (.int .i64 s)) s.toNat := by
  have es : ((s.toNat : Nat) : Int) = s := Int.toNat_of_nonneg h0
  refine ⟨by omega, .inr ⟨x, by rw [es]; exact hs, hx, by omega⟩, fun d y hd hy hl' => ?_⟩
  by_cases e : d = s
  · subst e; exact Nat.le_refl _
  · have := h.2.2 d y hd hy (by simpa only [same_int, e, decide_false, Bool.not_false, Bool.and_true] using hl')
    omega
/-- THE STEP over a map from ints, whatever its elements. -/
theorem next_nums {P : Program} {w : World} {ops : Array Oper} {rest : List Oper} {o : Oper} {a : Act} {Q : Exit → Act → World → Prop} (hg : o.guard = none) (it : Operand) (hop : o.op = Op.next it false) (k : TypeId) (K : Keyed P k) (hk : P.underlying k = some (.int .i64)) (b r n : Nat) (D : DataW Value) (left : Lit → Bool) (cnt : Nat)
    (hit : a.eval it = .pointer (some ⟨r, 0, none⟩)) (h : w.ranges P k asIs b r n D left cnt)
    (hDone : cnt = 0 → (∀ kl, left kl = false) → wpList P ops Q rest (a.put o.dst (.tuple #[.bool false])) w)
    (hMore : ∀ (s : Int) (c : Value) (w' : World) (cnt' : Nat), left (.int .i64 s) = true → (∀ zd, D.atKey (.int .i64 s) zd = .held c) → w'.ranges P k asIs b r n D (fun z => left z && !z.sameKey (.int .i64 s)) cnt' → cnt' < cnt →
      w.grownBy w' (some r) → w'.heap.size = w.heap.size → (Instr.entry (.pointer (some ⟨r, 0, none⟩))).run P w' = .ok (.tuple #[.int .i64 s, c]) w' → wpList P ops Q rest (a.put o.dst (.tuple #[.bool true, .int .i64 s, c])) w') :
    wpList P ops Q (o :: rest) a w :=
  wpList_next_ranges w hg it hop k K asIs (fun x : Int => Value.int .i64 x) (fun v : Value => v) (fun key kl h => by obtain ⟨x, e, _⟩ := Maps.keyOf_int_inv hk h; exact ⟨x, e⟩) (fun v y _ => ⟨v, rfl⟩) b r n D left cnt hit h hDone
    (fun s c kl y w' cnt' hkey hlk hy hat hrg hlt hgr hsz hen => by
      obtain ⟨s', e1, rfl, _⟩ := Maps.keyOf_int_inv hk hkey
      injection e1 with _ e1
      subst e1
      simp only [asIs, Option.some.injEq] at hy
      subst hy
      exact hMore s c w' cnt' hlk hat hrg hlt hgr hsz hen)
end Go.Proofs.YtpdpgfnplmjihaaDoor
namespace Go.Proofs.YtpdpgfnplmjihaaDoor
open Go.RowKit Go.WideMaps Go.Maps

/-- Block b counts: g says how often. -/
def ctF (g : Int → Nat) : Int → Option Int := fun s => if g s = 0 then none else some (g s : Int)
def CtIs (w : World) (b n : Nat) (g : Int → Nat) : Prop := NuIs w b n (ctF g)
theorem CtIs.look {w : World} {b n : Nat} {g : Int → Nat} (h : CtIs w b n g) {s : Int} (hs : in64 s) :
    (Instr.lookup 41 (.map (some b)) (.int .i64 s) false).run Tryd.prog w = .ok (.int .i64 (g s : Nat)) w := by
  rw [NuIs.look h hs]
  unfold ctF
  by_cases e : g s = 0
  · rw [if_pos e, e]; rfl
  · rw [if_neg e]; rfl
theorem CtIs.store {w : World} {b n : Nat} {g : Int → Nat} (h : CtIs w b n g) (hn : n < maxLen) {s : Int} (hs : in64 s) :
    ∃ w', (Instr.mapUpdate 41 (.map (some b)) (.int .i64 s) (.int .i64 ((g s : Int) + 1))).run Tryd.prog w = .ok () w' ∧ CtIs w' b (n + 1) (fun x => if x = s then g s + 1 else g x) ∧ w.grownBy w' (some b) := by
  obtain ⟨w', h1, h2, h3⟩ := NuIs.store h hn hs ((g s : Int) + 1)
  refine ⟨w', h1, MapIs.congr h2 fun x => ?_, h3⟩
  unfold ctF
  by_cases e : x = s
  · subst e; simp
  · simp [e]
theorem CtIs.congr {w : World} {b n : Nat} {g g' : Int → Nat} (h : CtIs w b n g) (e : ∀ s, g s = g' s) : CtIs w b n g' := by
  have : g = g' := funext e
  rw [← this]; exact h
/-- Two maps of counts, behind the world W1. -/
structure InF (W1 wr : World) (b1 b2 n : Nat) (g1 g2 : Int → Nat) : Prop where
  c1 : CtIs wr b1 n g1
  c2 : CtIs wr b2 n g2
  bel : Below W1.heap.size W1 wr
  lo : W1.heap.size ≤ b1
  lt : b1 < b2
  le : b2 < wr.heap.size
theorem InF.keep {W1 wr W : World} {b1 b2 n : Nat} {g1 g2 : Int → Nat} (h : InF W1 wr b1 b2 n g1 g2) (hb : Below wr.heap.size wr W) : InF W1 W b1 b2 n g1 g2 :=
  ⟨MapIs.below h.c1 hb (MapIs.lt h.c1), MapIs.below h.c2 hb (MapIs.lt h.c2), h.bel.trans (hb.mono h.bel.size), h.lo, h.lt, Nat.lt_of_lt_of_le h.le hb.size⟩
theorem InF.more {W1 wr : World} {b1 b2 n m : Nat} {g1 g2 : Int → Nat} (h : InF W1 wr b1 b2 n g1 g2) (hm : n ≤ m) : InF W1 wr b1 b2 m g1 g2 := { h with c1 := NuIs.more h.c1 hm, c2 := NuIs.more h.c2 hm }
theorem InF.congr {W1 wr : World} {b1 b2 n : Nat} {g1 g2 g1' g2' : Int → Nat} (h : InF W1 wr b1 b2 n g1 g2) (e1 : ∀ s, g1 s = g1' s) (e2 : ∀ s, g2 s = g2' s) : InF W1 wr b1 b2 n g1' g2' := { h with c1 := h.c1.congr e1, c2 := h.c2.congr e2 }
theorem InF.store1 {W1 wr : World} {b1 b2 n : Nat} {g1 g2 : Int → Nat} (h : InF W1 wr b1 b2 n g1 g2) (hn : n < maxLen) {s : Int} (hs : in64 s) :
    ∃ W, (Instr.mapUpdate 41 (.map (some b1)) (.int .i64 s) (.int .i64 ((g1 s : Int) + 1))).run Tryd.prog wr = .ok () W ∧ InF W1 W b1 b2 (n + 1) (fun x => if x = s then g1 s + 1 else g1 x) g2 ∧ wr.grownBy W (some b1) := by
  obtain ⟨W, e, h2, h3⟩ := h.c1.store hn hs
  have lo := h.lo
  have lt := h.lt
  exact ⟨W, e, ⟨h2, NuIs.more (MapIs.kept h.c2 h3 (by intro e; injection e with e; omega)) (Nat.le_succ _), h.bel.grown h3 h.bel.size (fun j hj => by cases hj; omega), h.lo, h.lt, Nat.lt_of_lt_of_le h.le h3.size⟩, h3⟩
theorem InF.store2 {W1 wr : World} {b1 b2 n : Nat} {g1 g2 : Int → Nat} (h : InF W1 wr b1 b2 n g1 g2) (hn : n < maxLen) {s : Int} (hs : in64 s) :
    ∃ W, (Instr.mapUpdate 41 (.map (some b2)) (.int .i64 s) (.int .i64 ((g2 s : Int) + 1))).run Tryd.prog wr = .ok () W ∧ InF W1 W b1 b2 (n + 1) g1 (fun x => if x = s then g2 s + 1 else g2 x) ∧ wr.grownBy W (some b2) := by
  obtain ⟨W, e, h2, h3⟩ := h.c2.store hn hs
  have lo := h.lo
  have lt := h.lt
  exact ⟨W, e, ⟨NuIs.more (MapIs.kept h.c1 h3 (by intro e; injection e with e; omega)) (Nat.le_succ _), h2, h.bel.grown h3 h.bel.size (fun j hj => by cases hj; omega), h.lo, h.lt, Nat.lt_of_lt_of_le h.le h3.size⟩, h3⟩
theorem InF.made (W1 : World) : InF W1 ((W1.alloc (.map #[] 0)).alloc (.map #[] 0)) W1.heap.size (W1.heap.size + 1) 0 (fun _ => 0) (fun _ => 0) := by
  have e1 : (W1.alloc (.map #[] 0)).heap.size = W1.heap.size + 1 := by simp
  refine ⟨?_, ?_, ?_, Nat.le_refl _, Nat.lt_succ_self _, by simp⟩
  · exact MapIs.below ((MapIs.made W1).congr fun s => rfl) (Cqbel_one _ _) (by simp)
  · have := MapIs.made (W1.alloc (.map #[] 0))
    rw [e1] at this
    exact this.congr fun s => rfl
  · exact (Cqbel_one _ _).trans ((Cqbel_one _ _).mono (by simp))
/-- The counts of the first k codings. -/
def gV (D : List Cg) (k : Nat) (s : Int) : Nat := cn (vP D s) k
def gU (p lv : Nat → Nat) (D : List Cg) (k : Nat) (s : Int) : Nat := cn (uP p lv D s) k
theorem gV_next {D : List Cg} {k : Nat} (s : Int) : (if s = (cg D k).cd then gV D k (cg D k).cd + 1 else gV D k s) = gV D (k + 1) s := by
  unfold gV
  by_cases e : s = (cg D k).cd
  · subst e
    rw [if_pos rfl, cn, if_pos (by unfold vP; exact decide_eq_true rfl)]
  · rw [if_neg e, cn, if_neg (by unfold vP; exact fun h => e (of_decide_eq_true h).symm), Nat.add_zero]
/-- .. and of a part of the path of coding k. -/
def gJ (p lv : Nat → Nat) (D : List Cg) (k c j : Nat) (s : Int) : Nat := gU p lv D k s + (pth p c j).count s
theorem gJ_next {p lv : Nat → Nat} {D : List Cg} {k c j : Nat} {x : Int} (hx : x = ((it p j c : Nat) : Int)) (s : Int) : (if s = x then gJ p lv D k c j x + 1 else gJ p lv D k c j s) = gJ p lv D k c (j + 1) s := by
  unfold gJ
  rw [pth_succ, List.count_append, ← hx]
  by_cases e : s = x
  · subst e; simp [Nat.add_assoc]
  · rw [if_neg e]
    have : List.count s [x] = 0 := by rw [List.count_eq_zero]; simp; exact e
    rw [this]
    omega
theorem gJ_end {p lv : Nat → Nat} {H : Nat → Prop} (T : Tree p lv H) {D : List Cg} {k c : Nat} (hc : In H c) (e : (cg D k).cd = (c : Int)) (s : Int) : gJ p lv D k c (lv c) s = gU p lv D (k + 1) s := by
  unfold gJ gU
  rw [pth_count T hc s (Nat.le_refl _), cn]
  unfold uP
  rw [e, Int.toNat_natCast]
  by_cases h : s ∈ pth p c (lv c) <;> simp [h]
def FiP (p lv : Nat → Nat) (D : List Cg) (w : World) (e : Ending) (w' : World) : Prop := ∃ c y : Int, e = .returned (.tuple #[.int .i64 c, .int .i64 y]) ∧ IsFin p lv D c y ∧ in64 c ∧ Below w.heap.size w w'
theorem small_V {H : Nat → Prop} {D : List Cg} (hD : HasD H D) (h9 : ∀ c, H c → c ≤ 999) (hn : D.length ≤ 20000) : Small (ctF (gV D D.length)) := by
  intro s x h
  unfold ctF at h
  split at h
  · cases h
  · injection h with h
    have hle := cn_le (vP D s) D.length
    obtain ⟨j, hj, hP⟩ := cn_pos (P := vP D s) (k := D.length) (by unfold gV at *; omega)
    have hP := of_decide_eq_true hP
    obtain ⟨c, e, hc⟩ := hD j hj
    have := h9 c hc
    unfold gV at h
    omega
theorem small_U {p lv : Nat → Nat} {H : Nat → Prop} (T : Tree p lv H) {D : List Cg} (hD : HasD H D) (h9 : ∀ c, H c → c ≤ 999) (hn : D.length ≤ 20000) : Small (ctF (gU p lv D D.length)) := by
  intro s x h
  unfold ctF at h
  split at h
  · cases h
  · injection h with h
    have hle := cn_le (uP p lv D s) D.length
    obtain ⟨j, hj, hP⟩ := cn_pos (P := uP p lv D s) (k := D.length) (by unfold gU at *; omega)
    have hP := of_decide_eq_true hP
    obtain ⟨c, e, hc⟩ := hD j hj
    rw [e, Int.toNat_natCast, pth_mem] at hP
    obtain ⟨i, hi, e2⟩ := hP
    have : In H (it p i c) := T.inIt (.inr hc)
    have : it p i c ≤ 999 := by
      rcases this with h | h
      · omega
      · exact h9 _ h
    unfold gU at h
    omega
/-- What the Cqtwo majorities say. -/
theorem fin_maj {p lv : Nat → Nat} {H : Nat → Prop} (T : Tree p lv H) {D : List Cg} (hD : HasD H D) (hn : 0 < D.length) (h1 : vN D (cg D 0).cd ≠ D.length) {c : Nat} (h : IsMaj lv (ctF (gV D D.length)) D.length c) :
    (c ≠ 0 → IsFin p lv D c 2) ∧ (c = 0 → (∀ s, ¬ D.length < 2 * vN D s)) := by
  have all : ∀ s, vN D s ≠ D.length := fun s e => by
    have := of_decide_eq_true (cn_all e 0 hn)
    rw [this] at h1
    exact h1 e
  refine ⟨fun hc => ?_, fun hc s hs => ?_⟩
  · rcases h.1 with h0 | ⟨x, hx, h2, _⟩
    · exact absurd h0 hc
    · refine .inr (.inl ⟨rfl, all _, ?_⟩)
      unfold ctF at hx
      split at hx
      · cases hx
      · injection hx with hx
        have : vN D (c : Int) = gV D D.length c := rfl
        omega
  · have e : vN D s = gV D D.length s := rfl
    have h0 : gV D D.length s ≠ 0 := by omega
    have := h.2 s (gV D D.length s) (by unfold ctF; rw [if_neg h0]) (by omega)
    rw [hc, T.zero] at this
    obtain ⟨j, hj, hP⟩ := cn_pos (P := vP D s) (k := D.length) (by unfold gV at h0; omega)
    have hP := of_decide_eq_true hP
    obtain ⟨d, e, hd⟩ := hD j hj
    have e3 : s.toNat = d := by omega
    rw [e3] at this
    have := (T.pos d hd).2.1
    omega
theorem fin_abv {p lv : Nat → Nat} {H : Nat → Prop} (T : Tree p lv H) {D : List Cg} (hD : HasD H D) (h1 : ∀ s, ¬ D.length < 2 * vN D s) {c : Nat} (h : IsMaj lv (ctF (gU p lv D D.length)) D.length c) :
    (c ≠ 0 → IsFin p lv D c 3) ∧ (c = 0 → IsFin p lv D 0 4) := by
  have up : ∀ s, D.length < 2 * uN p lv D s → lv s.toNat ≤ lv c := fun s hs => by
    have e : uN p lv D s = gU p lv D D.length s := rfl
    have h0 : gU p lv D D.length s ≠ 0 := by omega
    exact h.2 s (gU p lv D D.length s) (by unfold ctF; rw [if_neg h0]) (by omega)
  refine ⟨fun hc => ?_, fun hc => .inr (.inr (.inr ⟨rfl, rfl, fun s hs => ?_⟩))⟩
  · rcases h.1 with h0 | ⟨x, hx, h2, _⟩
    · exact absurd h0 hc
    · refine .inr (.inr (.inl ⟨rfl, h1, ?_, up⟩))
      unfold ctF at hx
      split at hx
      · cases hx
      · injection hx with hx
        have : uN p lv D (c : Int) = gU p lv D D.length c := rfl
        omega
  · have := up s hs
    rw [hc, T.zero] at this
    obtain ⟨j, hj, hP⟩ := cn_pos (P := uP p lv D s) (k := D.length) (by unfold uN at hs; omega)
    have hP := of_decide_eq_true hP
    obtain ⟨d, e, hd⟩ := hD j hj
    rw [e, Int.toNat_natCast, pth_mem] at hP
    obtain ⟨i, hi, e2⟩ := hP
    have e3 : s.toNat = it p i d := by omega
    rw [e3, T.lvIt (.inr hd)] at this
    omega
end Go.Proofs.YtpdpgfnplmjihaaDoor
namespace Go.Proofs.YtpdpgfnplmjihaaDoor

/-- The code that coder x gave to a case; 0: none. -/
def byC (D : List Cg) (x : Int) : Int := ((D.find? fun u => u.co == x).map Cg.cd).getD 0
/-- The pair of a case. -/
def prOf (a b : Int) (D : List Cg) : Option (Int × Int) := if byC D a ≠ 0 ∧ byC D b ≠ 0 then some (byC D a, byC D b) else none
def prs (a b : Int) (R : List (List Cg)) : List (Int × Int) := R.filterMap (prOf a b)
theorem prOf_swap (a b : Int) (D : List Cg) : prOf b a D = (prOf a b D).map Prod.swap := by
  unfold prOf
  by_cases h : byC D a ≠ 0 ∧ byC D b ≠ 0
  · rw [if_pos h, if_pos h.symm]; rfl
  · rw [if_neg h, if_neg (fun k => h k.symm)]; rfl
theorem prs_swap (a b : Int) (R : List (List Cg)) : prs b a R = (prs a b R).map Prod.swap := by
  induction R with
  | nil => rfl
  | cons D R ih =>
    unfold prs at *
    rw [List.filterMap_cons, List.filterMap_cons, prOf_swap a b D]
    cases prOf a b D with
    | none => exact ih
    | some p => simp only [Option.map_some, List.map_cons, ih]
theorem prs_same (a : Int) (R : List (List Cg)) : ∀ p ∈ prs a a R, p.1 = p.2 := by
  intro p hp
  obtain ⟨D, _, h⟩ := List.mem_filterMap.1 hp
  unfold prOf at h
  split at h
  · injection h with h; rw [← h]
  · cases h
def nF (P : List (Int × Int)) (s : Int) : Nat := P.countP fun p => p.1 == s
def nS (P : List (Int × Int)) (s : Int) : Nat := P.countP fun p => p.2 == s
def nE (P : List (Int × Int)) : Nat := P.countP fun p => p.1 == p.2
def sumN (f : Nat → Nat) : Nat → Nat
  | 0 => 0
  | k + 1 => sumN f k + f k
theorem sumN_congr {f g : Nat → Nat} : ∀ {k : Nat}, (∀ j, j < k → f j = g j) → sumN f k = sumN g k
  | 0, _ => rfl
  | k + 1, h => by
    unfold sumN
    rw [sumN_congr (k := k) fun j hj => h j (by omega), h k (by omega)]
theorem sumN_add (f g : Nat → Nat) : ∀ k, sumN (fun s => f s + g s) k = sumN f k + sumN g k
  | 0 => rfl
  | k + 1 => by unfold sumN; rw [sumN_add f g k]; omega
theorem sumN_mono {f g : Nat → Nat} : ∀ {k : Nat}, (∀ j, j < k → f j ≤ g j) → sumN f k ≤ sumN g k
  | 0, _ => Nat.le_refl _
  | k + 1, h => by
    unfold sumN
    have := sumN_mono (k := k) fun j hj => h j (by omega)
    have := h k (by omega)
    omega
theorem sumN_mul (f : Nat → Nat) (c : Nat) : ∀ k, sumN (fun s => f s * c) k = sumN f k * c
  | 0 => by unfold sumN; simp
  | k + 1 => by unfold sumN; rw [sumN_mul f c k, Nat.add_mul]
theorem sumN_zero {f : Nat → Nat} : ∀ {k : Nat}, (∀ j, j < k → f j = 0) → sumN f k = 0
  | 0, _ => rfl
  | k + 1, h => by
    unfold sumN
    rw [sumN_zero (k := k) fun j hj => h j (by omega), h k (by omega)]
/-- One of the terms grows. -/
theorem sumN_at {f g : Nat → Nat} {i d : Nat} : ∀ {k : Nat}, i < k → (∀ j, j ≠ i → g j = f j) → g i = f i + d → sumN g k = sumN f k + d
  | k + 1, hi, h, e => by
    unfold sumN
    by_cases hk : i = k
    · subst hk
      rw [sumN_congr (f := g) (g := f) fun j hj => h j (by omega), e]
      omega
    · rw [sumN_at (k := k) (by omega) h e, h k (by omega)]
      omega
theorem sumN_one (x : Int) : ∀ k, sumN (fun s => if x == (s : Int) then 1 else 0) k ≤ 1
  | 0 => by unfold sumN; omega
  | k + 1 => by
    unfold sumN
    by_cases e : x = (k : Int)
    · have h0 : sumN (fun s => if x == (s : Int) then 1 else 0) k = 0 := sumN_zero fun j hj => by
        have : (x == (j : Int)) = false := by rw [beq_eq_false_iff_ne]; omega
        rw [this]; rfl
      rw [h0]
      split <;> omega
    · have h1 : (x == (k : Int)) = false := by rw [beq_eq_false_iff_ne]; exact e
      rw [h1]
      have := sumN_one x k
      simpa using this
theorem nF_all (P : List (Int × Int)) : sumN (fun s => nF P s) 1000 ≤ P.length := by
  induction P with
  | nil =>
    have : sumN (fun s => nF [] s) 1000 = 0 := sumN_zero fun j _ => rfl
    omega
  | cons p P ih =>
    have e : sumN (fun s => nF (p :: P) s) 1000 = sumN (fun s => nF P s + if p.1 == (s : Int) then 1 else 0) 1000 := sumN_congr fun j _ => by
      unfold nF; rw [List.countP_cons]
    rw [e, sumN_add]
    have := sumN_one p.1 1000
    simp only [List.length_cons]
    omega
theorem nS_le (P : List (Int × Int)) (s : Int) : nS P s ≤ P.length := List.countP_le_length
theorem nF_le (P : List (Int × Int)) (s : Int) : nF P s ≤ P.length := List.countP_le_length
theorem nE_le (P : List (Int × Int)) : nE P ≤ P.length := List.countP_le_length
/-- The chance of equal codes, times the square of the number of pairs. -/
def chN (P : List (Int × Int)) : Nat := sumN (fun s => nF P s * nS P s) 1000
theorem chN_le (P : List (Int × Int)) : chN P ≤ P.length * P.length := by
  have h1 : chN P ≤ sumN (fun s => nF P s * P.length) 1000 := sumN_mono fun j _ => Nat.mul_le_mul (Nat.le_refl _) (nS_le P j)
  rw [sumN_mul] at h1
  exact Nat.le_trans h1 (Nat.mul_le_mul (nF_all P) (Nat.le_refl _))
theorem nF_swap (P : List (Int × Int)) (s : Int) : nF (P.map Prod.swap) s = nS P s := by unfold nF nS; rw [List.countP_map]; rfl
theorem nS_swap (P : List (Int × Int)) (s : Int) : nS (P.map Prod.swap) s = nF P s := by unfold nF nS; rw [List.countP_map]; rfl
theorem chN_swap (P : List (Int × Int)) : chN (P.map Prod.swap) = chN P := by
  unfold chN
  refine sumN_congr fun j _ => ?_
  rw [nF_swap, nS_swap, Nat.mul_comm]
theorem nE_swap (P : List (Int × Int)) : nE (P.map Prod.swap) = nE P := by
  unfold nE
  rw [List.countP_map]
  refine List.countP_congr fun p _ => ?_
  simp only [Function.comp_apply, Prod.fst_swap, Prod.snd_swap, beq_iff_eq]
  exact ⟨Eq.symm, Eq.symm⟩
theorem nE_same {P : List (Int × Int)} (h : ∀ p ∈ P, p.1 = p.2) : nE P = P.length := by
  unfold nE
  rw [List.countP_eq_length]
  intro p hp
  simpa using h p hp
/-- The list's element. -/
def pn (P : List (Int × Int)) (j : Nat) : Int × Int := P.getD j (0, 0)
theorem pn_is {P : List (Int × Int)} {j : Nat} (h : j < P.length) : pn P j = P[j] := by unfold pn; rw [List.getD, List.getElem?_eq_getElem h]; rfl
theorem pn_mem {P : List (Int × Int)} {j : Nat} (h : j < P.length) : pn P j ∈ P := by rw [pn_is h]; exact List.getElem_mem h
theorem take_pn {P : List (Int × Int)} {j : Nat} (h : j < P.length) : P.take (j + 1) = P.take j ++ [pn P j] := by rw [pn_is h, List.take_succ_eq_append_getElem h]
theorem nF_next {P : List (Int × Int)} {j : Nat} (h : j < P.length) (s : Int) : (if s = (pn P j).1 then nF (P.take j) (pn P j).1 + 1 else nF (P.take j) s) = nF (P.take (j + 1)) s := by
  rw [take_pn h]
  unfold nF
  rw [List.countP_append]
  by_cases e : s = (pn P j).1
  · rw [if_pos e, e]; simp
  · rw [if_neg e]
    have : ((pn P j).1 == s) = false := by rw [beq_eq_false_iff_ne]; exact fun h => e h.symm
    simp [this]
theorem nS_next {P : List (Int × Int)} {j : Nat} (h : j < P.length) (s : Int) : (if s = (pn P j).2 then nS (P.take j) (pn P j).2 + 1 else nS (P.take j) s) = nS (P.take (j + 1)) s := by
  rw [take_pn h]
  unfold nS
  rw [List.countP_append]
  by_cases e : s = (pn P j).2
  · rw [if_pos e, e]; simp
  · rw [if_neg e]
    have : ((pn P j).2 == s) = false := by rw [beq_eq_false_iff_ne]; exact fun h => e h.symm
    simp [this]
theorem nE_next {P : List (Int × Int)} {j : Nat} (h : j < P.length) : nE (P.take (j + 1)) = nE (P.take j) + if (pn P j).1 = (pn P j).2 then 1 else 0 := by
  rw [take_pn h]
  unfold nE
  rw [List.countP_append]
  by_cases e : (pn P j).1 = (pn P j).2
  · rw [if_pos e]; simp [e]
  · rw [if_neg e]
    have : ((pn P j).1 == (pn P j).2) = false := by rw [beq_eq_false_iff_ne]; exact e
    simp [this]
/-- Codes of pairs are those of a frame. -/
def SmP (P : List (Int × Int)) : Prop := ∀ p ∈ P, (0 < p.1 ∧ p.1 < 1000) ∧ (0 < p.2 ∧ p.2 < 1000)
/-- The sum over the codes that have been met. -/
def chL (g1 g2 : Int → Nat) (left : Lit → Bool) : Nat := sumN (fun s => if left (.int .i64 (s : Int)) then 0 else g1 s * g2 s) 1000
theorem chL_none {g1 g2 : Int → Nat} {left : Lit → Bool} (h : ∀ s : Nat, left (.int .i64 (s : Int)) = false → g1 s = 0) : chL g1 g2 left = 0 := sumN_zero fun j _ => by
  by_cases e : left (.int .i64 (j : Int)) = true
  · rw [if_pos e]
  · rw [if_neg e, h j (by simpa using e), Nat.zero_mul]
theorem chL_all {g1 g2 : Int → Nat} {left : Lit → Bool} (h : ∀ s : Nat, left (.int .i64 (s : Int)) = false) : chL g1 g2 left = sumN (fun s => g1 s * g2 s) 1000 := sumN_congr fun j _ => by rw [h j]; rfl
theorem chL_step {g1 g2 : Int → Nat} {left : Lit → Bool} {s : Nat} (hs : s < 1000) (h : left (.int .i64 (s : Int)) = true) : chL g1 g2 (fun z => left z && !z.sameKey (.int .i64 (s : Int))) = chL g1 g2 left + g1 s * g2 s := by
  unfold chL
  refine sumN_at (i := s) hs (fun j hj => ?_) ?_
  · have : decide ((j : Int) = (s : Int)) = false := decide_eq_false (by omega)
    simp only [same_int, this, Bool.not_false, Bool.and_true]
  · simp [same_int, h]
theorem chL_le {g1 g2 : Int → Nat} {left : Lit → Bool} : chL g1 g2 left ≤ sumN (fun s => g1 s * g2 s) 1000 := sumN_mono fun j _ => by
  by_cases e : left (.int .i64 (j : Int)) = true
  · rw [if_pos e]; exact Nat.zero_le _
  · rw [if_neg e]; exact Nat.le_refl _
end Go.Proofs.YtpdpgfnplmjihaaDoor
namespace Go.Proofs.YtpdpgfnplmjihaaDoor
open Go.RowKit Go.WideMaps Go.Maps

/-- The coders of a case increase. -/
def Srt (D : List Cg) : Prop := ∀ i, i + 1 < D.length → (cg D i).co < (cg D (i + 1)).co
theorem Srt.lt {D : List Cg} (h : Srt D) {i : Nat} : ∀ {j : Nat}, i < j → j < D.length → (cg D i).co < (cg D j).co
  | j + 1, h1, h2 => by
    have h3 := h j h2
    by_cases e : i = j
    · rw [e]; exact h3
    · have := Srt.lt h (i := i) (j := j) (by omega) (by omega)
      omega
theorem byC_at {D : List Cg} (h : Srt D) {n : Nat} {x : Int} (hn : n < D.length) (e : (cg D n).co = x) : byC D x = (cg D n).cd := by
  have hf : D.find? (fun u => u.co == x) = some (cg D n) := by
    rw [List.find?_eq_some_iff_getElem]
    refine ⟨by simpa using e, n, hn, (cg_is hn).symm, fun j hj => ?_⟩
    have := h.lt hj hn
    rw [← cg_is (by omega)]
    have e2 : ((cg D j).co == x) = false := by rw [beq_eq_false_iff_ne]; omega
    rw [e2]; rfl
  unfold byC
  rw [hf]; rfl
theorem byC_none {D : List Cg} {x : Int} (h : ∀ j, j < D.length → (cg D j).co ≠ x) : byC D x = 0 := by
  have hf : D.find? (fun u => u.co == x) = none := by
    rw [List.find?_eq_none]
    intro u hu
    obtain ⟨j, hj, e⟩ := List.getElem_of_mem hu
    have := h j hj
    rw [cg_is hj, e] at this
    simpa using this
  unfold byC
  rw [hf]; rfl
theorem cmp_neg {x y : Int} (h : x < y) : Lib.compareInt x y = -1 := by unfold Lib.compareInt; rw [if_pos h]
theorem cmp_zero (x : Int) : Lib.compareInt x x = 0 := by unfold Lib.compareInt; simp
theorem cmp_pos {x y : Int} (h : y < x) : Lib.compareInt x y = 1 := by unfold Lib.compareInt; rw [if_neg (by omega)]; simp; omega
theorem cmpBy_c (u : Cg) (x : Int) (w : World) :
    Calls Tryd.prog 14 #[.agg #[.int .i64 u.ca, .int .i64 u.co, .int .i64 u.cd], .int .i64 x] w fun e w' => e = .returned (.int .i64 (Lib.compareInt u.co x)) ∧ Below w.heap.size w w' := by
  obtain ⟨W1, hW1⟩ : ∃ W1, w.alloc (.cells #[.int .i64 u.ca, .int .i64 u.co, .int .i64 u.cd] 49) = W1 := ⟨_, rfl⟩
  have B1 : Hid (CodB w W1 u) := by unfold Hid; rw [← hW1]; exact cod_b _ _
  have HC := Lib.hid (Tryd.cmp_Compare_int u.co x W1)
  have v1 := B1.out.2.c1
  go_enter Tryd.func14, Tryd.ntmps14
  go_wp2_with fail
  clear hW1 v1
  refine HC.out.mono ?_
  rintro e w' ⟨rfl, rfl⟩
  go_wp2
  go_ret
  exact ⟨rfl, B1.out.1⟩
def BsP (D : List Cg) (x : Int) (w : World) (e : Ending) (w' : World) : Prop :=
  ∃ n b, e = .returned (.tuple #[.int .i64 (n : Nat), .bool b]) ∧ n ≤ D.length ∧ (b = true → n < D.length ∧ (cg D n).co = x) ∧ (b = false → ∀ j, j < D.length → (cg D j).co ≠ x) ∧ Below w.heap.size w w'
/-- Where the search is. -/
structure InB (D : List Cg) (x : Int) (w : World) (i j : Nat) (wr : World) : Prop where
  le : i ≤ j
  hi : j ≤ D.length
  lo : ∀ k, k < i → (cg D k).co < x
  up : ∀ k, j ≤ k → k < D.length → x ≤ (cg D k).co
  bel : Below w.heap.size w wr
theorem mid_wrap {i j n : Nat} (h1 : i < j) (h2 : j ≤ n) (h3 : n ≤ 20000) : ∃ h : Nat, h = (i + j) / 2 ∧ i ≤ h ∧ h < j := ⟨(i + j) / 2, rfl, by omega, by omega⟩
set_option maxRecDepth 100000 in
set_option maxHeartbeats 2000000 in
theorem bsearch_c (a : Option Addr) (c : Nat) (D : List Cg) (x : Int) (w : World) (hD : RdC w a D) (hn : D.length ≤ 20000) (hs : Srt D) :
    Calls Tryd.prog 13 #[.slice a D.length c, .int .i64 x, .func (.func 14) #[] #[]] w (BsP D x w) := by
  have HD := Lib.hid hD
  have HS := Lib.hid hs
  have h9 := hD.1
  clear hD hs
  go_enter Tryd.func13, Tryd.ntmps13
  go_wp2
  go_loopw [9, 10] (fun vi vj wr => ∃ i j : Nat, vi = .int .i64 i ∧ vj = .int .i64 j ∧ Hid (InB D x w i j wr)) (fun vi vj _ => (intOf vj).toNat - (intOf vi).toNat)
  case atStart => exact ⟨0, D.length, rfl, rfl, Nat.zero_le _, Nat.le_refl _, fun k h => by omega, fun k h1 h2 => by omega, Below.refl _ _⟩
  case round =>
    obtain ⟨i, j, rfl, rfl, hI⟩ := hrel
    by_cases hlt : i < j
    · have hlt' : (i : Int) < (j : Int) := by omega
      have hhi := hI.out.hi
      obtain ⟨h, hh, h1, h2⟩ := mid_wrap hlt hhi hn
      have hmid : ((i : Int) + (j : Int)) / 2 = (h : Int) := by omega
      have hhl : (h : Int) < (D.length : Int) := by omega
      have h0 : (0 : Int) ≤ (h : Int) := by omega
      obtain ⟨b', off, rfl, u0, u1, u2⟩ := (HD.out.below hI.out.bel).at_ (k := h) (by omega)
      have HC := Lib.hid (cmpBy_c (cg D h) x wr)
      have HH := Lib.hid (And.intro h1 h2)
      by_cases hc : (cg D h).co < x
      · rw [cmp_neg hc] at HC
        have NX : Hid (∀ W, Below wr.heap.size wr W → InB D x w (h + 1) j W) := fun W hb =>
          ⟨by omega, hI.out.hi, fun k hk => by
            by_cases e : k = h
            · rw [e]; exact hc
            · have := HS.out.lt (i := k) (j := h) (by omega) (by omega)
              omega, hI.out.up, hI.out.bel.trans (hb.mono hI.out.bel.size)⟩
        clear hh h1 h2 hc
        go_wp2_with fail
        (with_reducible refine HC.out.mono ?_)
        rintro e W2 ⟨rfl, b2⟩
        have N2 := Lib.hid (NX.out W2 b2)
        clear b2 u0 u1 u2 hI
        go_wp2
        go_roundw
        case rel => exact ⟨h + 1, j, by go_num, rfl, N2.out⟩
        case measure => have := HH.out; simp [intOf]; omega
      · have hge : ¬ Lib.compareInt (cg D h).co x < 0 := by
          unfold Lib.compareInt
          rw [if_neg hc]; split <;> omega
        obtain ⟨v, hv⟩ : ∃ v, Lib.compareInt (cg D h).co x = v := ⟨_, rfl⟩
        rw [hv] at HC hge
        have NX : Hid (∀ W, Below wr.heap.size wr W → InB D x w i h W) := fun W hb =>
          ⟨h1, by omega, hI.out.lo, fun k hk hk2 => by
            by_cases e : k = h
            · rw [e]; omega
            · have := HS.out.lt (i := h) (j := k) (by omega) hk2
              omega, hI.out.bel.trans (hb.mono hI.out.bel.size)⟩
        clear hh h1 h2 hc hv
        go_wp2_with fail
        (with_reducible refine HC.out.mono ?_)
        rintro e W2 ⟨rfl, b2⟩
        have N2 := Lib.hid (NX.out W2 b2)
        clear b2 u0 u1 u2 hI
        go_wp2
        go_roundw
        case rel => exact ⟨i, h, rfl, rfl, N2.out⟩
        case measure => have := HH.out; simp [intOf]; omega
    · obtain rfl : i = j := by have := hI.out.le; omega
      have hhi := hI.out.hi
      by_cases hin : i < D.length
      · have hin' : (i : Int) < (D.length : Int) := by omega
        obtain ⟨b', off, rfl, u0, u1, u2⟩ := (HD.out.below hI.out.bel).at_ (k := i) hin
        have HC := Lib.hid (cmpBy_c (cg D i) x wr)
        have HIN := Lib.hid hin
        clear hhi hin
        by_cases hc : (cg D i).co = x
        · have e0 : Lib.compareInt (cg D i).co x = 0 := by rw [hc]; exact cmp_zero x
          rw [e0] at HC
          have PP : Hid (∀ W, Below wr.heap.size wr W → BsP D x w (.returned (.tuple #[.int .i64 (i : Nat), .bool true])) W) := fun W hb =>
            ⟨i, true, rfl, hI.out.hi, fun _ => ⟨HIN.out, hc⟩, (fun h => by cases h), hI.out.bel.trans (hb.mono hI.out.bel.size)⟩
          clear hc
          go_wp2_with fail
          (with_reducible refine HC.out.mono ?_)
          rintro e W2 ⟨rfl, b2⟩
          have N2 := Lib.hid (PP.out W2 b2)
          clear b2 u0 u1 u2 hI
          go_wp2
          exact bodyPost_ret (v := .tuple #[.int .i64 (i : Nat), .bool true]) (by simp [results, Tryd.results13, go_sem]) rfl N2.out
        · have hne : (Lib.compareInt (cg D i).co x == 0) = false := by
            rw [beq_eq_false_iff_ne]
            unfold Lib.compareInt
            split
            · decide
            · split
              · decide
              · omega
          obtain ⟨v, hv⟩ : ∃ v, Lib.compareInt (cg D i).co x = v := ⟨_, rfl⟩
          rw [hv] at HC hne
          have PP : Hid (∀ W, Below wr.heap.size wr W → BsP D x w (.returned (.tuple #[.int .i64 (i : Nat), .bool false])) W) := fun W hb =>
            ⟨i, false, rfl, hI.out.hi, (fun h => by cases h), fun _ j hj => by
              rcases Nat.lt_trichotomy j i with h | h | h
              · have := hI.out.lo j h; omega
              · rw [h]; exact hc
              · have := hI.out.up i (Nat.le_refl _) HIN.out
                have := HS.out.lt (i := i) (j := j) h hj
                omega, hI.out.bel.trans (hb.mono hI.out.bel.size)⟩
          clear hc hv
          go_wp2_with fail
          (with_reducible refine HC.out.mono ?_)
          rintro e W2 ⟨rfl, b2⟩
          have N2 := Lib.hid (PP.out W2 b2)
          clear b2 u0 u1 u2 hI
          go_wp2
          exact bodyPost_ret (v := .tuple #[.int .i64 (i : Nat), .bool false]) (by simp [results, Tryd.results13, go_sem]) rfl N2.out
      · have hin' : ¬ (i : Int) < (D.length : Int) := by omega
        have hin2 : decide ((i : Int) < (D.length : Int)) = false := decide_eq_false hin'
        have PP : Hid (BsP D x w (.returned (.tuple #[.int .i64 (i : Nat), .bool false])) wr) :=
          ⟨i, false, rfl, hI.out.hi, (fun h => by cases h), fun _ j hj => by have := hI.out.lo j (by omega); omega, hI.out.bel⟩
        clear hI hin hhi
        go_wp2
        exact bodyPost_ret (v := .tuple #[.int .i64 (i : Nat), .bool false]) (by simp [results, Tryd.results13, go_sem]) rfl PP.out
theorem codeBy_c (a : Option Addr) (c : Nat) (D : List Cg) (x : Int) (w : World) (hD : RdC w a D) (hn : D.length ≤ 20000) (hs : Srt D) :
    Calls Tryd.prog 10 #[.slice a D.length c, .int .i64 x] w fun e w' => e = .returned (.int .i64 (byC D x)) ∧ Below w.heap.size w w' := by
  have HD := Lib.hid hD
  have HS := Lib.hid hs
  have h9 := hD.1
  have HC := Lib.hid (bsearch_c a c D x w hD hn hs)
  clear hD hs
  go_enter Tryd.func10, Tryd.ntmps10
  go_wp2_with fail
  (with_reducible refine HC.out.mono ?_)
  rintro e W2 ⟨n, b, rfl, hle, ht, hf, b2⟩
  have B2 := Lib.hid b2
  have HF := Lib.hid hf
  have HT := Lib.hid ht
  clear ht hf b2
  cases b
  · have E : Hid (byC D x = 0) := byC_none (HF.out rfl)
    clear HF HT
    go_wp2
    go_ret
    exact ⟨by rw [E.out]; rfl, B2.out⟩
  · have hlt := (HT.out rfl).1
    have E : Hid (byC D x = (cg D n).cd) := byC_at HS.out hlt (HT.out rfl).2
    obtain ⟨b', off, rfl, u0, u1, u2⟩ := (HD.out.below B2.out).at_ hlt
    have hlt' : (n : Int) < (D.length : Int) := by omega
    clear HF HT hlt hle
    go_wp2
    go_ret
    exact ⟨by rw [E.out]; rfl, B2.out⟩
end Go.Proofs.YtpdpgfnplmjihaaDoor
