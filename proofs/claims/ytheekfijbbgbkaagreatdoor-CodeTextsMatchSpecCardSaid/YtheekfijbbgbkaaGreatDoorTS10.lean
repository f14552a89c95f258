/-
  The reference of package code: known, Within.
  The reference of package code: final: the mathematics.
  Package code: the text of a frame: how long it is.
  Package code: Meeting; CodeDistancesAreDistances, the law.
-/
import Derived.Test.YtheekfijbbgbkaaGreatDoorTS09
import Derived.Test.YtheekfijbbgbkaaGreatDoorTS07
import Derived.Test.YtheekfijbbgbkaaGreatDoorTS04
namespace Go.Proofs.YtheekfijbbgbkaaGreatDoor
open Go.RowKit Go.WideMaps Go.Maps

/-- The node is below the code, or the code itself. -/
def wiP (l : List Nd) (s : Int) (j : Nat) : Bool := decide (s ∈ pth (par l) (nd l j).cd.toNat (lev l (nd l j).cd.toNat))
theorem cvd_is (l : List Nd) (s : Int) : cvd l s = cn (wiP l s) l.length := rfl
theorem pth_has (p : Nat → Nat) (c n : Nat) (s : Int) : (pth p c n).contains s = decide (s ∈ pth p c n) := by simp
def WiP (n : Nat) (w : World) (e : Ending) (w' : World) : Prop := ∃ a c, e = .returned (.tuple #[.slice a n c, .int .i64 0]) ∧ Below w.heap.size w w'
structure InW (w wr : World) (v : Value) (n : Nat) : Prop where
  own : ∃ zs : List Int, zs.length = n ∧ wr.ownsRow w.heap.size 3 1 v n (zs.map (Value.int .i64))
  bel : Below w.heap.size w wr
theorem InW.keep {w wr W : World} {v : Value} {n : Nat} (h : InW w wr v n) (hb : Below wr.heap.size wr W) : InW w W v n := by
  obtain ⟨zs, h1, h2⟩ := h.own
  exact ⟨⟨zs, h1, own_keep h2 hb⟩, h.bel.trans (hb.mono h.bel.size)⟩
end Go.Proofs.YtheekfijbbgbkaaGreatDoor
namespace Go.Proofs.YtheekfijbbgbkaaGreatDoor
open Go.RowKit Go.WideMaps Go.Maps

/-- What the loop over the nodes knows behind the first k. -/
def RfK (l : List Nd) (D : List Cg) (k : Nat) (c y : Int) (least : Nat) : Prop :=
  (∀ j, j < k → ¬ D.length < 2 * vN D (nd l j).cd) ∧
  ((c = 0 ∧ y = 4 ∧ least = l.length + 1 ∧ ∀ j, j < k → ¬ D.length < 2 * uN (par l) (lev l) D (nd l j).cd) ∨
   (y = 3 ∧ (∃ j0, j0 < l.length ∧ c = (nd l j0).cd) ∧ D.length < 2 * uN (par l) (lev l) D c ∧ least = cvd l c ∧ ∀ j, j < k → D.length < 2 * uN (par l) (lev l) D (nd l j).cd → cvd l c ≤ cvd l (nd l j).cd))
theorem rf_start (l : List Nd) (D : List Cg) : RfK l D 0 0 4 (l.length + 1) := ⟨fun j h => by omega, .inl ⟨rfl, rfl, rfl, fun j h => by omega⟩⟩
theorem rf_hit {l : List Nd} {D : List Cg} {k : Nat} {c y : Int} {least : Nat} (h : RfK l D k c y least) (hk : k < l.length) (hv : ¬ D.length < 2 * vN D (nd l k).cd) (hu : D.length < 2 * uN (par l) (lev l) D (nd l k).cd) (hc : cvd l (nd l k).cd < least) :
    RfK l D (k + 1) (nd l k).cd 3 (cvd l (nd l k).cd) := by
  refine ⟨fun j hj => ?_, .inr ⟨rfl, ⟨k, hk, rfl⟩, hu, rfl, fun j hj hju => ?_⟩⟩
  · by_cases e : j = k
    · rw [e]; exact hv
    · exact h.1 j (by omega)
  · by_cases e : j = k
    · rw [e]; exact Nat.le_refl _
    · rcases h.2 with ⟨_, _, _, g⟩ | ⟨_, _, _, g1, g2⟩
      · exact absurd hju (g j (by omega))
      · have := g2 j (by omega) hju; omega
theorem rf_miss {l : List Nd} {D : List Cg} {k : Nat} {c y : Int} {least : Nat} (h : RfK l D k c y least) (hv : ¬ D.length < 2 * vN D (nd l k).cd) (hu : ¬ (D.length < 2 * uN (par l) (lev l) D (nd l k).cd ∧ cvd l (nd l k).cd < least)) :
    RfK l D (k + 1) c y least := by
  refine ⟨fun j hj => ?_, ?_⟩
  · by_cases e : j = k
    · rw [e]; exact hv
    · exact h.1 j (by omega)
  · have hle : cvd l (nd l k).cd ≤ l.length := cn_le _ _
    rcases h.2 with ⟨g1, g2, g3, g4⟩ | ⟨g1, g2, g3, g4, g5⟩
    · refine .inl ⟨g1, g2, g3, fun j hj => ?_⟩
      by_cases e : j = k
      · rw [e]; exact fun q => hu ⟨q, by omega⟩
      · exact g4 j (by omega)
    · refine .inr ⟨g1, g2, g3, g4, fun j hj hju => ?_⟩
      by_cases e : j = k
      · rw [e] at hju ⊢
        have : ¬ cvd l (nd l k).cd < least := fun q => hu ⟨hju, q⟩
        omega
      · exact g5 j (by omega) hju
theorem nd_has {l : List Nd} (F : Fr l) {k : Nat} (hk : k < l.length) : ∃ d : Nat, (nd l k).cd = (d : Int) ∧ Has l d := by
  have := F.ord.rng k hk
  have e : (nd l k).cd = (((nd l k).cd.toNat : Nat) : Int) := by omega
  exact ⟨(nd l k).cd.toNat, e, k, hk, e⟩
/-- The deeper one of two codes on one path covers less. -/
theorem cvd_less {l : List Nd} (F : Fr l) {D : List Cg} (hD : HasD (Has l) D) {c s : Int} (hc : D.length < 2 * uN (par l) (lev l) D c) (hs : D.length < 2 * uN (par l) (lev l) D s) (hl : lev l c.toNat < lev l s.toNat) (hh : ∃ j0, j0 < l.length ∧ c = (nd l j0).cd) : cvd l s < cvd l c := by
  obtain ⟨x, i, j, hx, hi, hj, rfl, rfl⟩ := u_one F.tree hD hc hs
  rw [Int.toNat_natCast, Int.toNat_natCast, F.tree.lvIt hx, F.tree.lvIt hx] at hl
  have eit : it (par l) i x = it (par l) (i - j) (it (par l) j x) := by rw [← it_add, show j + (i - j) = i by omega]
  refine cn_less (fun n hn h => ?_) ?_
  · have h := of_decide_eq_true h
    obtain ⟨e, he, hhe⟩ := nd_has F hn
    rw [he, Int.toNat_natCast, pth_mem] at h
    obtain ⟨q, hq, e2⟩ := h
    have e2 : it (par l) q e = it (par l) j x := by omega
    have l1 := F.tree.lvIt (k := q) (c := e) (.inr hhe)
    rw [e2, F.tree.lvIt hx] at l1
    refine decide_eq_true ?_
    rw [he, Int.toNat_natCast, pth_mem]
    refine ⟨q + (i - j), by omega, ?_⟩
    rw [it_add, e2, ← eit]
  · obtain ⟨j0, hj0, e0⟩ := hh
    have hin : In (Has l) (it (par l) i x) := F.tree.inIt hx
    have hlv := F.tree.lvIt (k := i) hx
    refine ⟨j0, hj0, decide_eq_true ?_, fun h => ?_⟩
    · rw [← e0, Int.toNat_natCast, pth_mem]
      exact ⟨0, by omega, rfl⟩
    · have h := of_decide_eq_true h
      rw [← e0, Int.toNat_natCast, pth_mem] at h
      obtain ⟨q, hq, e2⟩ := h
      have e2 : it (par l) q (it (par l) i x) = it (par l) j x := by omega
      have l1 := F.tree.lvIt (k := q) hin
      rw [e2, F.tree.lvIt hx, hlv] at l1
      omega
/-- A code that codings are within is one of the nodes'. -/
theorem u_node {l : List Nd} (F : Fr l) {D : List Cg} (hD : HasD (Has l) D) {s : Int} (hs : D.length < 2 * uN (par l) (lev l) D s) : ∃ j, j < l.length ∧ s = (nd l j).cd := by
  obtain ⟨x, i, _, hx, hi, _, rfl, _⟩ := u_one F.tree hD hs hs
  have hin : In (Has l) (it (par l) i x) := F.tree.inIt hx
  have hlv := F.tree.lvIt (k := i) hx
  rcases hin with h | ⟨k, hk, e⟩
  · rw [h, F.tree.zero] at hlv; omega
  · exact ⟨k, hk, e.symm⟩
theorem rf_end {l : List Nd} (F : Fr l) {D : List Cg} (hD : HasD (Has l) D) {c y : Int} {least : Nat} (h : RfK l D l.length c y least) : IsFin (par l) (lev l) D c y := by
  have nov : ∀ s, ¬ D.length < 2 * vN D s := fun s hs => by
    have := v_u F.tree hD s
    obtain ⟨j, hj, e⟩ := u_node F hD (s := s) (by omega)
    rw [e] at hs
    exact h.1 j hj hs
  rcases h.2 with ⟨rfl, rfl, _, g⟩ | ⟨rfl, g1, g2, _, g3⟩
  · refine .inr (.inr (.inr ⟨rfl, rfl, fun s hs => ?_⟩))
    obtain ⟨j, hj, e⟩ := u_node F hD hs
    rw [e] at hs
    exact g j hj hs
  · refine .inr (.inr (.inl ⟨rfl, nov, g2, fun s hs => ?_⟩))
    obtain ⟨j, hj, e⟩ := u_node F hD hs
    by_cases hl : lev l c.toNat < lev l s.toNat
    · have h1 := cvd_less F hD g2 hs hl g1
      rw [e] at hs h1
      have := g3 j hj hs
      omega
    · omega
/-- The two boxes of final. -/
structure InRf (w wr : World) (r o : Nat) (a c y : Int) : Prop where
  br : B3 wr r (.int .i64 0) (.int .i64 0) (.int .i64 0)
  bo : B3 wr o (.int .i64 a) (.int .i64 c) (.int .i64 y)
  bel : Below w.heap.size w wr
  lo : w.heap.size ≤ r
  lt : r < o
theorem InRf.keep {w wr W : World} {r o : Nat} {a c y : Int} (h : InRf w wr r o a c y) (hb : Below wr.heap.size wr W) : InRf w W r o a c y :=
  ⟨h.br.keep hb, h.bo.keep hb, h.bel.trans (hb.mono h.bel.size), h.lo, h.lt⟩
theorem InRf.set {w wr : World} {r o : Nat} {a c y : Int} (h : InRf w wr r o a c y) (c' y' : Int) : InRf w ((wr.setCell ⟨o, 1, none⟩ (.int .i64 c')).setCell ⟨o, 2, none⟩ (.int .i64 y')) r o a c' y' := by
  have lo := h.lo
  have lt := h.lt
  have ne : o ≠ r := by omega
  have hne : ∀ {i j : Nat}, i ≠ j → (⟨o, i, none⟩ : Addr) ≠ ⟨o, j, none⟩ := fun h e => by injection e with _ e2; exact h e2
  refine ⟨⟨?_, ?_, ?_, fun q => by simp only [World.frozen?_setCell]; exact h.br.fr q, by simpa using h.br.lt⟩, ⟨?_, ?_, ?_, fun q => by simp only [World.frozen?_setCell]; exact h.bo.fr q, by simpa using h.bo.lt⟩, (h.bel.setCell (p := ⟨o, 1, none⟩) (by show _ ≤ o; omega) _).setCell (p := ⟨o, 2, none⟩) (by show _ ≤ o; omega) _, lo, lt⟩
  · rw [set_cell ne, set_cell ne]; exact h.br.c0
  · rw [set_cell ne, set_cell ne]; exact h.br.c1
  · rw [set_cell ne, set_cell ne]; exact h.br.c2
  · rw [World.cell?_setCell_other _ _ _ _ (hne (by decide)), World.cell?_setCell_other _ _ _ _ (hne (by decide))]; exact h.bo.c0
  · rw [World.cell?_setCell_other _ _ _ _ (hne (by decide)), World.cell?_setCell_same _ _ _ h.bo.c1]
  · rw [World.cell?_setCell_same _ _ _ (u := .int .i64 y) (by rw [World.cell?_setCell_other _ _ _ _ (hne (by decide))]; exact h.bo.c2)]
def RfP (l : List Nd) (D : List Cg) (w : World) (e : Ending) (w' : World) : Prop := ∃ c y : Int, e = .returned (.agg #[.int .i64 (cg D 0).ca, .int .i64 c, .int .i64 y]) ∧ IsFin (par l) (lev l) D c y ∧ Below w.heap.size w w'
/-- The result is stored, and loaded. -/
theorem InRf.res {w wr : World} {r o : Nat} {a c y : Int} (h : InRf w wr r o a c y) (x0 x1 x2 : Value) : B3 (three wr r x0 x1 x2) r x0 x1 x2 ∧ Below w.heap.size w (three wr r x0 x1 x2) := ⟨h.br.set _ _ _, below_three h.bel h.lo _ _ _⟩
end Go.Proofs.YtheekfijbbgbkaaGreatDoor
namespace Go.Proofs.YtheekfijbbgbkaaGreatDoor
open Go.RowKit Go.WideMaps Go.Maps

/-- The sum of the first k. -/
def sm (f : Nat → Nat) : Nat → Nat
  | 0 => 0
  | k + 1 => sm f k + f k
theorem sm_le {f g : Nat → Nat} : ∀ {k}, (∀ j, j < k → f j ≤ g j) → sm f k ≤ sm g k
  | 0, _ => Nat.le_refl _
  | k + 1, h => by have := sm_le (k := k) fun j hj => h j (by omega); have := h k (by omega); unfold sm; omega
theorem sm_zero {f : Nat → Nat} : ∀ {k}, (∀ j, j < k → f j = 0) → sm f k = 0
  | 0, _ => rfl
  | k + 1, h => by unfold sm; rw [sm_zero (k := k) fun j hj => h j (by omega), h k (by omega)]
theorem sm_add (f g : Nat → Nat) : ∀ k, sm (fun j => f j + g j) k = sm f k + sm g k
  | 0 => rfl
  | k + 1 => by unfold sm; rw [sm_add f g k]; omega
theorem sm_mul (f : Nat → Nat) (c : Nat) : ∀ k, sm (fun j => c * f j) k = c * sm f k
  | 0 => rfl
  | k + 1 => by unfold sm; rw [sm_mul f c k, Nat.mul_add]
theorem sm_swap (f : Nat → Nat → Nat) (n : Nat) : ∀ m, sm (fun j => sm (fun x => f j x) n) m = sm (fun x => sm (fun j => f j x) m) n
  | 0 => (sm_zero fun _ _ => rfl).symm
  | m + 1 => by
    rw [sm, sm_swap f n m, ← sm_add]
    rfl
/-- One when the condition holds. -/
def ind (b : Bool) : Nat := if b = true then 1 else 0
theorem cn_sm (P : Nat → Bool) : ∀ k, cn P k = sm (fun j => ind (P j)) k
  | 0 => rfl
  | k + 1 => by unfold cn sm; rw [cn_sm P k]; rfl
theorem sm_one {P : Nat → Bool} : ∀ {k}, (∀ i j, i < k → j < k → P i = true → P j = true → i = j) → sm (fun j => ind (P j)) k ≤ 1
  | 0, _ => by simp [sm]
  | k + 1, h => by
    have ih := sm_one (P := P) (k := k) fun i j hi hj => h i j (by omega) (by omega)
    unfold sm
    by_cases e : P k = true
    · have : sm (fun j => ind (P j)) k = 0 := sm_zero fun j hj => by
        unfold ind
        rw [if_neg fun e2 => by have := h j k (by omega) (by omega) e2 e; omega]
      rw [this]; unfold ind; rw [if_pos e]; omega
    · unfold ind at *
      rw [if_neg e]; exact ih
/-- Node x is below p (not p itself). -/
def below (l : List Nd) (p : Nat) (j : Nat) : Bool := decide (∃ i, i < lev l (nd l j).cd.toNat ∧ it (par l) (i + 1) (nd l j).cd.toNat = p)
def dsc (l : List Nd) (p : Nat) : Nat := cn (below l p) l.length
theorem dsc_le (l : List Nd) (p : Nat) : dsc l p ≤ l.length := cn_le _ _
theorem cd_toNat {l : List Nd} (F : Fr l) {j : Nat} (hj : j < l.length) : (((nd l j).cd.toNat : Nat) : Int) = (nd l j).cd := by
  obtain ⟨d, hd, _⟩ := nd_has F hj
  rw [hd, Int.toNat_natCast]
/-- A code's own node and those below it are at most those within it. -/
theorem dsc_in {l : List Nd} (F : Fr l) {j : Nat} (hj : j < l.length) : dsc l (nd l j).cd.toNat + 1 ≤ cvd l (nd l j).cd := by
  obtain ⟨d, hd, hh⟩ := nd_has F hj
  have e : dsc l (nd l j).cd.toNat < cvd l (nd l j).cd := by
    rw [hd, Int.toNat_natCast]
    refine cn_less (fun x hx h => ?_) ⟨j, hj, ?_, fun h => ?_⟩
    · obtain ⟨i, hi, ei⟩ := of_decide_eq_true h
      obtain ⟨y, hy, hyy⟩ := nd_has F hx
      rw [hy, Int.toNat_natCast] at hi ei
      refine decide_eq_true (pth_mem.2 ?_)
      rw [hy, Int.toNat_natCast]
      have h1 := F.tree.lvIt (k := i + 1) (c := y) (.inr hyy)
      rw [ei] at h1
      have h2 := (F.lev hh).2.1
      exact ⟨i + 1, by omega, by rw [ei]⟩
    · refine decide_eq_true (pth_mem.2 ?_)
      rw [hd, Int.toNat_natCast]
      exact ⟨0, by have := (F.lev hh).2.1; omega, rfl⟩
    · obtain ⟨i, hi, ei⟩ := of_decide_eq_true h
      rw [hd, Int.toNat_natCast] at hi ei
      have h1 := F.tree.lvIt (k := i + 1) (c := d) (.inr hh)
      rw [ei] at h1
      have h2 := (F.lev hh).2.1
      omega
  omega
/-- Node j stands next below p. -/
def next (l : List Nd) (p : Nat) (j : Nat) : Bool := decide ((nd l j).pr = (p : Int))
/-- The nodes next below p, with all that is below each, are at most those below p. -/
theorem kids_le {l : List Nd} (F : Fr l) (p : Nat) : sm (fun j => ind (next l p j) * (dsc l (nd l j).cd.toNat + 1)) l.length ≤ dsc l p := by
  have h1 : sm (fun j => ind (next l p j) * (dsc l (nd l j).cd.toNat + 1)) l.length ≤ sm (fun j => sm (fun x => ind (next l p j) * ind (wiP l (nd l j).cd x)) l.length) l.length := by
    refine sm_le fun j hj => ?_
    rw [sm_mul, ← cn_sm]
    exact Nat.mul_le_mul_left _ (dsc_in F hj)
  rw [sm_swap] at h1
  refine Nat.le_trans h1 ?_
  unfold dsc
  rw [cn_sm]
  refine sm_le fun x hx => ?_
  obtain ⟨y, hy, hyy⟩ := nd_has F hx
  have key : ∀ j, j < l.length → next l p j = true → wiP l (nd l j).cd x = true → ∃ i, i < lev l y ∧ (((it (par l) i y : Nat)) : Int) = (nd l j).cd ∧ it (par l) (i + 1) y = p ∧ lev l y = i + (lev l p + 1) := fun j hj h2 h3 => by
    have h2 := of_decide_eq_true h2
    have h3 := pth_mem.1 (of_decide_eq_true h3)
    rw [hy, Int.toNat_natCast] at h3
    obtain ⟨i, hi, ei⟩ := h3
    have e1 : par l (it (par l) i y) = p := by
      have := pr_it F.ord F.kn hj ei.symm
      omega
    have hin := F.tree.inIt (k := i) (c := y) (.inr hyy)
    have hl1 := F.tree.lvIt (k := i) (c := y) (.inr hyy)
    have hl2 := F.tree.lvP hin
    rw [e1] at hl2
    exact ⟨i, hi, ei, by rw [it_succ]; exact e1, by omega⟩
  by_cases hb : below l p x = true
  · rw [show ind (below l p x) = 1 by unfold ind; rw [if_pos hb]]
    have : sm (fun j => ind (next l p j) * ind (wiP l (nd l j).cd x)) l.length = sm (fun j => ind (next l p j && wiP l (nd l j).cd x)) l.length := by
      congr 1
      funext j
      unfold ind
      cases next l p j <;> cases wiP l (nd l j).cd x <;> rfl
    rw [this]
    refine sm_one fun i j hi hj h2 h3 => ?_
    rw [Bool.and_eq_true] at h2 h3
    obtain ⟨a, _, ea, _, la⟩ := key i hi h2.1 h2.2
    obtain ⟨b, _, eb, _, lb⟩ := key j hj h3.1 h3.2
    have : a = b := by omega
    subst this
    exact F.ord.inj hi hj (ea.symm.trans eb)
  · refine Nat.le_of_eq ?_
    rw [show ind (below l p x) = 0 by unfold ind; rw [if_neg hb]]
    refine sm_zero fun j hj => ?_
    unfold ind
    by_cases h2 : next l p j = true
    · by_cases h3 : wiP l (nd l j).cd x = true
      · refine absurd (decide_eq_true ?_) hb
        obtain ⟨i, hi, _, e2, _⟩ := key j hj h2 h3
        rw [hy, Int.toNat_natCast]
        exact ⟨i, hi, e2⟩
      · rw [if_neg h3, Nat.mul_zero]
    · rw [if_neg h2, Nat.zero_mul]
end Go.Proofs.YtheekfijbbgbkaaGreatDoor
namespace Go.Proofs.YtheekfijbbgbkaaGreatDoor
open Go.RowKit Go.WideMaps Go.Maps

theorem rd_two (w : World) (a b : Int) (T : TypeId) : Rd (w.alloc (.cells #[.int .i64 a, .int .i64 b] T)) (some ⟨w.heap.size, 0, none⟩) [a, b] := by
  refine ⟨by simp, fun _ => ⟨_, _, rfl, by simp, fun j hj => ?_⟩⟩
  rw [Nat.zero_add, World.cell?_alloc_new]
  match j, hj with
  | 0, _ => rfl
  | 1, _ => rfl
theorem rd_one (w : World) (a : Int) (T : TypeId) : Rd (w.alloc (.cells #[.int .i64 a] T)) (some ⟨w.heap.size, 0, none⟩) [a] := by
  refine ⟨by simp, fun _ => ⟨_, _, rfl, by simp, fun j hj => ?_⟩⟩
  rw [Nat.zero_add, World.cell?_alloc_new]
  match j, hj with
  | 0, _ => rfl
theorem withS_zero {l : List Nd} {cs : List Int} (h : withS l cs = 0) : frS l = 0 ∧ ∀ k, k < cs.length → hasS l (fn cs k) = true := by
  unfold withS at h
  by_cases h1 : frS l ≠ 0
  · rw [if_pos h1] at h; exact absurd h h1
  rw [if_neg h1] at h
  refine ⟨by omega, fun k hk => ?_⟩
  have := fe_zero h k hk
  unfold codeE at this
  by_cases e : hasS l (fn cs k) = false
  · rw [if_pos e] at this; simp at this
  · simpa using e
/-- Meeting's answer at sound arguments. -/
def mtS (l : List Nd) (a b : Nat) : Nat × Nat := mtF (par l) (lev l) (lev l a + lev l b) a b
/-- Meeting's answer. -/
def meS (l : List Nd) (a b : Int) : Int × Int × Int := if withS l [a, b] ≠ 0 then (0, 0, withS l [a, b]) else ((((mtS l a.toNat b.toNat).1 : Nat) : Int), (((mtS l a.toNat b.toNat).2 : Nat) : Int), 0)
def T3P (r : Int × Int × Int) (w : World) (e : Ending) (w' : World) : Prop := e = .returned (.tuple #[.int .i64 r.1, .int .i64 r.2.1, .int .i64 r.2.2]) ∧ Below w.heap.size w w'
/-! ### The law -/
theorem withS_two {l : List Nd} (a b : Int) : withS l [a, b] = if frS l ≠ 0 then frS l else if hasS l a = true ∧ hasS l b = true then 0 else 5 := by
  unfold withS
  by_cases h : frS l ≠ 0
  · rw [if_pos h, if_pos h]
  rw [if_neg h, if_neg h]
  show fe (codeE l [a, b]) 2 = _
  have e0 : codeE l [a, b] 0 = if hasS l a = false then 5 else 0 := rfl
  have e1 : codeE l [a, b] 1 = if hasS l b = false then 5 else 0 := rfl
  show (if (if (0 : Int) = 0 then codeE l [a, b] 0 else 0) = 0 then codeE l [a, b] 1 else (if (0 : Int) = 0 then codeE l [a, b] 0 else 0)) = _
  rw [e0, e1]
  cases hasS l a <;> cases hasS l b <;> simp
theorem mtS_is {l : List Nd} (F : Fr l) {i k : Nat} (hi : Has l i) (hk : Has l k) : MeetIs (par l) (lev l) i k (mtS l i k).1 (mtS l i k).2 :=
  F.tree.mtF_is (Or.inr hi) (Or.inr hk) (Nat.le_refl _)
end Go.Proofs.YtheekfijbbgbkaaGreatDoor
