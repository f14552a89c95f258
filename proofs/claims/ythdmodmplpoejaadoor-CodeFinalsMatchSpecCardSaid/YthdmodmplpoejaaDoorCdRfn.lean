/-
  The reference of package code: final: the mathematics.
-/
import Derived.Test.YthdmodmplpoejaaDoorCdRwi
namespace Go.Proofs.YthdmodmplpoejaaDoor
open Go.RowKit Go.WideMaps Go.Maps

/-- What the loop over the nodes knows behind the first k. -/
def RfK (l : List Nd) (D : List Cg) (k : Nat) (c y : Int) (least : Nat) : Prop :=
  (∀ j, j < k → ¬ D.length < 2 * vN D (nd l j).cd) ∧
  ((c = 0 ∧ y = 4 ∧ least = l.length + 1 ∧ ∀ j, j < k → ¬ D.length < 2 * uN (par l) (lev l) D (nd l j).cd) ∨
   (y = 3 ∧ (∃ j0, j0 < l.length ∧ c = (nd l j0).cd) ∧ D.length < 2 * uN (par l) (lev l) D c ∧ least = cvd l c ∧ ∀ j, j < k → D.length < 2 * uN (par l) (lev l) D (nd l j).cd → cvd l c ≤ cvd l (nd l j).cd))
theorem rf_start (l : List Nd) (D : List Cg) : RfK l D 0 0 4 (l.length + 1) := ⟨fun j h => by omega, .inl ⟨rfl, rfl, rfl, fun j h => by omega⟩⟩
theorem rf_hit {l : List Nd} {D : List Cg} {k : Nat} {c y : Int} {least : Nat} (h : RfK l D k c y least) (hk : k < l.length) (hv : ¬ D.length < 2 * vN D (nd l k).cd) (hu : D.length < 2 * uN (par l) (lev l) D (nd l k).cd) (hc : cvd l (nd l k).cd < least) :
    RfK l D (k + 1) (nd l k).cd 3 (cvd l (nd l k).cd) := by
  refine ⟨fun j hj => ?_, .inr ⟨rfl, ⟨k, hk, rfl⟩, hu, rfl, fun j hj hju => ?_⟩⟩
  · by_cases e : j = k
    · rw [e]; exact hv
    · exact h.1 j (by omega)
  · by_cases e : j = k
    · rw [e]; exact Nat.le_refl _
    · rcases h.2 with ⟨_, _, _, g⟩ | ⟨_, _, _, g1, g2⟩
      · exact absurd hju (g j (by omega))
      · have := g2 j (by omega) hju; omega
theorem rf_miss {l : List Nd} {D : List Cg} {k : Nat} {c y : Int} {least : Nat} (h : RfK l D k c y least) (hv : ¬ D.length < 2 * vN D (nd l k).cd) (hu : ¬ (D.length < 2 * uN (par l) (lev l) D (nd l k).cd ∧ cvd l (nd l k).cd < least)) :
    RfK l D (k + 1) c y least := by
  refine ⟨fun j hj => ?_, ?_⟩
  · by_cases e : j = k
    · rw [e]; exact hv
    · exact h.1 j (by omega)
  · have hle : cvd l (nd l k).cd ≤ l.length := cn_le _ _
    rcases h.2 with ⟨g1, g2, g3, g4⟩ | ⟨g1, g2, g3, g4, g5⟩
    · refine .inl ⟨g1, g2, g3, fun j hj => ?_⟩
      by_cases e : j = k
      · rw [e]; exact fun q => hu ⟨q, by omega⟩
      · exact g4 j (by omega)
    · refine .inr ⟨g1, g2, g3, g4, fun j hj hju => ?_⟩
      by_cases e : j = k
      · rw [e] at hju ⊢
        have : ¬ cvd l (nd l k).cd < least := fun q => hu ⟨hju, q⟩
        omega
      · exact g5 j (by omega) hju
theorem nd_has {l : List Nd} (F : Fr l) {k : Nat} (hk : k < l.length) : ∃ d : Nat, (nd l k).cd = (d : Int) ∧ Has l d := by
  have := F.ord.rng k hk
  have e : (nd l k).cd = (((nd l k).cd.toNat : Nat) : Int) := by omega
  exact ⟨(nd l k).cd.toNat, e, k, hk, e⟩
/-- The deeper one of two codes on one path covers less. -/
theorem cvd_less {l : List Nd} (F : Fr l) {D : List Cg} (hD : HasD (Has l) D) {c s : Int} (hc : D.length < 2 * uN (par l) (lev l) D c) (hs : D.length < 2 * uN (par l) (lev l) D s) (hl : lev l c.toNat < lev l s.toNat) (hh : ∃ j0, j0 < l.length ∧ c = (nd l j0).cd) : cvd l s < cvd l c := by
  obtain ⟨x, i, j, hx, hi, hj, rfl, rfl⟩ := u_one F.tree hD hc hs
  rw [Int.toNat_natCast, Int.toNat_natCast, F.tree.lvIt hx, F.tree.lvIt hx] at hl
  have eit : it (par l) i x = it (par l) (i - j) (it (par l) j x) := by rw [← it_add, show j + (i - j) = i by omega]
  refine cn_less (fun n hn h => ?_) ?_
  · have h := of_decide_eq_true h
    obtain ⟨e, he, hhe⟩ := nd_has F hn
    rw [he, Int.toNat_natCast, pth_mem] at h
    obtain ⟨q, hq, e2⟩ := h
    have e2 : it (par l) q e = it (par l) j x := by omega
    have l1 := F.tree.lvIt (k := q) (c := e) (.inr hhe)
    rw [e2, F.tree.lvIt hx] at l1
    refine decide_eq_true ?_
    rw [he, Int.toNat_natCast, pth_mem]
    refine ⟨q + (i - j), by omega, ?_⟩
    rw [it_add, e2, ← eit]
  · obtain ⟨j0, hj0, e0⟩ := hh
    have hin : In (Has l) (it (par l) i x) := F.tree.inIt hx
    have hlv := F.tree.lvIt (k := i) hx
    refine ⟨j0, hj0, decide_eq_true ?_, fun h => ?_⟩
    · rw [← e0, Int.toNat_natCast, pth_mem]
      exact ⟨0, by omega, rfl⟩
    · have h := of_decide_eq_true h
      rw [← e0, Int.toNat_natCast, pth_mem] at h
      obtain ⟨q, hq, e2⟩ := h
      have e2 : it (par l) q (it (par l) i x) = it (par l) j x := by omega
      have l1 := F.tree.lvIt (k := q) hin
      rw [e2, F.tree.lvIt hx, hlv] at l1
      omega
/-- A code that codings are within is one of the nodes'. -/
theorem u_node {l : List Nd} (F : Fr l) {D : List Cg} (hD : HasD (Has l) D) {s : Int} (hs : D.length < 2 * uN (par l) (lev l) D s) : ∃ j, j < l.length ∧ s = (nd l j).cd := by
  obtain ⟨x, i, _, hx, hi, _, rfl, _⟩ := u_one F.tree hD hs hs
  have hin : In (Has l) (it (par l) i x) := F.tree.inIt hx
  have hlv := F.tree.lvIt (k := i) hx
  rcases hin with h | ⟨k, hk, e⟩
  · rw [h, F.tree.zero] at hlv; omega
  · exact ⟨k, hk, e.symm⟩
theorem rf_end {l : List Nd} (F : Fr l) {D : List Cg} (hD : HasD (Has l) D) {c y : Int} {least : Nat} (h : RfK l D l.length c y least) : IsFin (par l) (lev l) D c y := by
  have nov : ∀ s, ¬ D.length < 2 * vN D s := fun s hs => by
    have := v_u F.tree hD s
    obtain ⟨j, hj, e⟩ := u_node F hD (s := s) (by omega)
    rw [e] at hs
    exact h.1 j hj hs
  rcases h.2 with ⟨rfl, rfl, _, g⟩ | ⟨rfl, g1, g2, _, g3⟩
  · refine .inr (.inr (.inr ⟨rfl, rfl, fun s hs => ?_⟩))
    obtain ⟨j, hj, e⟩ := u_node F hD hs
    rw [e] at hs
    exact g j hj hs
  · refine .inr (.inr (.inl ⟨rfl, nov, g2, fun s hs => ?_⟩))
    obtain ⟨j, hj, e⟩ := u_node F hD hs
    by_cases hl : lev l c.toNat < lev l s.toNat
    · have h1 := cvd_less F hD g2 hs hl g1
      rw [e] at hs h1
      have := g3 j hj hs
      omega
    · omega
/-- The two boxes of final. -/
structure InRf (w wr : World) (r o : Nat) (a c y : Int) : Prop where
  br : B3 wr r (.int .i64 0) (.int .i64 0) (.int .i64 0)
  bo : B3 wr o (.int .i64 a) (.int .i64 c) (.int .i64 y)
  bel : Below w.heap.size w wr
  lo : w.heap.size ≤ r
  lt : r < o
theorem InRf.keep {w wr W : World} {r o : Nat} {a c y : Int} (h : InRf w wr r o a c y) (hb : Below wr.heap.size wr W) : InRf w W r o a c y :=
  ⟨h.br.keep hb, h.bo.keep hb, h.bel.trans (hb.mono h.bel.size), h.lo, h.lt⟩
theorem InRf.set {w wr : World} {r o : Nat} {a c y : Int} (h : InRf w wr r o a c y) (c' y' : Int) : InRf w ((wr.setCell ⟨o, 1, none⟩ (.int .i64 c')).setCell ⟨o, 2, none⟩ (.int .i64 y')) r o a c' y' := by
  have lo := h.lo
  have lt := h.lt
  have ne : o ≠ r := by omega
  have hne : ∀ {i j : Nat}, i ≠ j → (⟨o, i, none⟩ : Addr) ≠ ⟨o, j, none⟩ := fun h e => by injection e with _ e2; exact h e2
  refine ⟨⟨?_, ?_, ?_, fun q => by simp only [World.frozen?_setCell]; exact h.br.fr q, by simpa using h.br.lt⟩, ⟨?_, ?_, ?_, fun q => by simp only [World.frozen?_setCell]; exact h.bo.fr q, by simpa using h.bo.lt⟩, (h.bel.setCell (p := ⟨o, 1, none⟩) (by show _ ≤ o; omega) _).setCell (p := ⟨o, 2, none⟩) (by show _ ≤ o; omega) _, lo, lt⟩
  · rw [set_cell ne, set_cell ne]; exact h.br.c0
  · rw [set_cell ne, set_cell ne]; exact h.br.c1
  · rw [set_cell ne, set_cell ne]; exact h.br.c2
  · rw [World.cell?_setCell_other _ _ _ _ (hne (by decide)), World.cell?_setCell_other _ _ _ _ (hne (by decide))]; exact h.bo.c0
  · rw [World.cell?_setCell_other _ _ _ _ (hne (by decide)), World.cell?_setCell_same _ _ _ h.bo.c1]
  · rw [World.cell?_setCell_same _ _ _ (u := .int .i64 y) (by rw [World.cell?_setCell_other _ _ _ _ (hne (by decide))]; exact h.bo.c2)]
def RfP (l : List Nd) (D : List Cg) (w : World) (e : Ending) (w' : World) : Prop := ∃ c y : Int, e = .returned (.agg #[.int .i64 (cg D 0).ca, .int .i64 c, .int .i64 y]) ∧ IsFin (par l) (lev l) D c y ∧ Below w.heap.size w w'
/-- The result is stored, and loaded. -/
theorem InRf.res {w wr : World} {r o : Nat} {a c y : Int} (h : InRf w wr r o a c y) (x0 x1 x2 : Value) : B3 (three wr r x0 x1 x2) r x0 x1 x2 ∧ Below w.heap.size w (three wr r x0 x1 x2) := ⟨h.br.set _ _ _, below_three h.bel h.lo _ _ _⟩
end Go.Proofs.YthdmodmplpoejaaDoor
