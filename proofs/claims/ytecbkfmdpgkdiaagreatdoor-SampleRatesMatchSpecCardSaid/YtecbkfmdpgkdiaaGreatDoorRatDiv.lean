/-
  Divide of package whole, at numbers of one limb from 0 on.
-/
import Derived.Test.YtecbkfmdpgkdiaaGreatDoorRatOver
import Derived.RegionTactic
import Derived.BigRegion
import Derived.Outline
import Derived.Deep.RegionHeld3
namespace Go.Proofs.YtecbkfmdpgkdiaaGreatDoor
open Go.RowKit

/-- A store into a cell that holds no limb. -/
theorem Lm.set {w : World} {a : Option Addr} {k n : Nat} (h : Lm w a k n) {p : Addr} {u : Value} (hu : w.cell? p = some u) (hne : ∀ m, u ≠ .int .u64 m) (x : Value) : Lm (w.setCell p x) a k n := by
  rcases h with h | ⟨h1, h2, h3, b, off, e, hl, hc⟩
  · exact .inl h
  · refine .inr ⟨h1, h2, h3, b, off, e, by simpa using hl, ?_⟩
    rw [World.cell?_setCell_other _ _ _ _ (by intro e; subst e; rw [hc] at hu; injection hu with hu; exact hne _ hu.symm)]
    exact hc
def held (W : World) (a : Addr) : Value := (W.cell? a).getD undef
theorem held_of {W : World} {a : Addr} (h : (W.cell? a).isSome = true) : W.cell? a = some (held W a) := by
  obtain ⟨v, hv⟩ := Option.isSome_iff_exists.1 h
  unfold held; rw [hv]; rfl
/-- A cell that is there and holds no limb. -/
def NoLimb (W : World) (p : Addr) : Prop := ∃ u, W.cell? p = some u ∧ ∀ m, u ≠ .int .u64 m
theorem NoLimb.set {W : World} {p : Addr} (h : NoLimb W p) {q : Addr} (hq : NoLimb W q) {x : Value} (hx : ∀ m, x ≠ .int .u64 m) : NoLimb (W.setCell q x) p := by
  obtain ⟨u, hu, hn⟩ := h
  by_cases e : q = p
  · subst e; exact ⟨x, World.cell?_setCell_same _ _ _ hu, hx⟩
  · exact ⟨u, by rw [World.cell?_setCell_other _ _ _ _ e]; exact hu, hn⟩
/-- What the four boxes of Divide are beside: quotient and rest, and the boxes of the results. -/
structure DvH (w : World) (a : Option Addr) (k : Nat) (b : Option Addr) (m q r : Nat) (W : World) : Prop where
  f0 : W.cell? ⟨w.heap.size, 0, none⟩ = some (.bool false)
  f1 : W.cell? ⟨w.heap.size + 1, 0, none⟩ = some (.bool false)
  n20 : NoLimb W ⟨w.heap.size + 1 + 1, 0, none⟩
  n21 : NoLimb W ⟨w.heap.size + 1 + 1, 1, none⟩
  n30 : NoLimb W ⟨w.heap.size + 1 + 1 + 1, 0, none⟩
  n31 : NoLimb W ⟨w.heap.size + 1 + 1 + 1, 1, none⟩
  fr : ∀ g o, (g = w.heap.size + 1 + 1 ∨ g = w.heap.size + 1 + 1 + 1) → W.frozen? ⟨g, o, none⟩ = false
  la : Lm W a k q
  lb : Lm W b m r
  bel : Below w.heap.size w W
  size : w.heap.size + 4 ≤ W.heap.size
def Dv (w : World) (a : Option Addr) (k : Nat) (b : Option Addr) (m q r : Nat) (W : World) : Prop :=
  W.cell? ⟨w.heap.size, 0, none⟩ = some (.bool false) ∧ W.cell? ⟨w.heap.size + 1, 0, none⟩ = some (.bool false) ∧ W.cell? ⟨w.heap.size + 1 + 1, 0, none⟩ = some (held W ⟨w.heap.size + 1 + 1, 0, none⟩) ∧ W.cell? ⟨w.heap.size + 1 + 1, 1, none⟩ = some (held W ⟨w.heap.size + 1 + 1, 1, none⟩) ∧ W.cell? ⟨w.heap.size + 1 + 1 + 1, 0, none⟩ = some (held W ⟨w.heap.size + 1 + 1 + 1, 0, none⟩) ∧ W.cell? ⟨w.heap.size + 1 + 1 + 1, 1, none⟩ = some (held W ⟨w.heap.size + 1 + 1 + 1, 1, none⟩) ∧ W.frozen? ⟨w.heap.size + 1 + 1, 0, none⟩ = false ∧ W.frozen? ⟨w.heap.size + 1 + 1, 1, none⟩ = false ∧ W.frozen? ⟨w.heap.size + 1 + 1 + 1, 0, none⟩ = false ∧ W.frozen? ⟨w.heap.size + 1 + 1 + 1, 1, none⟩ = false ∧ Hid (DvH w a k b m q r W)
theorem DvH.dv {w W : World} {a b : Option Addr} {k m q r : Nat} (h : DvH w a k b m q r W) : Dv w a k b m q r W := by
  obtain ⟨u0, e0, _⟩ := h.n20
  obtain ⟨u1, e1, _⟩ := h.n21
  obtain ⟨u2, e2, _⟩ := h.n30
  obtain ⟨u3, e3, _⟩ := h.n31
  exact ⟨h.f0, h.f1, held_of (by rw [e0]; rfl), held_of (by rw [e1]; rfl), held_of (by rw [e2]; rfl), held_of (by rw [e3]; rfl), h.fr _ _ (.inl rfl), h.fr _ _ (.inl rfl), h.fr _ _ (.inr rfl), h.fr _ _ (.inr rfl), h⟩
theorem Dv.h {w W : World} {a b : Option Addr} {k m q r : Nat} (h : Dv w a k b m q r W) : DvH w a k b m q r W := h.2.2.2.2.2.2.2.2.2.2.out
theorem NoLimb.below {w W W' : World} {g o : Nat} (h : NoLimb W ⟨g, o, none⟩) (hb : Below W.heap.size W W') (hg : g < W.heap.size) : NoLimb W' ⟨g, o, none⟩ := by
  obtain ⟨u, hu, hn⟩ := h
  exact ⟨u, by rw [hb.cell (p := ⟨g, o, none⟩) hg]; exact hu, hn⟩
theorem DvH.keep {w W W' : World} {a b : Option Addr} {k m q r : Nat} (h : DvH w a k b m q r W) (hb : Below W.heap.size W W') : DvH w a k b m q r W' := by
  have s := h.size
  have f := fun (g o : Nat) (hg : g < W.heap.size) => hb.cell (p := ⟨g, o, none⟩) hg
  exact ⟨by rw [f _ _ (by omega)]; exact h.f0, by rw [f _ _ (by omega)]; exact h.f1, h.n20.below (w := w) hb (by omega), h.n21.below (w := w) hb (by omega), h.n30.below (w := w) hb (by omega), h.n31.below (w := w) hb (by omega),
    fun g o hg => by rw [hb.frozen (p := ⟨g, o, none⟩) (show g < _ by omega)]; exact h.fr g o hg, h.la.below hb, h.lb.below hb, h.bel.trans (hb.mono h.bel.size), Nat.le_trans s hb.size⟩
theorem DvH.set {w W : World} {a b : Option Addr} {k m q r : Nat} (h : DvH w a k b m q r W) {g o : Nat} (hg : g = w.heap.size + 1 + 1 ∨ g = w.heap.size + 1 + 1 + 1) (hp : NoLimb W ⟨g, o, none⟩) {x : Value} (hx : ∀ m, x ≠ .int .u64 m) :
    DvH w a k b m q r (W.setCell ⟨g, o, none⟩ x) := by
  obtain ⟨u, hu, hn⟩ := hp
  exact ⟨by rw [World.cell?_setCell_other _ _ _ _ (by intro e; injection e with e1 _; omega)]; exact h.f0, by rw [World.cell?_setCell_other _ _ _ _ (by intro e; injection e with e1 _; omega)]; exact h.f1, h.n20.set ⟨u, hu, hn⟩ hx, h.n21.set ⟨u, hu, hn⟩ hx, h.n30.set ⟨u, hu, hn⟩ hx, h.n31.set ⟨u, hu, hn⟩ hx,
    fun g o hg => by rw [World.frozen?_setCell]; exact h.fr g o hg, h.la.set hu hn x, h.lb.set hu hn x, h.bel.setCell (p := ⟨g, o, none⟩) (show w.heap.size ≤ g by omega) _, by simpa using h.size⟩
theorem Dv.keep {w W W' : World} {a b : Option Addr} {k m q r : Nat} (h : Dv w a k b m q r W) (hb : Below W.heap.size W W') : Dv w a k b m q r W' := (h.h.keep hb).dv
/-- Both cells of a result are stored. -/
theorem Dv.set2 {w W : World} {a b : Option Addr} {k m q r : Nat} (h : Dv w a k b m q r W) (x : Bool) (y : Option Addr) (n c : Nat) : Dv w a k b m q r ((W.setCell ⟨w.heap.size + 1 + 1, 0, none⟩ (.bool x)).setCell ⟨w.heap.size + 1 + 1, 1, none⟩ (.slice y n c)) := by
  have h1 := h.h.set (.inl rfl) h.h.n20 (x := .bool x) (fun m e => by cases e)
  exact (h1.set (.inl rfl) h1.n21 (x := .slice y n c) (fun m e => by cases e)).dv
theorem Dv.set3 {w W : World} {a b : Option Addr} {k m q r : Nat} (h : Dv w a k b m q r W) (x : Bool) (y : Option Addr) (n c : Nat) : Dv w a k b m q r ((W.setCell ⟨w.heap.size + 1 + 1 + 1, 0, none⟩ (.bool x)).setCell ⟨w.heap.size + 1 + 1 + 1, 1, none⟩ (.slice y n c)) := by
  have h1 := h.h.set (.inr rfl) h.h.n30 (x := .bool x) (fun m e => by cases e)
  exact (h1.set (.inr rfl) h1.n31 (x := .slice y n c) (fun m e => by cases e)).dv
theorem sign_dv (y : Option Addr) (n c : Nat) (w W : World) (a b : Option Addr) (k m q r : Nat) (hS : Dv w a k b m q r W) :
    Calls Tryz.prog 68 #[.bool false, .slice y n c] W fun e w' => e = .returned (.agg #[.bool false, .slice y n c]) ∧ Dv w a k b m q r w' :=
  (withSign_c y n c W).mono fun e w' ⟨he, hb⟩ => ⟨he, hS.keep hb⟩
set_option maxHeartbeats 8000000 in
theorem Divide_c (a1 a2 : Option Addr) (c1 c2 k1 k2 n d : Nat) (w : World) (h1 : Lm w a1 k1 n) (h2 : Lm w a2 k2 d) (hd : 0 < d) :
    Calls Tryz.prog 51 #[.agg #[.bool false, .slice a1 k1 c1], .agg #[.bool false, .slice a2 k2 c2]] w fun e w' => ∃ a k c b m e2, e = .returned (.tuple #[.agg #[.bool false, .slice a k c], .agg #[.bool false, .slice b m e2]]) ∧ Lm w' a k (n / d) ∧ Lm w' b m (n % d) ∧ Below w.heap.size w w' := by
  have H1 := Lib.hid h1
  have H2 := Lib.hid h2
  have HD := Lib.hid hd
  clear h1 h2 hd
  go_enter Tryz.func51, Tryz.ntmps51
  go_wp2_with fail
  obtain ⟨W0, hW0⟩ : ∃ W0, W0 = (((w.alloc (.cells #[.bool false, .slice a1 k1 c1] 63)).alloc (.cells #[.bool false, .slice a2 k2 c2] 63)).alloc (.cells #[.bool false, .slice none 0 0] 63)).alloc (.cells #[.bool false, .slice none 0 0] 63) := ⟨_, rfl⟩
  rw [← hW0]
  have D0 : Hid (DvH w none 0 none 0 0 0 W0) := by
    rw [hW0]
    refine ⟨by simp [go_sem, World.cell?_alloc_past], by simp [go_sem, World.cell?_alloc_past], ⟨.bool false, by simp [go_sem, World.cell?_alloc_past], fun m h => by cases h⟩, ⟨.slice none 0 0, by simp [go_sem, World.cell?_alloc_past], fun m h => by cases h⟩, ⟨.bool false, by simp [go_sem, World.cell?_alloc_past], fun m h => by cases h⟩, ⟨.slice none 0 0, by simp [go_sem, World.cell?_alloc_past], fun m h => by cases h⟩, fun b o hb => ?_, Lm.zero _ _, Lm.zero _ _, ((((Below.refl _ _).alloc (Nat.le_refl _) _).alloc (by simp) _).alloc (by simp; omega) _).alloc (by simp; omega) _, by simp⟩
    rcases hb with rfl | rfl <;> simp [go_sem]
  clear hW0
  refine (divide_c a1 a2 c1 c2 k1 k2 n d W0 (H1.out.below D0.out.bel) (H2.out.below D0.out.bel) HD.out).mono ?_
  rintro e w2 ⟨a, k, c, b, m, e2, rfl, l1, l2, b2⟩
  have D2 := D0.out.keep b2
  have hS : Dv w a k b m (n / d) (n % d) w2 := (DvH.mk D2.f0 D2.f1 D2.n20 D2.n21 D2.n30 D2.n31 D2.fr l1 l2 D2.bel D2.size).dv
  clear l1 l2 b2 D0 D2
  obtain ⟨q, hq⟩ : ∃ q, q = n / d := ⟨_, rfl⟩
  obtain ⟨r, hr⟩ : ∃ r, r = n % d := ⟨_, rfl⟩
  rw [← hq, ← hr] at hS
  have HQ := Lib.hid hq
  have HR := Lib.hid hr
  clear hq hr
  go_wp2_with fail
  refine wp_region_noPanic ?_
  refine wp_region_held_drew (S := Dv w a k b m q r) (by kernel_rfl) (hS.keep (Below.refl _ _).drew) (fun hHeld => ?_)
  refine wpAnyH_take (i := 0) (v := ?v0) rfl (by kernel_rfl) (by kernel_rfl) (by kernel_rfl) (fun _ _ _ h => h) (Or.inl ⟨by rfl, ?hy0⟩) (by assumption) ?rest0
  case hy0 =>
    intro w hSw
    dsimp only [Dv] at hSw
    go_simp
    try with_reducible rfl
  simp only [Act.put, List.getElem_toArray, List.getElem_cons_succ, List.getElem_cons_zero, List.setIfInBounds_toArray, List.set_cons_zero, List.set_cons_succ]
  refine wpAnyH_take (i := 1) (v := ?v1) rfl (by kernel_rfl) (by kernel_rfl) (by kernel_rfl) (fun _ _ _ h => h) (Or.inl ⟨by rfl, ?hy1⟩) (by assumption) ?rest1
  case hy1 =>
    intro w hSw
    dsimp only [Dv] at hSw
    go_simp
    try with_reducible rfl
  simp only [Act.put, List.getElem_toArray, List.getElem_cons_succ, List.getElem_cons_zero, List.setIfInBounds_toArray, List.set_cons_zero, List.set_cons_succ]
  refine wpAnyH_take (i := 2) (v := ?v2) rfl (by kernel_rfl) (by kernel_rfl) (by kernel_rfl) (fun _ _ _ h => h) (Or.inl ⟨by rfl, ?hy2⟩) (by assumption) ?rest2
  case hy2 =>
    intro w hSw
    dsimp only [Dv] at hSw
    go_simp
    try with_reducible rfl
  simp only [Act.put, List.getElem_toArray, List.getElem_cons_succ, List.getElem_cons_zero, List.setIfInBounds_toArray, List.set_cons_zero, List.set_cons_succ]
  refine wpAnyH_take (i := 3) (v := ?v3) rfl (by kernel_rfl) (by kernel_rfl) (by kernel_rfl) (fun _ _ _ h => h) (Or.inl ⟨by rfl, ?hy3⟩) (by assumption) ?rest3
  case hy3 =>
    intro w hSw
    dsimp only [Dv] at hSw
    go_simp
    try with_reducible rfl
  simp only [Act.put, List.getElem_toArray, List.getElem_cons_succ, List.getElem_cons_zero, List.setIfInBounds_toArray, List.set_cons_zero, List.set_cons_succ]
  refine wpAnyH_take (i := 4) (v := ?v4) rfl (by kernel_rfl) (by kernel_rfl) (by kernel_rfl) (fun _ _ _ h => h) (Or.inl ⟨by rfl, ?hy4⟩) (by assumption) ?rest4
  case hy4 =>
    intro w hSw
    dsimp only [Dv] at hSw
    go_simp
    try with_reducible rfl
  simp only [Act.put, List.getElem_toArray, List.getElem_cons_succ, List.getElem_cons_zero, List.setIfInBounds_toArray, List.set_cons_zero, List.set_cons_succ]
  refine wpAnyH_take (i := 5) (v := ?v5) rfl (by kernel_rfl) (by kernel_rfl) (by kernel_rfl) (fun _ _ _ h => h) (Or.inl ⟨by rfl, ?hy5⟩) (by assumption) ?rest5
  case hy5 =>
    intro w hSw
    dsimp only [Dv] at hSw
    go_simp
    try with_reducible rfl
  simp only [Act.put, List.getElem_toArray, List.getElem_cons_succ, List.getElem_cons_zero, List.setIfInBounds_toArray, List.set_cons_zero, List.set_cons_succ]
  refine wpAnyH_take (i := 7) (v := ?v7) rfl (by kernel_rfl) (by kernel_rfl) (by kernel_rfl) (fun _ _ _ h => h) (Or.inl ⟨by rfl, ?hy7⟩) (by assumption) ?rest7
  case hy7 =>
    intro w hSw
    dsimp only [Dv] at hSw
    go_simp
    try with_reducible rfl
  simp only [Act.put, List.getElem_toArray, List.getElem_cons_succ, List.getElem_cons_zero, List.setIfInBounds_toArray, List.set_cons_zero, List.set_cons_succ]
  refine wpAnyH_take (i := 8) (v := ?v8) rfl (by kernel_rfl) (by kernel_rfl) (by kernel_rfl) (fun _ _ _ h => h) (Or.inl ⟨by rfl, ?hy8⟩) (by assumption) ?rest8
  case hy8 =>
    intro w hSw
    dsimp only [Dv] at hSw
    go_simp
    try with_reducible rfl
  simp only [Act.put, List.getElem_toArray, List.getElem_cons_succ, List.getElem_cons_zero, List.setIfInBounds_toArray, List.set_cons_zero, List.set_cons_succ]
  refine wpAnyH_take (i := 9) (v := ?v9) rfl (by kernel_rfl) (by kernel_rfl) (by kernel_rfl) (fun _ _ _ h => h) (Or.inl ⟨by rfl, ?hy9⟩) (by assumption) ?rest9
  case hy9 =>
    intro w hSw
    dsimp only [Dv] at hSw
    go_simp
    try with_reducible rfl
  simp only [Act.put, List.getElem_toArray, List.getElem_cons_succ, List.getElem_cons_zero, List.setIfInBounds_toArray, List.set_cons_zero, List.set_cons_succ]
  refine wpAnyH_ready (rs := [6]) (by kernel_rfl) (by simp) ?_
  refine AllReadyH.cons rfl (fun K hK => ?_) AllReadyH.nil
  go_simp
  refine (sign_dv a k c w _ a b k m q r hHeld).mono ?_
  rintro e w6 ⟨rfl, hH6⟩
  try go_simp
  refine hK.out _ _ hH6 (fun _ => ?_)
  clear hK K hHeld
  try simp only [Act.put, List.setIfInBounds_toArray, List.set_cons_zero, List.set_cons_succ]
  refine wpAnyH_ready (rs := [10]) (by kernel_rfl) (by simp) ?_
  refine AllReadyH.cons rfl (fun K hK => ?_) AllReadyH.nil
  go_simp
  refine (sign_dv b m e2 w _ a b k m q r hH6).mono ?_
  rintro e w10 ⟨rfl, hH10⟩
  try go_simp
  refine hK.out _ _ hH10 (fun _ => ?_)
  clear hK K hH6
  try simp only [Act.put, List.setIfInBounds_toArray, List.set_cons_zero, List.set_cons_succ]
  refine wpAnyH_ready (rs := [11]) (by kernel_rfl) (by simp) ?_
  refine AllReadyH.cons rfl (fun K hK => ?_) AllReadyH.nil
  have hX := hH10
  dsimp only [Dv] at hX
  go_simp
  clear hX
  refine hK.out _ _ (hH10.set2 false a k c) (fun _ => ?_)
  clear hK K
  try simp only [Act.put, List.setIfInBounds_toArray, List.set_cons_zero, List.set_cons_succ]
  have hH11 := hH10.set2 false a k c
  have C0 := Lib.hid (two_cells (x := .bool false) (y := .slice a k c) hH10.2.2.1 hH10.2.2.2.1).1
  have C1 := Lib.hid (two_cells (x := .bool false) (y := .slice a k c) hH10.2.2.1 hH10.2.2.2.1).2
  generalize (w10.setCell ⟨w.heap.size + 1 + 1, 0, none⟩ (.bool false)).setCell ⟨w.heap.size + 1 + 1, 1, none⟩ (.slice a k c) = w11 at *
  refine wpAnyH_ready (rs := [12]) (by kernel_rfl) (by simp) ?_
  refine AllReadyH.cons rfl (fun K hK => ?_) AllReadyH.nil
  have hX := hH11
  dsimp only [Dv] at hX
  go_simp
  clear hX
  refine hK.out _ _ (hH11.set3 false b m e2) (fun _ => ?_)
  clear hK K
  try simp only [Act.put, List.setIfInBounds_toArray, List.set_cons_zero, List.set_cons_succ]
  have hH12 := hH11.set3 false b m e2
  have E0 := Lib.hid (two_cells (x := .bool false) (y := .slice b m e2) hH11.2.2.2.2.1 hH11.2.2.2.2.2.1).1
  have E1 := Lib.hid (two_cells (x := .bool false) (y := .slice b m e2) hH11.2.2.2.2.1 hH11.2.2.2.2.2.1).2
  have F0 : Hid (((w11.setCell ⟨w.heap.size + 1 + 1 + 1, 0, none⟩ (.bool false)).setCell ⟨w.heap.size + 1 + 1 + 1, 1, none⟩ (.slice b m e2)).cell? ⟨w.heap.size + 1 + 1, 0, none⟩ = some (.bool false)) := by
    unfold Hid
    rw [World.cell?_setCell_other _ _ _ _ (by intro e; injection e with e1 _; omega), World.cell?_setCell_other _ _ _ _ (by intro e; injection e with e1 _; omega)]
    exact C0.out
  have F1 : Hid (((w11.setCell ⟨w.heap.size + 1 + 1 + 1, 0, none⟩ (.bool false)).setCell ⟨w.heap.size + 1 + 1 + 1, 1, none⟩ (.slice b m e2)).cell? ⟨w.heap.size + 1 + 1, 1, none⟩ = some (.slice a k c)) := by
    unfold Hid
    rw [World.cell?_setCell_other _ _ _ _ (by intro e; injection e with e1 _; omega), World.cell?_setCell_other _ _ _ _ (by intro e; injection e with e1 _; omega)]
    exact C1.out
  generalize (w11.setCell ⟨w.heap.size + 1 + 1 + 1, 0, none⟩ (.bool false)).setCell ⟨w.heap.size + 1 + 1 + 1, 1, none⟩ (.slice b m e2) = w12 at *
  refine wpAnyH_done (by kernel_rfl) ?_ _
  refine NoPanic.normal ?_
  clear hH10 hH11 hS
  go_wp2
  have c0 := E0.out
  have c1 := E1.out
  have c2 := F0.out
  have c3 := F1.out
  exact bodyPost_ret (v := .tuple #[.agg #[.bool false, .slice a k c], .agg #[.bool false, .slice b m e2]]) (by simp [results, Tryz.results51, go_sem, c0, c1, c2, c3]) rfl ⟨a, k, c, b, m, e2, rfl, by rw [← HQ.out]; exact hH12.h.la, by rw [← HR.out]; exact hH12.h.lb, hH12.h.bel⟩
end Go.Proofs.YtecbkfmdpgkdiaaGreatDoor
