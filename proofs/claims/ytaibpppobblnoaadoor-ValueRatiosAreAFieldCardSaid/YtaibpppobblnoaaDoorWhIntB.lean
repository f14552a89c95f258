/-
  Whole numbers of any size: what they are in memory, signs, boxes.
-/
import Derived.Test.YtaibpppobblnoaaDoorWhGcd
namespace Go.Proofs.YtaibpppobblnoaaDoor
open Go.RowKit

/-- A number with its sign. -/
def zv (b : Bool) (n : Nat) : Int := if b then -(n : Int) else n
theorem zv_false (n : Nat) : zv false n = n := rfl
theorem zv_true (n : Nat) : zv true n = -(n : Int) := rfl
theorem zv_abs (b : Bool) (n : Nat) : (zv b n).natAbs = n := by cases b <;> simp [zv]
def Zn (W : World) (b : Bool) (a : Option Addr) (k c : Nat) (z : Int) : Prop := ∃ n, Nm W a k c n ∧ (b = true → 0 < n) ∧ z = zv b n
theorem Zn.below {W W' : World} {b : Bool} {a : Option Addr} {k c : Nat} {z : Int} (h : Zn W b a k c z) (hb : Below W.heap.size W W') : Zn W' b a k c z := by
  obtain ⟨n, h1, h2⟩ := h
  exact ⟨n, h1.below hb, h2⟩
theorem Zn.nm {W : World} {b : Bool} {a : Option Addr} {k c : Nat} {z : Int} (h : Zn W b a k c z) : Nm W a k c z.natAbs := by
  obtain ⟨n, h1, _, rfl⟩ := h
  rw [zv_abs]; exact h1
theorem Zn.sign {W : World} {b : Bool} {a : Option Addr} {k c : Nat} {z : Int} (h : Zn W b a k c z) : b = decide (z < 0) := by
  obtain ⟨n, _, h2, rfl⟩ := h
  cases b
  · rw [zv_false]; simp
  · have := h2 rfl
    rw [zv_true]; simp; omega
theorem Zn.zv {W : World} {b : Bool} {a : Option Addr} {k c : Nat} {z : Int} (h : Zn W b a k c z) : z = zv b z.natAbs := by
  obtain ⟨n, _, _, rfl⟩ := h
  rw [zv_abs]
def ZPost (z : Int) (w : World) (e : Ending) (w' : World) : Prop := ∃ b a k c, e = .returned (.agg #[.bool b, .slice a k c]) ∧ Zn w' b a k c z ∧ Below w.heap.size w w'
/-- A box of two cells. -/
structure B2 (W : World) (g : Nat) (x0 x1 : Value) : Prop where
  c0 : W.cell? ⟨g, 0, none⟩ = some x0
  c1 : W.cell? ⟨g, 1, none⟩ = some x1
  fr : ∀ o, W.frozen? ⟨g, o, none⟩ = false
  lt : g < W.heap.size
theorem B2.keep {W W' : World} {g : Nat} {x0 x1 : Value} (h : B2 W g x0 x1) (hb : Below W.heap.size W W') : B2 W' g x0 x1 :=
  ⟨(hb.cell (p := ⟨g, 0, none⟩) h.lt).trans h.c0, (hb.cell (p := ⟨g, 1, none⟩) h.lt).trans h.c1, fun o => (hb.frozen (p := ⟨g, o, none⟩) h.lt).trans (h.fr o), Nat.lt_of_lt_of_le h.lt hb.size⟩
theorem B2.made (W : World) (x0 x1 : Value) (T : TypeId) : B2 (W.alloc (.cells #[x0, x1] T)) W.heap.size x0 x1 := by
  refine ⟨?_, ?_, fun o => by simp, by simp⟩
  all_goals (rw [World.cell?_alloc_new]; rfl)
/-- Both cells are stored. -/
def two (W : World) (g : Nat) (y0 y1 : Value) : World := (W.setCell ⟨g, 0, none⟩ y0).setCell ⟨g, 1, none⟩ y1
theorem two_size (W : World) (g : Nat) (y0 y1 : Value) : (two W g y0 y1).heap.size = W.heap.size := by unfold two; simp
theorem B2.set {W : World} {g : Nat} {x0 x1 : Value} (h : B2 W g x0 x1) (y0 y1 : Value) : B2 (two W g y0 y1) g y0 y1 := by
  have hne : ∀ {i j : Nat}, i ≠ j → (⟨g, i, none⟩ : Addr) ≠ ⟨g, j, none⟩ := fun h e => by injection e with _ e2; exact h e2
  unfold two
  refine ⟨?_, ?_, fun o => by simp only [World.frozen?_setCell]; exact h.fr o, by simpa using h.lt⟩
  · rw [World.cell?_setCell_other _ _ _ _ (hne (by decide)), World.cell?_setCell_same _ _ _ h.c0]
  · rw [World.cell?_setCell_same _ _ _ (u := x1) (by rw [World.cell?_setCell_other _ _ _ _ (hne (by decide))]; exact h.c1)]
theorem B2.other {W : World} {g h : Nat} {x0 x1 : Value} (hb : B2 W g x0 x1) (hne : h ≠ g) (y0 y1 : Value) : B2 (two W h y0 y1) g x0 x1 := by
  have hne' : ∀ {i j : Nat}, (⟨h, i, none⟩ : Addr) ≠ ⟨g, j, none⟩ := fun e => by injection e with e1 _; exact hne e1
  have e : ∀ o, (two W h y0 y1).cell? ⟨g, o, none⟩ = W.cell? ⟨g, o, none⟩ := fun o => by
    unfold two
    rw [World.cell?_setCell_other _ _ _ _ hne', World.cell?_setCell_other _ _ _ _ hne']
  exact ⟨(e 0).trans hb.c0, (e 1).trans hb.c1, fun o => by unfold two; simp only [World.frozen?_setCell]; exact hb.fr o, by rw [two_size]; exact hb.lt⟩
theorem below_two {W0 W : World} {g : Nat} (h : Below W0.heap.size W0 W) (hg : W0.heap.size ≤ g) (y0 y1 : Value) : Below W0.heap.size W0 (two W g y0 y1) :=
  (h.setCell (p := ⟨g, 0, none⟩) hg y0).setCell (p := ⟨g, 1, none⟩) hg y1
/-- A store into boxes changes no number that lies elsewhere. -/
theorem Nm.set {W : World} {a : Option Addr} {k c n : Nat} (h : Nm W a k c n) {p : Addr} {u : Value} (hu : W.cell? p = some u) (hne : ∀ m, u ≠ .int .u64 m) (x : Value) : Nm (W.setCell p x) a k c n := by
  obtain ⟨f, h1, h2⟩ := h
  refine ⟨f, ⟨h1.1, h1.2.1, fun h0 => ?_⟩, h2⟩
  obtain ⟨b, off, e, hl, hc⟩ := h1.2.2 h0
  refine ⟨b, off, e, by simpa using hl, fun j hj => ?_⟩
  rw [World.cell?_setCell_other _ _ _ _ (by intro e; rw [e, hc j hj] at hu; injection hu with hu; exact hne _ hu.symm)]
  exact hc j hj
theorem Nm.set2 {W : World} {a : Option Addr} {k c n : Nat} (h : Nm W a k c n) {g : Nat} {s : Bool} {pa : Option Addr} {kk cc : Nat} (hb : B2 W g (.bool s) (.slice pa kk cc)) (y0 y1 : Value) : Nm (two W g y0 y1) a k c n := by
  unfold two
  refine (h.set hb.c0 (fun m e => by cases e) y0).set (u := .slice pa kk cc) ?_ (fun m e => by cases e) y1
  rw [World.cell?_setCell_other _ _ _ _ (by intro e; injection e with _ e2; cases e2)]
  exact hb.c1
theorem Zn.set2 {W : World} {b : Bool} {a : Option Addr} {k c : Nat} {z : Int} (h : Zn W b a k c z) {g : Nat} {s : Bool} {pa : Option Addr} {kk cc : Nat} (hb : B2 W g (.bool s) (.slice pa kk cc)) (y0 y1 : Value) : Zn (two W g y0 y1) b a k c z := by
  obtain ⟨n, h1, h2⟩ := h
  exact ⟨n, h1.set2 hb y0 y1, h2⟩
/-- Two boxes of arguments, and the box of a result. -/
structure I3 (w : World) (b1 : Bool) (a1 : Option Addr) (k1 c1 : Nat) (b2 : Bool) (a2 : Option Addr) (k2 c2 : Nat) (W : World) : Prop where
  x : B2 W w.heap.size (.bool b1) (.slice a1 k1 c1)
  y : B2 W (w.heap.size + 1) (.bool b2) (.slice a2 k2 c2)
  r : B2 W (w.heap.size + 1 + 1) (.bool false) (.slice none 0 0)
  bel : Below w.heap.size w W
theorem I3.keep {w : World} {b1 : Bool} {a1 : Option Addr} {k1 c1 : Nat} {b2 : Bool} {a2 : Option Addr} {k2 c2 : Nat} {W W' : World} (h : I3 w b1 a1 k1 c1 b2 a2 k2 c2 W) (hb : Below W.heap.size W W') : I3 w b1 a1 k1 c1 b2 a2 k2 c2 W' :=
  ⟨h.x.keep hb, h.y.keep hb, h.r.keep hb, h.bel.trans (hb.mono h.bel.size)⟩
theorem I3.made (w : World) (b1 : Bool) (a1 : Option Addr) (k1 c1 : Nat) (b2 : Bool) (a2 : Option Addr) (k2 c2 : Nat) (T1 T2 T3 : TypeId) :
    I3 w b1 a1 k1 c1 b2 a2 k2 c2 (((w.alloc (.cells #[.bool b1, .slice a1 k1 c1] T1)).alloc (.cells #[.bool b2, .slice a2 k2 c2] T2)).alloc (.cells #[.bool false, .slice none 0 0] T3)) := by
  have s1 : (w.alloc (.cells #[.bool b1, .slice a1 k1 c1] T1)).heap.size = w.heap.size + 1 := by simp
  have s2 : ((w.alloc (.cells #[.bool b1, .slice a1 k1 c1] T1)).alloc (.cells #[.bool b2, .slice a2 k2 c2] T2)).heap.size = w.heap.size + 1 + 1 := by simp
  refine ⟨((B2.made w _ _ T1).keep (bel_one _ _)).keep (bel_one _ _), ?_, ?_, ?_⟩
  · rw [← s1]; exact (B2.made _ _ _ T2).keep (bel_one _ _)
  · rw [← s2]; exact B2.made _ _ _ T3
  · exact (((Below.refl _ _).alloc (Nat.le_refl _) _).alloc (by simp) _).alloc (by simp; omega) _
set_option maxHeartbeats 1000000 in
theorem withSign_c (b : Bool) (a : Option Addr) (k c n : Nat) (w : World) (h : Nm w a k c n) :
    Calls Tryd.prog 33 #[.bool b, .slice a k c] w fun e w' => ∃ b', e = .returned (.agg #[.bool b', .slice a k c]) ∧ Zn w' b' a k c (zv b n) ∧ Below w.heap.size w w' := by
  have H := Lib.hid h
  obtain ⟨W0, hW0⟩ : ∃ W0, w.alloc (.cells #[.bool false, .slice none 0 0] 37) = W0 := ⟨_, rfl⟩
  have X0 : B2 W0 w.heap.size (.bool false) (.slice none 0 0) := by rw [← hW0]; exact B2.made _ _ _ _
  have B0 : Below w.heap.size w W0 := by rw [← hW0]; exact bel_one _ _
  obtain ⟨b', hb'⟩ : ∃ b', (b && decide (0 < k)) = b' := ⟨_, rfl⟩
  obtain ⟨W1, hW1⟩ : ∃ W1, two W0 w.heap.size (.bool b') (.slice a k c) = W1 := ⟨_, rfl⟩
  have R1 : B2 W1 w.heap.size (.bool b') (.slice a k c) := by rw [← hW1]; exact X0.set _ _
  have PP : Hid (Zn W1 b' a k c (zv b n) ∧ Below w.heap.size w W1) := by
    have hb1 : Below w.heap.size w W1 := by rw [← hW1]; exact below_two B0 (Nat.le_refl _) _ _
    refine ⟨⟨n, h.below hb1, fun e => ?_, ?_⟩, hb1⟩
    · subst hb'
      simp at e
      have := h.pos e.2
      have := bp_pos (k - 1)
      omega
    · subst hb'
      rcases Nat.eq_zero_or_pos k with e | e
      · have hn : n = 0 := by have := h.lt; rw [e, bp_zero] at this; omega
        subst hn
        cases b <;> simp [zv, e]
      · cases b <;> simp [zv, e]
  obtain ⟨x0, x1, xf, _⟩ := id X0
  obtain ⟨r0, r1, _, _⟩ := id R1
  have f0 := xf 0
  have f1 := xf 1
  clear xf X0 B0 R1 h
  unfold two at hW1
  cases b
  · have hb2 : b' = false := by rw [← hb']; rfl
    subst hb2
    clear hb'
    go_enter Tryd.func33, Tryd.ntmps33
    go_wp2
    exact bodyPost_ret (v := .agg #[.bool false, .slice a k c]) (by simp [results, Tryd.results33, go_sem, r0, r1]) rfl ⟨_, rfl, PP.out⟩
  · by_cases hk : 0 < k
    · have hb2 : b' = true := by rw [← hb']; simp [hk]
      subst hb2
      clear hb'
      have hk' : (0 : Int) < (k : Int) := by omega
      go_enter Tryd.func33, Tryd.ntmps33
      go_wp2
      exact bodyPost_ret (v := .agg #[.bool true, .slice a k c]) (by simp [results, Tryd.results33, go_sem, r0, r1]) rfl ⟨_, rfl, PP.out⟩
    · have hb2 : b' = false := by rw [← hb']; simp [hk]
      subst hb2
      clear hb'
      obtain rfl : k = 0 := by omega
      go_enter Tryd.func33, Tryd.ntmps33
      go_wp2
      exact bodyPost_ret (v := .agg #[.bool false, .slice a 0 c]) (by simp [results, Tryd.results33, go_sem, r0, r1]) rfl ⟨_, rfl, PP.out⟩
end Go.Proofs.YtaibpppobblnoaaDoor
