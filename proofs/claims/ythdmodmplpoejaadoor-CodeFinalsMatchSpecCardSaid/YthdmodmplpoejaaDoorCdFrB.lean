/-
  Package code: a frame under way in memory; the greatest level.
-/
import Derived.Test.YthdmodmplpoejaaDoorCdNodes
import Derived.Deep.OwnRows
namespace Go.Proofs.YthdmodmplpoejaaDoor
open Go.RowKit Go.WideMaps Go.Maps

theorem infoI : (Tryd.prog.info? 3).map (fun i => (i.zero, i.size, i.bytes)) = some (some (.int .i64 0), 1, 8) := by kernel_rfl
/-- A box of two cells. -/
structure B2 (W : World) (g : Nat) (x0 x1 : Value) : Prop where
  c0 : W.cell? ⟨g, 0, none⟩ = some x0
  c1 : W.cell? ⟨g, 1, none⟩ = some x1
  fr : ∀ o, W.frozen? ⟨g, o, none⟩ = false
  lt : g < W.heap.size
theorem B2.keep {W W' : World} {g : Nat} {x0 x1 : Value} (h : B2 W g x0 x1) (hb : Below W.heap.size W W') : B2 W' g x0 x1 :=
  ⟨(hb.cell (p := ⟨g, 0, none⟩) h.lt).trans h.c0, (hb.cell (p := ⟨g, 1, none⟩) h.lt).trans h.c1, fun o => (hb.frozen (p := ⟨g, o, none⟩) h.lt).trans (h.fr o), Nat.lt_of_lt_of_le h.lt hb.size⟩
theorem B2.made (W : World) (x0 x1 : Value) (T : TypeId) : B2 (W.alloc (.cells #[x0, x1] T)) W.heap.size x0 x1 := by
  refine ⟨?_, ?_, fun o => by simp, by simp⟩
  all_goals (rw [World.cell?_alloc_new]; rfl)
/-- Both cells are stored. -/
def two (W : World) (g : Nat) (y0 y1 : Value) : World := (W.setCell ⟨g, 0, none⟩ y0).setCell ⟨g, 1, none⟩ y1
theorem two_size (W : World) (g : Nat) (y0 y1 : Value) : (two W g y0 y1).heap.size = W.heap.size := by unfold two; simp
theorem B2.set {W : World} {g : Nat} {x0 x1 : Value} (h : B2 W g x0 x1) (y0 y1 : Value) : B2 (two W g y0 y1) g y0 y1 := by
  have hne : ∀ {i j : Nat}, i ≠ j → (⟨g, i, none⟩ : Addr) ≠ ⟨g, j, none⟩ := fun h e => by injection e with _ e2; exact h e2
  unfold two
  refine ⟨?_, ?_, fun o => by simp only [World.frozen?_setCell]; exact h.fr o, by simpa using h.lt⟩
  · rw [World.cell?_setCell_other _ _ _ _ (hne (by decide)), World.cell?_setCell_same _ _ _ h.c0]
  · rw [World.cell?_setCell_same _ _ _ (u := x1) (by rw [World.cell?_setCell_other _ _ _ _ (hne (by decide))]; exact h.c1)]
theorem two_cell {W : World} {g h : Nat} (hne : h ≠ g) (y0 y1 : Value) (o : Nat) : (two W h y0 y1).cell? ⟨g, o, none⟩ = W.cell? ⟨g, o, none⟩ := by
  have hne' : ∀ {i j : Nat}, (⟨h, i, none⟩ : Addr) ≠ ⟨g, j, none⟩ := fun e => by injection e with e1 _; exact hne e1
  unfold two
  rw [World.cell?_setCell_other _ _ _ _ hne', World.cell?_setCell_other _ _ _ _ hne']
theorem below_two {W0 W : World} {g : Nat} (h : Below W0.heap.size W0 W) (hg : W0.heap.size ≤ g) (y0 y1 : Value) : Below W0.heap.size W0 (two W g y0 y1) :=
  (h.setCell (p := ⟨g, 0, none⟩) hg y0).setCell (p := ⟨g, 1, none⟩) hg y1
/-- A row of 1000 numbers that may be written. -/
structure RowN (w : World) (b : Nat) (g : Nat → Nat) : Prop where
  arr : Arr w b g
  fr : ∀ j, j < 1000 → w.frozen? ⟨b, j, none⟩ = false
theorem RowN.keep {w w' : World} {b : Nat} {g : Nat → Nat} (h : RowN w b g) (hb : Below w.heap.size w w') : RowN w' b g :=
  ⟨h.arr.below hb, fun j hj => (hb.frozen (p := ⟨b, j, none⟩) h.arr.1).trans (h.fr j hj)⟩
theorem RowN.congr {w : World} {b : Nat} {f g : Nat → Nat} (h : RowN w b f) (e : ∀ j, j < 1000 → f j = g j) : RowN w b g :=
  ⟨⟨h.arr.1, fun j hj => by rw [← e j hj]; exact h.arr.2 j hj⟩, h.fr⟩
theorem RowN.set {w : World} {b : Nat} {f : Nat → Nat} (h : RowN w b f) (i x : Nat) : RowN (w.setCell ⟨b, i, none⟩ (.int .i64 (x : Nat))) b (fun j => if (i : Int) = (j : Int) then x else f j) := by
  refine ⟨⟨by simpa using h.arr.1, fun j hj => ?_⟩, fun j hj => by rw [World.frozen?_setCell]; exact h.fr j hj⟩
  by_cases e : i = j
  · subst e
    rw [World.cell?_setCell_same _ _ _ (h.arr.2 i hj)]
    dsimp only
    rw [if_pos rfl]
  · rw [World.cell?_setCell_other _ _ _ _ (by intro h; exact e (by injection h))]
    dsimp only
    rw [if_neg (by omega)]
    exact h.arr.2 j hj
theorem RowN.other {w : World} {b c i : Nat} {f : Nat → Nat} (h : RowN w b f) (hne : c ≠ b) (x : Value) : RowN (w.setCell ⟨c, i, none⟩ x) b f :=
  ⟨⟨by simpa using h.arr.1, fun j hj => by rw [World.cell?_setCell_other _ _ _ _ (by intro h; exact hne (by injection h))]; exact h.arr.2 j hj⟩, fun j hj => by rw [World.frozen?_setCell]; exact h.fr j hj⟩
theorem RowN.two {w : World} {b g : Nat} {f : Nat → Nat} (h : RowN w b f) (hne : g ≠ b) (y0 y1 : Value) : RowN (Go.Proofs.YthdmodmplpoejaaDoor.two w g y0 y1) b f := by
  unfold Go.Proofs.YthdmodmplpoejaaDoor.two; exact (h.other hne _).other hne _
/-- A frame under way: its two rows, its box, the result's box. -/
structure Fz (w wx : World) (r x y z : Nat) (p q : Nat → Nat) : Prop where
  par : RowN wx x p
  lev : RowN wx y q
  c0 : wx.cell? ⟨z, 0, none⟩ = some (row x)
  c1 : wx.cell? ⟨z, 1, none⟩ = some (row y)
  res : B2 wx r (.slice none 0 0) (.slice none 0 0)
  bel : Below w.heap.size w wx
  xy : x ≠ y
  xz : x ≠ z
  yz : y ≠ z
  rx : r < x
  ry : r < y
  rz : r < z
  zl : z < wx.heap.size
  wr : w.heap.size ≤ r
theorem Fz.keep {w wx W : World} {r x y z : Nat} {p q : Nat → Nat} (h : Fz w wx r x y z p q) (hb : Below wx.heap.size wx W) : Fz w W r x y z p q :=
  { h with
    par := h.par.keep hb
    lev := h.lev.keep hb
    c0 := (hb.cell (p := ⟨z, 0, none⟩) h.zl).trans h.c0
    c1 := (hb.cell (p := ⟨z, 1, none⟩) h.zl).trans h.c1
    res := h.res.keep hb
    bel := h.bel.trans (hb.mono h.bel.size)
    zl := Nat.lt_of_lt_of_le h.zl hb.size }
theorem set_cell {w : World} {b c i o : Nat} (hne : c ≠ b) (x : Value) : (w.setCell ⟨c, i, none⟩ x).cell? ⟨b, o, none⟩ = w.cell? ⟨b, o, none⟩ :=
  World.cell?_setCell_other _ _ _ _ (by intro h; exact hne (by injection h))
theorem B2.otherCell {w : World} {b c i : Nat} {x0 x1 : Value} (h : B2 w b x0 x1) (hne : c ≠ b) (x : Value) : B2 (w.setCell ⟨c, i, none⟩ x) b x0 x1 :=
  ⟨(set_cell hne x).trans h.c0, (set_cell hne x).trans h.c1, fun o => by rw [World.frozen?_setCell]; exact h.fr o, by simpa using h.lt⟩
theorem Fz.setP {w wx : World} {r x y z : Nat} {p q : Nat → Nat} (h : Fz w wx r x y z p q) (i n : Nat) : Fz w (wx.setCell ⟨x, i, none⟩ (.int .i64 (n : Nat))) r x y z (fun j => if (i : Int) = (j : Int) then n else p j) q :=
  { h with
    par := h.par.set i n
    lev := h.lev.other h.xy _
    c0 := (set_cell h.xz _).trans h.c0
    c1 := (set_cell h.xz _).trans h.c1
    res := h.res.otherCell (by have := h.rx; omega) _
    bel := h.bel.setCell (p := ⟨x, i, none⟩) (by have := h.rx; have := h.wr; show _ ≤ x; omega) _
    zl := by simpa using h.zl }
theorem Fz.setL {w wx : World} {r x y z : Nat} {p q : Nat → Nat} (h : Fz w wx r x y z p q) (i n : Nat) : Fz w (wx.setCell ⟨y, i, none⟩ (.int .i64 (n : Nat))) r x y z p (fun j => if (i : Int) = (j : Int) then n else q j) :=
  { h with
    par := h.par.other (Ne.symm h.xy) _
    lev := h.lev.set i n
    c0 := (set_cell h.yz _).trans h.c0
    c1 := (set_cell h.yz _).trans h.c1
    res := h.res.otherCell (by have := h.ry; omega) _
    bel := h.bel.setCell (p := ⟨y, i, none⟩) (by have := h.ry; have := h.wr; show _ ≤ y; omega) _
    zl := by simpa using h.zl }
theorem zeros_at {n j : Nat} (hj : j < n) : (madeCells #[Value.int .i64 0] n)[j]? = some (.int .i64 0) := by
  rw [← Array.getElem?_toList, toList_madeCells_one, List.getElem?_replicate]
  exact if_pos hj
theorem zeros_ex (n : Nat) : ∃ Z, madeCells #[Value.int .i64 0] n = Z ∧ ∀ j, j < n → Z[j]? = some (Value.int .i64 0) := ⟨_, rfl, fun _ h => zeros_at h⟩
theorem heap3 (W : World) (o0 o1 o2 : Obj) : (((W.alloc o0).alloc o1).alloc o2).drew.heap[W.heap.size]? = some o0 ∧ (((W.alloc o0).alloc o1).alloc o2).drew.heap[W.heap.size + 1]? = some o1 ∧ (((W.alloc o0).alloc o1).alloc o2).drew.heap[W.heap.size + 1 + 1]? = some o2 := by
  have e : (((W.alloc o0).alloc o1).alloc o2).drew.heap = ((W.heap.push o0).push o1).push o2 := rfl
  rw [e]
  refine ⟨?_, ?_, ?_⟩
  · rw [Array.getElem?_push, if_neg (by simp <;> omega), Array.getElem?_push, if_neg (by simp <;> omega), Array.getElem?_push, if_pos rfl]
  · rw [Array.getElem?_push, if_neg (by simp <;> omega), Array.getElem?_push, if_pos (by simp)]
  · rw [Array.getElem?_push, if_pos (by simp)]
theorem Fz.made {w W2 wx : World} {r x y z : Nat} {Z : Array Value} (hZ : ∀ j, j < 1000 → Z[j]? = some (Value.int .i64 0)) (h0 : B2 W2 r (.slice none 0 0) (.slice none 0 0)) (hb : Below w.heap.size w W2) (hr : w.heap.size ≤ r)
    (hw : ∃ o0 o1 o2, wx = (((W2.alloc o0).alloc o1).alloc o2).drew) (hx : wx.heap[x]? = some (.cells Z 3)) (hy : wx.heap[y]? = some (.cells Z 3)) (hz : wx.heap[z]? = some (.cells #[row x, row y] 71))
    (ne1 : x ≠ y) (ne2 : x ≠ z) (ne3 : y ≠ z) (lx : W2.heap.size ≤ x) (ly : W2.heap.size ≤ y) (lz : W2.heap.size ≤ z) : Fz w wx r x y z (fun _ => 0) (fun _ => 0) := by
  have bw : Below W2.heap.size W2 wx := by
    obtain ⟨o0, o1, o2, rfl⟩ := hw
    exact ((((Below.refl _ _).alloc (Nat.le_refl _) _).alloc (by simp) _).alloc (by simp; omega) _).drew
  have rr : ∀ u : Nat, wx.heap[u]? = some (.cells Z 3) → RowN wx u (fun _ => 0) := fun u hu => by
    refine ⟨⟨(Array.getElem?_eq_some_iff.1 hu).1, fun j hj => ?_⟩, fun j hj => by simp [World.frozen?, hu]⟩
    simp only [World.cell?, hu]
    exact hZ j hj
  have hl := h0.lt
  exact ⟨rr x hx, rr y hy, by simp [World.cell?, hz], by simp [World.cell?, hz], h0.keep bw, hb.trans (bw.mono hb.size), ne1, ne2, ne3, by omega, by omega, by omega, (Array.getElem?_eq_some_iff.1 hz).1, hr⟩
/-! ### The greatest level -/
theorem foldl_max {n : Int} : ∀ (zs : List Int) (a : Int), n < zs.foldl max a ↔ n < a ∨ ∃ z, z ∈ zs ∧ n < z
  | [], a => by simp
  | x :: r, a => by
    rw [List.foldl_cons, foldl_max r]
    constructor
    · rintro (h | ⟨z, h1, h2⟩)
      · by_cases e : n < a
        · exact Or.inl e
        · exact Or.inr ⟨x, by simp, by omega⟩
      · exact Or.inr ⟨z, by simp [h1], h2⟩
    · rintro (h | ⟨z, h1, h2⟩)
      · exact Or.inl (by omega)
      · rcases List.mem_cons.1 h1 with rfl | h1
        · exact Or.inl (by omega)
        · exact Or.inr ⟨z, h1, h2⟩
theorem maxOf_gt {n : Int} {zs : List Int} (h : zs ≠ []) : n < Lib.maxOf zs ↔ ∃ z, z ∈ zs ∧ n < z := by
  unfold Lib.maxOf
  rw [foldl_max]
  constructor
  · rintro (h1 | h1)
    · cases zs with
      | nil => exact absurd rfl h
      | cons x r => exact ⟨x, by simp, h1⟩
    · exact h1
  · exact Or.inr
def lvs (g : Nat → Nat) : List Int := (List.range 1000).map fun j => (g j : Int)
theorem lvs_len (g : Nat → Nat) : (lvs g).length = 1000 := by unfold lvs; rw [List.length_map, List.length_range]
theorem lvs_at (g : Nat → Nat) {j : Nat} (hj : j < 1000) : (lvs g).getD j 0 = (g j : Int) := by
  unfold lvs
  rw [List.getD, List.getElem?_map, List.getElem?_range hj]
  rfl
theorem lvs_gt (g : Nat → Nat) {n : Nat} : (n : Int) < Lib.maxOf (lvs g) ↔ ∃ j, j < 1000 ∧ n < g j := by
  rw [maxOf_gt (by intro e; have := lvs_len g; rw [e] at this; exact absurd this (by decide))]
  unfold lvs
  constructor
  · rintro ⟨z, hz, h⟩
    obtain ⟨j, hj, rfl⟩ := List.mem_map.1 hz
    exact ⟨j, List.mem_range.1 hj, by omega⟩
  · rintro ⟨j, hj, h⟩
    exact ⟨_, List.mem_map.2 ⟨j, List.mem_range.2 hj, rfl⟩, by omega⟩
theorem lev_ex {l : List Nd} (h : Ord l) {n : Nat} : (∃ j, j < 1000 ∧ n < lev l j) ↔ ∃ k, k < l.length ∧ n < lvl l k := by
  constructor
  · rintro ⟨j, hj, h1⟩
    by_cases hh : Has l j
    · obtain ⟨k, hk, e⟩ := hh
      rw [lev_at h hk e] at h1
      exact ⟨k, hk, h1⟩
    · rw [lev_no hh] at h1; omega
  · rintro ⟨k, hk, h1⟩
    have := h.rng k hk
    refine ⟨(nd l k).cd.toNat, by omega, ?_⟩
    rw [lev_at h hk (by omega)]; exact h1
end Go.Proofs.YthdmodmplpoejaaDoor
