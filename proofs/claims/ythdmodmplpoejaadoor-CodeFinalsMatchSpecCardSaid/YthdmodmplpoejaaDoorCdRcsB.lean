/-
  The reference of package code: cases: what lies in memory.
-/
import Derived.Test.YthdmodmplpoejaaDoorCdRwi
import Derived.Laws.OwnMore
namespace Go.Proofs.YthdmodmplpoejaaDoor
open Go.RowKit Go.WideMaps Go.Maps

/-- Block g has codings. -/
def RdG (w : World) (g : Nat) (C : List Cg) : Prop := g < w.heap.size ∧ ∀ j, j < C.length → CgAt w g (j * 3) (cg C j)
theorem RdG.kept {w w' : World} {g : Nat} {C : List Cg} {row : Option Nat} (h : RdG w g C) (hg : w.grownBy w' row) (hne : row ≠ some g) : RdG w' g C :=
  ⟨Nat.lt_of_lt_of_le h.1 hg.size, fun j hj => by
    obtain ⟨h0, h1, h2⟩ := h.2 j hj
    exact ⟨hg.cell h0 (fun e => hne e.symm), hg.cell h1 (fun e => hne e.symm), hg.cell h2 (fun e => hne e.symm)⟩⟩
theorem RdG.alloc {w : World} {g : Nat} {C : List Cg} (h : RdG w g C) (o : Obj) : RdG (w.alloc o) g C := h.kept (row := none) (below_grow (bel_one w o)) (by simp)
theorem RdG.rd {w : World} {g : Nat} {C : List Cg} (h : RdG w g C) (hn : C.length ≤ 9223372036854775807) : RdC w (some ⟨g, 0, none⟩) C :=
  ⟨hn, fun _ => ⟨g, 0, rfl, h.1, fun j hj => by rw [Nat.zero_add]; exact h.2 j hj⟩⟩
/-- The cases that are whole, and the last one. -/
structure InQ (w wr : World) (v vl : Value) (xs : List Value) (R : List (List Cg)) (L : List Cg) : Prop where
  own : wr.ownsRow w.heap.size 35 1 v (R.length + 1) (xs ++ [vl])
  len : xs.length = R.length
  runs : ∀ j, j < R.length → ∃ g c, xs[j]? = some (.slice (some ⟨g, 0, none⟩) (rn R j).length c) ∧ RdG wr g (rn R j) ∧ v.ownBlock ≠ some g ∧ vl.ownBlock ≠ some g
  last : wr.ownsRow w.heap.size 49 3 vl L.length (crow L)
  ne : ∀ g, vl.ownBlock = some g → v.ownBlock ≠ some g
  bel : Below w.heap.size w wr
theorem InQ.keep {w wr W : World} {v vl : Value} {xs : List Value} {R : List (List Cg)} {L : List Cg} (h : InQ w wr v vl xs R L) (hb : Below wr.heap.size wr W) : InQ w W v vl xs R L :=
  ⟨own_keep h.own hb, h.len, fun j hj => by
    obtain ⟨g, c, e, hr, h1, h2⟩ := h.runs j hj
    exact ⟨g, c, e, hr.kept (row := none) (below_grow hb) (by simp), h1, h2⟩, own_keep h.last hb, h.ne, h.bel.trans (hb.mono h.bel.size)⟩
theorem InQ.val {w wr : World} {v vl : Value} {xs : List Value} {R : List (List Cg)} {L : List Cg} (h : InQ w wr v vl xs R L) : ∃ gv cap, v = .slice (some ⟨gv, 0, none⟩) (R.length + 1) cap ∧ wr.cell? ⟨gv, R.length, none⟩ = some vl ∧ gv < wr.heap.size ∧ w.heap.size ≤ gv := by
  rcases h.own.2 with ⟨_, e2⟩ | ⟨g, cap, cur, e1, _⟩
  · omega
  · have h0 := h.own
    subst e1
    have := h0.cells (g := g) rfl R.length vl (by rw [← h.len, List.getElem?_append_right (Nat.le_refl _)]; simp)
    rw [add_at, Nat.zero_add] at this
    exact ⟨g, cap, rfl, this, (h0.lt g rfl).2, (h0.lt g rfl).1⟩
/-- One coding more in the last case: the row is ready to be stored. -/
theorem InQ.grown {w wr w4 : World} {gv cap : Nat} {vl vl' : Value} {xs : List Value} {R : List (List Cg)} {L : List Cg} {o : Obj} (h : InQ w wr (.slice (some ⟨gv, 0, none⟩) (R.length + 1) cap) vl xs R L)
    (hg : (wr.alloc o).grownBy w4 vl.ownBlock) : w4.ownsRow w.heap.size 35 1 (.slice (some ⟨gv, 0, none⟩) (R.length + 1) cap) (R.length + 1) (xs ++ [vl]) ∧ w4.cell? ⟨gv, R.length, none⟩ = some vl ∧ w4.frozen? ⟨gv, R.length, none⟩ = false := by
  have ho := (h.own.alloc o).kept hg (.inr fun e => by
    cases e2 : vl.ownBlock with
    | none => rw [e2] at e; simp [Value.ownBlock] at e
    | some g => exact h.ne g e2 (e.trans e2))
  have := ho.cells (g := gv) rfl R.length vl (by rw [← h.len, List.getElem?_append_right (Nat.le_refl _)]; simp)
  rw [add_at, Nat.zero_add] at this
  exact ⟨ho, this, ho.frozenAt _⟩
theorem InQ.more {w wr w4 : World} {gv cap : Nat} {vl vl' : Value} {xs : List Value} {R : List (List Cg)} {L : List Cg} {o : Obj} {u : Cg} (h : InQ w wr (.slice (some ⟨gv, 0, none⟩) (R.length + 1) cap) vl xs R L)
    (hown : w4.ownsRow w.heap.size 49 3 vl' (L.length + 1) (crow L ++ ccells u)) (hg : (wr.alloc o).grownBy w4 vl.ownBlock) (hloc : vl'.ownBlock = vl.ownBlock ∨ vl'.ownBlock = some (wr.heap.size + 1)) :
    InQ w (w4.setCell ⟨gv, R.length, none⟩ vl') (.slice (some ⟨gv, 0, none⟩) (R.length + 1) cap) vl' xs R (L ++ [u]) := by
  have lv := h.own.lt gv rfl
  have hx : ∀ g, g < wr.heap.size → vl.ownBlock ≠ some g → vl'.ownBlock ≠ some g := fun g hlt hne e => by
    rcases hloc with q | q
    · exact hne (q.symm.trans e)
    · rw [q] at e; injection e with e; omega
  have hvl : vl.ownBlock ≠ some gv := fun e => h.ne gv e rfl
  obtain ⟨ho, _, _⟩ := h.grown hg (vl' := vl')
  obtain ⟨hs, hgs⟩ := ho.stored R.length vl'
  have es : (xs ++ [vl]).set R.length vl' = xs ++ [vl'] := by
    rw [← h.len, List.set_append_right _ _ (Nat.le_refl _), Nat.sub_self]; rfl
  rw [es] at hs
  refine ⟨hs, h.len, fun j hj => ?_, ?_, fun g e1 e2 => ?_, ?_⟩
  · obtain ⟨g, c, e, hr, h1, h2⟩ := h.runs j hj
    have hgl := hr.1
    refine ⟨g, c, e, ((hr.alloc o).kept hg h2).kept hgs (fun e => h1 e), h1, hx g hgl h2⟩
  · rw [List.length_append, crow_snoc]
    refine hown.kept hgs (.inr fun e => ?_)
    exact hx gv lv.2 hvl e
  · injection e2 with e2
    have e2 : gv = g := e2
    subst e2
    exact hx gv lv.2 hvl e1
  · have hsz := h.bel.size
    exact ((h.bel.alloc hsz o).grown hg (by simp; omega) (fun g hg => (h.last.lt g hg).1)).setCell (p := ⟨gv, R.length, none⟩) lv.1 _
/-- A new case begins. -/
theorem InQ.new {w wr w4 : World} {v v' vl : Value} {xs : List Value} {R : List (List Cg)} {L : List Cg} {o : Obj} (h : InQ w wr v vl xs R L) (hL : 0 < L.length)
    (hown : w4.ownsRow w.heap.size 35 1 v' (R.length + 1 + 1) ((xs ++ [vl]) ++ [.slice none 0 0])) (hg : (wr.alloc o).grownBy w4 v.ownBlock) (hloc : v'.ownBlock = v.ownBlock ∨ v'.ownBlock = some (wr.heap.size + 1)) :
    InQ w w4 v' (.slice none 0 0) (xs ++ [vl]) (R ++ [L]) [] := by
  have hx : ∀ g, g < wr.heap.size → v.ownBlock ≠ some g → v'.ownBlock ≠ some g := fun g hlt hne e => by
    rcases hloc with q | q
    · exact hne (q.symm.trans e)
    · rw [q] at e; injection e with e; omega
  refine ⟨by rw [List.length_append]; exact hown, by simp [h.len], fun j hj => ?_, World.ownsRow_nil _ _ _ _, fun g e => by simp [Value.ownBlock] at e, ?_⟩
  · rcases rn_snoc hj with ⟨e1, e2⟩ | ⟨e1, e2⟩
    · obtain ⟨g, c, e, hr, h1, h2⟩ := h.runs j e1
      rw [e2]
      exact ⟨g, c, by rw [List.getElem?_append_left (by have := h.len; omega)]; exact e, (hr.alloc o).kept hg h1, hx g hr.1 h1, by simp [Value.ownBlock]⟩
    · subst e1
      rw [e2]
      obtain ⟨g, c, rfl, ho⟩ := own_C h.last hL
      have hr : RdG wr g L := ⟨ho.lt, ho.at_⟩
      have h1 := h.ne g rfl
      exact ⟨g, c, by rw [← h.len, List.getElem?_append_right (Nat.le_refl _)]; simp, (hr.alloc o).kept hg h1, hx g hr.1 h1, by simp [Value.ownBlock]⟩
  · have hsz := h.bel.size
    exact (h.bel.alloc hsz o).grown hg (by simp; omega) (fun g hg => (h.own.lt g hg).1)
/-- The first case begins. -/
theorem inQ_first {w wr w4 : World} {v' : Value} {o : Obj} (hb : Below w.heap.size w wr) (hown : w4.ownsRow w.heap.size 35 1 v' (0 + 1) ([] ++ [.slice none 0 0])) (hg : (wr.alloc o).grownBy w4 none) : InQ w w4 v' (.slice none 0 0) [] [] [] :=
  ⟨hown, rfl, fun j hj => by simp at hj, World.ownsRow_nil _ _ _ _, fun g e => by simp [Value.ownBlock] at e, (hb.alloc hb.size o).grown hg (by have := hb.size; simp; omega) (fun g hg => by cases hg)⟩
/-- All are there. -/
theorem InQ.done {w wr : World} {v vl : Value} {xs : List Value} {R : List (List Cg)} {L : List Cg} (h : InQ w wr v vl xs R L) (hL : 0 < L.length) (hn : ∀ D ∈ R ++ [L], D.length ≤ 9223372036854775807) : ∃ a c, v = .slice a (R ++ [L]).length c ∧ RdR wr a (R ++ [L]) := by
  obtain ⟨gv, cap, rfl, _, hgl, _⟩ := h.val
  refine ⟨some ⟨gv, 0, none⟩, cap, by rw [List.length_append]; rfl, fun j hj => ?_⟩
  have key : ∀ x, (xs ++ [vl])[j]? = some x → wr.cell? ⟨gv, j, none⟩ = some x := fun x hx => by
    have := h.own.cells (g := gv) rfl j x hx
    rw [add_at, Nat.zero_add] at this
    exact this
  have hD := hn _ (rn_in hj)
  rcases rn_snoc hj with ⟨e1, e2⟩ | ⟨e1, e2⟩
  · obtain ⟨g, c, e, hr, _, _⟩ := h.runs j e1
    rw [e2] at hD ⊢
    exact ⟨gv, _, c, rfl, hgl, key _ (by rw [List.getElem?_append_left (by have := h.len; omega)]; exact e), hr.rd hD⟩
  · subst e1
    rw [e2] at hD ⊢
    obtain ⟨g, c, rfl, ho⟩ := own_C h.last hL
    exact ⟨gv, _, c, rfl, hgl, key _ (by rw [← h.len, List.getElem?_append_right (Nat.le_refl _)]; simp), ho.rd hD⟩
end Go.Proofs.YthdmodmplpoejaaDoor
