/-
  Package code: codings and moves in memory.
-/
import Derived.Test.YthdmodmplpoejaaDoorCdBase
namespace Go.Proofs.YthdmodmplpoejaaDoor
open Go.RowKit Go.WideMaps Go.Maps

/-- A coding; a move. -/
structure Cg where
  ca : Int
  co : Int
  cd : Int
structure Mv where
  fr : Int
  tg : Int
def cg0 : Cg := ⟨0, 0, 0⟩
def cg (l : List Cg) (j : Nat) : Cg := l.getD j cg0
theorem cg_is {l : List Cg} {j : Nat} (h : j < l.length) : cg l j = l[j] := by unfold cg; rw [List.getD, List.getElem?_eq_getElem h]; rfl
theorem cg_mem {l : List Cg} {j : Nat} (h : j < l.length) : cg l j ∈ l := by rw [cg_is h]; exact List.getElem_mem h
def CgAt (w : World) (b o : Nat) (u : Cg) : Prop := w.cell? ⟨b, o, none⟩ = some (.int .i64 u.ca) ∧ w.cell? ⟨b, o + 1, none⟩ = some (.int .i64 u.co) ∧ w.cell? ⟨b, o + 2, none⟩ = some (.int .i64 u.cd)
theorem CgAt.below {w w' : World} {b o : Nat} {u : Cg} (h : CgAt w b o u) (hb : Below w.heap.size w w') (hl : b < w.heap.size) : CgAt w' b o u := by
  obtain ⟨h0, h1, h2⟩ := h
  exact ⟨(hb.cell (p := ⟨b, o, none⟩) hl).trans h0, (hb.cell (p := ⟨b, o + 1, none⟩) hl).trans h1, (hb.cell (p := ⟨b, o + 2, none⟩) hl).trans h2⟩
/-- A slice that reads as a list of codings. -/
def RdC (w : World) (a : Option Addr) (l : List Cg) : Prop :=
  l.length ≤ 9223372036854775807 ∧ (0 < l.length → ∃ b off, a = some ⟨b, off, none⟩ ∧ b < w.heap.size ∧ ∀ j, j < l.length → CgAt w b (off + j * 3) (cg l j))
theorem RdC.below {w w' : World} {a : Option Addr} {l : List Cg} (h : RdC w a l) (hb : Below w.heap.size w w') : RdC w' a l :=
  ⟨h.1, fun h0 => by
    obtain ⟨b, off, e, hl, hc⟩ := h.2 h0
    exact ⟨b, off, e, Nat.lt_of_lt_of_le hl hb.size, fun j hj => (hc j hj).below hb hl⟩⟩
theorem RdC.at_ {w : World} {a : Option Addr} {l : List Cg} (h : RdC w a l) {k : Nat} (hk : k < l.length) :
    ∃ b off, a = some ⟨b, off, none⟩ ∧ CgAt w b (off + k * 3) (cg l k) := by
  obtain ⟨b, off, e, _, hc⟩ := h.2 (by omega)
  exact ⟨b, off, e, hc k hk⟩
theorem RdC.nil_ (w : World) (a : Option Addr) : RdC w a [] := ⟨by simp, fun h => by simp at h⟩
def mv0 : Mv := ⟨0, 0⟩
def mv (l : List Mv) (j : Nat) : Mv := l.getD j mv0
theorem mv_is {l : List Mv} {j : Nat} (h : j < l.length) : mv l j = l[j] := by unfold mv; rw [List.getD, List.getElem?_eq_getElem h]; rfl
theorem mv_mem {l : List Mv} {j : Nat} (h : j < l.length) : mv l j ∈ l := by rw [mv_is h]; exact List.getElem_mem h
def MvAt (w : World) (b o : Nat) (u : Mv) : Prop := w.cell? ⟨b, o, none⟩ = some (.int .i64 u.fr) ∧ w.cell? ⟨b, o + 1, none⟩ = some (.int .i64 u.tg)
theorem MvAt.below {w w' : World} {b o : Nat} {u : Mv} (h : MvAt w b o u) (hb : Below w.heap.size w w') (hl : b < w.heap.size) : MvAt w' b o u := by
  obtain ⟨h0, h1⟩ := h
  exact ⟨(hb.cell (p := ⟨b, o, none⟩) hl).trans h0, (hb.cell (p := ⟨b, o + 1, none⟩) hl).trans h1⟩
/-- A slice that reads as a list of moves. -/
def RdM (w : World) (a : Option Addr) (l : List Mv) : Prop :=
  l.length ≤ 9223372036854775807 ∧ (0 < l.length → ∃ b off, a = some ⟨b, off, none⟩ ∧ b < w.heap.size ∧ ∀ j, j < l.length → MvAt w b (off + j * 2) (mv l j))
theorem RdM.below {w w' : World} {a : Option Addr} {l : List Mv} (h : RdM w a l) (hb : Below w.heap.size w w') : RdM w' a l :=
  ⟨h.1, fun h0 => by
    obtain ⟨b, off, e, hl, hc⟩ := h.2 h0
    exact ⟨b, off, e, Nat.lt_of_lt_of_le hl hb.size, fun j hj => (hc j hj).below hb hl⟩⟩
theorem RdM.at_ {w : World} {a : Option Addr} {l : List Mv} (h : RdM w a l) {k : Nat} (hk : k < l.length) :
    ∃ b off, a = some ⟨b, off, none⟩ ∧ MvAt w b (off + k * 2) (mv l k) := by
  obtain ⟨b, off, e, _, hc⟩ := h.2 (by omega)
  exact ⟨b, off, e, hc k hk⟩
theorem RdM.nil_ (w : World) (a : Option Addr) : RdM w a [] := ⟨by simp, fun h => by simp at h⟩
/-- The numbers are no longer than an int. -/
def in64 (x : Int) : Prop := -9223372036854775808 ≤ x ∧ x ≤ 9223372036854775807
def FitsC (l : List Cg) : Prop := ∀ u, u ∈ l → in64 u.ca ∧ in64 u.co ∧ in64 u.cd
def FitsM (l : List Mv) : Prop := ∀ u, u ∈ l → in64 u.fr ∧ in64 u.tg
end Go.Proofs.YthdmodmplpoejaaDoor
