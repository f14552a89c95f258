/-
  Slices of ints and of units that read as lists; the two functions that tell a place's key.
-/
import Derived.Test.YtkppfceogknlkaaDoorRows
import Derived.Test.YtkppfceogknlkaaDoorFrmVal
import Derived.WalkKit
import Derived.WalkSpells
import Derived.Deep.QuietTactic
import Derived.BigQuiet
import Derived.OneCell
import Derived.Lib.Hide
import Derived.IntWalk
import Derived.Below
import Derived.WalkSmall
import Derived.Maps.GroupsBeside
namespace Go.Proofs.YtkppfceogknlkaaDoor
open Go.RowKit Go.WideMaps Go.Maps

/-- The places of a list. -/
def fn (l : List Int) : Nat → Int := fun j => l.getD j 0
/-- A slice that reads as a list of ints. -/
def Rd (w : World) (a : Option Addr) (l : List Int) : Prop :=
  l.length ≤ 9223372036854775807 ∧ (0 < l.length → ∃ b off, a = some ⟨b, off, none⟩ ∧ b < w.heap.size ∧ ∀ j, j < l.length → w.cell? ⟨b, off + j, none⟩ = some (.int .i64 (fn l j)))
theorem Rd.below {w w' : World} {a : Option Addr} {l : List Int} (h : Rd w a l) (hb : Below w.heap.size w w') : Rd w' a l :=
  ⟨h.1, fun h0 => by
    obtain ⟨b, off, e, hl, hc⟩ := h.2 h0
    exact ⟨b, off, e, Nat.lt_of_lt_of_le hl hb.size, fun j hj => by rw [hb.cell (p := ⟨b, off + j, none⟩) hl]; exact hc j hj⟩⟩
theorem Rd.at_ {w : World} {a : Option Addr} {l : List Int} (h : Rd w a l) {k : Nat} (hk : k < l.length) :
    ∃ b off, a = some ⟨b, off, none⟩ ∧ w.cell? ⟨b, off + k, none⟩ = some (.int .i64 (fn l k)) := by
  obtain ⟨b, off, e, _, hc⟩ := h.2 (by omega)
  exact ⟨b, off, e, hc k hk⟩
theorem Rd.none_ (w : World) : Rd w none [] := ⟨by simp, fun h => by simp at h⟩
/-- A unit in memory. -/
def UnAt (w : World) (b o : Nat) (u : Un) : Prop :=
  w.cell? ⟨b, o, none⟩ = some (.int .i64 u.id) ∧ w.cell? ⟨b, o + 1, none⟩ = some (.string u.st) ∧ w.cell? ⟨b, o + 2, none⟩ = some (.int .i64 u.cl) ∧ w.cell? ⟨b, o + 3, none⟩ = some (.int .i64 u.sz)
theorem UnAt.below {w w' : World} {b o B : Nat} {u : Un} (h : UnAt w b o u) (hb : Below B w w') (hl : b < B) : UnAt w' b o u :=
  ⟨(hb.cell (p := ⟨b, o, none⟩) hl).trans h.1, (hb.cell (p := ⟨b, o + 1, none⟩) hl).trans h.2.1, (hb.cell (p := ⟨b, o + 2, none⟩) hl).trans h.2.2.1, (hb.cell (p := ⟨b, o + 3, none⟩) hl).trans h.2.2.2⟩
/-- A slice that reads as a list of units. -/
def RdU (w : World) (a : Option Addr) (l : List Un) : Prop :=
  l.length ≤ 9223372036854775807 ∧ (0 < l.length → ∃ b off, a = some ⟨b, off, none⟩ ∧ b < w.heap.size ∧ ∀ j, j < l.length → UnAt w b (off + j * 4) (un l j))
theorem RdU.below {w w' : World} {a : Option Addr} {l : List Un} (h : RdU w a l) (hb : Below w.heap.size w w') : RdU w' a l :=
  ⟨h.1, fun h0 => by
    obtain ⟨b, off, e, hl, hc⟩ := h.2 h0
    exact ⟨b, off, e, Nat.lt_of_lt_of_le hl hb.size, fun j hj => (hc j hj).below hb hl⟩⟩
theorem RdU.at_ {w : World} {a : Option Addr} {l : List Un} (h : RdU w a l) {k : Nat} (hk : k < l.length) :
    ∃ b off, a = some ⟨b, off, none⟩ ∧ UnAt w b (off + k * 4) (un l k) := by
  obtain ⟨b, off, e, _, hc⟩ := h.2 (by omega)
  exact ⟨b, off, e, hc k hk⟩
theorem keyS_c (g : Nat) (a : Option Addr) (c : Nat) (l : List Un) (k : Nat) (w : World) (hl : RdU w a l) (hg : w.cell? ⟨g, 0, none⟩ = some (.slice a l.length c)) (hk : k < l.length) :
    Calls Tryd.prog 20 #[.int .i64 k, .pointer (some ⟨g, 0, none⟩)] w fun e w' => e = .returned (.string (un l k).st) ∧ w' = w := by
  obtain ⟨b, off, rfl, h0, h1, h2, h3⟩ := hl.at_ hk
  have hk' : (k : Int) < (l.length : Int) := by omega
  have h9 := hl.1
  clear hl
  go_enter Tryd.func20, Tryd.ntmps20
  go_wp2
  go_ret
  exact ⟨rfl, rfl⟩
theorem keyI_c (g : Nat) (a : Option Addr) (c : Nat) (l : List Un) (k : Nat) (w : World) (hl : RdU w a l) (hg : w.cell? ⟨g, 0, none⟩ = some (.slice a l.length c)) (hk : k < l.length) :
    Calls Tryd.prog 22 #[.int .i64 k, .pointer (some ⟨g, 0, none⟩)] w fun e w' => e = .returned (.int .i64 (un l k).cl) ∧ w' = w := by
  obtain ⟨b, off, rfl, h0, h1, h2, h3⟩ := hl.at_ hk
  have hk' : (k : Int) < (l.length : Int) := by omega
  have h9 := hl.1
  clear hl
  go_enter Tryd.func22, Tryd.ntmps22
  go_wp2
  go_ret
  exact ⟨rfl, rfl⟩
end Go.Proofs.YtkppfceogknlkaaDoor
