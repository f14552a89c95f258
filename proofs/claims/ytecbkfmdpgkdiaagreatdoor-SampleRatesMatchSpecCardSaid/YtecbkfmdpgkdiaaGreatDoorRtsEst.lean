/-
  Rates of the reference: its boxes.
-/
import Derived.Test.YtecbkfmdpgkdiaaGreatDoorRtsVal
import Derived.Test.YtecbkfmdpgkdiaaGreatDoorRtsRate
namespace Go.Proofs.YtecbkfmdpgkdiaaGreatDoor
open Go.RowKit

/-- The box of the estimated number. -/
def Eb (x : Nat) (v1 v2 : Value) (W : World) : Prop := W.cell? ⟨x, 0, none⟩ = some (.bool false) ∧ W.cell? ⟨x, 1, none⟩ = some v1 ∧ W.cell? ⟨x, 2, none⟩ = some v2
theorem Eb.keep {x : Nat} {v1 v2 : Value} {W W' : World} (h : Eb x v1 v2 W) (hb : Below W.heap.size W W') (hx : x < W.heap.size) : Eb x v1 v2 W' :=
  ⟨(hb.cell (p := ⟨x, 0, none⟩) hx).trans h.1, (hb.cell (p := ⟨x, 1, none⟩) hx).trans h.2.1, (hb.cell (p := ⟨x, 2, none⟩) hx).trans h.2.2⟩
/-- The boxes of Rates in the reference. -/
structure Rf (w : World) (l : List Int) (x : Nat) (a : Option Addr) (k c : Nat) (b : Option Addr) (m c2 n d : Nat) (W : World) : Prop where
  lp : Lp w l l.length W
  est : Eb x (.slice a k c) (.slice b m c2) W
  fz : W.frozen? ⟨x, 0, none⟩ = false ∧ W.frozen? ⟨x, 1, none⟩ = false ∧ W.frozen? ⟨x, 2, none⟩ = false
  lo : w.heap.size + 2 ≤ x
  hi : x < W.heap.size
  s1 : Sm W a k n
  s2 : Sm W b m d
theorem Rf.keep {w : World} {l : List Int} {x : Nat} {a : Option Addr} {k c : Nat} {b : Option Addr} {m c2 n d : Nat} {W W' : World} (h : Rf w l x a k c b m c2 n d W) (hb : Below W.heap.size W W') : Rf w l x a k c b m c2 n d W' :=
  ⟨h.lp.keep hb, h.est.keep hb h.hi, ⟨(hb.frozen (p := ⟨x, 0, none⟩) h.hi).trans h.fz.1, (hb.frozen (p := ⟨x, 1, none⟩) h.hi).trans h.fz.2.1, (hb.frozen (p := ⟨x, 2, none⟩) h.hi).trans h.fz.2.2⟩, h.lo, Nat.lt_of_lt_of_le h.hi hb.size, h.s1.below hb, h.s2.below hb⟩
/-- The box of the estimated number is stored anew. -/
theorem Rf.stored {w : World} {l : List Int} {x : Nat} {a : Option Addr} {k c : Nat} {b : Option Addr} {m c2 n d : Nat} {W : World} (h : Rf w l x a k c b m c2 n d W) {a' b' : Option Addr} {k' c' m' c2' n' d' : Nat} (l1 : Sm W a' k' n') (l2 : Sm W b' m' d') :
    Rf w l x a' k' c' b' m' c2' n' d' (set3 W x (.bool false) (.slice a' k' c') (.slice b' m' c2')) := by
  have lo := h.lo
  have t := set3_cells (x := .bool false) (y := .slice a' k' c') (z := .slice b' m' c2') h.est.1 h.est.2.1 h.est.2.2
  refine ⟨⟨fun j hj => ⟨(set3_other (by omega)).trans (h.lp.tl j hj).1, ?_⟩, fun j hj => ⟨(set3_other (by omega)).trans (h.lp.box j hj).1, ?_⟩, set3_below h.lp.bel (by omega) _ _ _, ?_⟩, ⟨t.1, t.2.1, t.2.2⟩, ?_, lo, ?_, ?_, ?_⟩
  · unfold set3; simpa using (h.lp.tl j hj).2
  · unfold set3; simpa using (h.lp.box j hj).2
  · unfold set3; simpa using h.lp.size
  · unfold set3; simpa using h.fz
  · unfold set3; simpa using h.hi
  · exact set3_sm h.est.1 h.est.2.1 h.est.2.2 (fun m e => by cases e) (fun m e => by cases e) (fun m e => by cases e) l1
  · exact set3_sm h.est.1 h.est.2.1 h.est.2.2 (fun m e => by cases e) (fun m e => by cases e) (fun m e => by cases e) l2
theorem rate1_c (i : Nat) (a1 a2 : Option Addr) (c1 c2 k1 k2 n : Nat) (w : World) (hi : i < 1000000000) (h1 : Sm w a1 k1 n) (h2 : Sm w a2 k2 1) (hE : Pow w) :
    Calls Tryz.prog 25 #[.int .i64 i, .agg #[.bool false, .slice a1 k1 c1, .slice a2 k2 c2]] w (RtPost i n w) := by
  have t := rate_c i a1 a2 c1 c2 k1 k2 n 1 w hi h1 h2 (by rw [Nat.mul_one]; exact hi) hE
  rw [Nat.mul_one] at t
  exact t
/-- The two counters that are read between the calls. -/
def Sq (g : Nat) (x y : Nat) (W : World) : Prop := W.cell? ⟨g + 1, 2, none⟩ = some (.int .i64 x) ∧ W.cell? ⟨g + 1, 7, none⟩ = some (.int .i64 y)
theorem Sq.keep {g x y : Nat} {W W' : World} (h : Sq g x y W) (hb : Below W.heap.size W W') (hg : g + 1 < W.heap.size) : Sq g x y W' :=
  ⟨(hb.cell (p := ⟨g + 1, 2, none⟩) hg).trans h.1, (hb.cell (p := ⟨g + 1, 7, none⟩) hg).trans h.2⟩
end Go.Proofs.YtecbkfmdpgkdiaaGreatDoor
