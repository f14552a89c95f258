/-
  An expression in a box of its own, and the texts of the simplest expressions.
-/
import Derived.Test.YtcdifmnakppfkaaGreatDoorExRows
import Derived.Test.YtcdifmnakppfkaaGreatDoorTxtShown
import Derived.Test.YtcdifmnakppfkaaGreatDoorExCPart
import Derived.Deep.RegionHeld3
namespace Go.Proofs.YtcdifmnakppfkaaGreatDoor
open Go.RowKit

/-- The cells of an expression in the first block behind a world. -/
def Box1 (w : World) (k o : Int) (nm : ByteArray) (vk vn : Int) (vs : ByteArray) (sv av : Value) (W : World) : Prop := (fun W => W.cell? ⟨w.heap.size, 0, none⟩ = some (.int .i64 k) ∧ W.cell? ⟨w.heap.size, 1, none⟩ = some (.int .i64 o) ∧ W.cell? ⟨w.heap.size, 2, none⟩ = some (.string nm) ∧ W.cell? ⟨w.heap.size, 3, none⟩ = some (.int .i64 vk) ∧ W.cell? ⟨w.heap.size, 4, none⟩ = some (.int .i64 vn) ∧ W.cell? ⟨w.heap.size, 5, none⟩ = some (.string vs) ∧ W.cell? ⟨w.heap.size, 6, none⟩ = some sv ∧ W.cell? ⟨w.heap.size, 7, none⟩ = some av ∧ Hid (Below w.heap.size w W ∧ w.heap.size + 1 ≤ W.heap.size)) W
theorem Box1.keep {w W W' : World} {k o : Int} {nm : ByteArray} {vk vn : Int} {vs : ByteArray} {sv av : Value} (h : Box1 w k o nm vk vn vs sv av W) (hb : Below W.heap.size W W') : Box1 w k o nm vk vn vs sv av W' := by
  obtain ⟨a0, a1, a2, a3, a4, a5, a6, a7, hh⟩ := h
  obtain ⟨hB, hs⟩ := hh.out
  have f := fun (g o : Nat) (hg : g < W.heap.size) => hb.cell (p := ⟨g, o, none⟩) hg
  refine ⟨?_, ?_, ?_, ?_, ?_, ?_, ?_, ?_, hB.trans (hb.mono hB.size), Nat.le_trans hs hb.size⟩
  all_goals (rw [f _ _ (by omega)]; assumption)
theorem Box1.bel {w W : World} {k o : Int} {nm : ByteArray} {vk vn : Int} {vs : ByteArray} {sv av : Value} (h : Box1 w k o nm vk vn vs sv av W) : Below w.heap.size w W := by
  obtain ⟨_, _, _, _, _, _, _, _, hh⟩ := h
  exact hh.out.1
theorem Box1.start (w : World) (k o : Int) (nm : ByteArray) (vk vn : Int) (vs : ByteArray) (sv av : Value) (t : TypeId) : Box1 w k o nm vk vn vs sv av (w.alloc (.cells #[.int .i64 k, .int .i64 o, .string nm, .int .i64 vk, .int .i64 vn, .string vs, sv, av] t)) := by
  refine ⟨?_, ?_, ?_, ?_, ?_, ?_, ?_, ?_, (Below.refl _ _).alloc (Nat.le_refl _) _, by simp⟩ <;> (rw [World.cell?_alloc_new]; rfl)

set_option maxRecDepth 100000 in
set_option maxHeartbeats 1000000 in
theorem plain_1 (o : Int) (nm : ByteArray) (vk vn : Int) (vs : ByteArray) (vl : List Int) (p : Option Addr) (m q : Nat) (a : Option Addr) (n c : Nat) (w : World) (hv : IsL w (.slice p m q) vl) (hE : Env w) (hg : Good vk vn vs vl) :
    Calls Tryz.prog 20 #[.agg #[.int .i64 1, .int .i64 o, .string nm, .int .i64 vk, .int .i64 vn, .string vs, .slice p m q, .slice a n c]] w (TP (showT vk vn vs vl) w) := by
  have HB := Lib.hid ((Below.refl w.heap.size w).alloc (Nat.le_refl _) (.cells #[.int .i64 1, .int .i64 o, .string nm, .int .i64 vk, .int .i64 vn, .string vs, .slice p m q, .slice a n c] 27))
  have hS := Lib.hid (shown_c vk vn vs _ vl _ (hv.below HB.out) (hE.below HB.out) hg)
  clear hv hE hg
  go_enter Tryz.func20, Tryz.ntmps20
  go_wp2_with fail
  refine hS.out.mono ?_
  rintro e w1 ⟨t, rfl, hs, ht, hB⟩
  go_wp2
  go_ret
  exact ⟨t, rfl, hs, ht, HB.out.trans (hB.out.mono HB.out.size)⟩
set_option maxRecDepth 100000 in
theorem plain_2 (o : Int) (nm : ByteArray) (vk vn : Int) (vs : ByteArray) (p : Option Addr) (m q : Nat) (a : Option Addr) (n c : Nat) (w : World) (hn : nm.size ≤ 16) :
    Calls Tryz.prog 20 #[.agg #[.int .i64 2, .int .i64 o, .string nm, .int .i64 vk, .int .i64 vn, .string vs, .slice p m q, .slice a n c]] w (TP nm.data.toList w) := by
  have HN := Lib.hid hn; clear hn
  go_enter Tryz.func20, Tryz.ntmps20
  go_wp2
  go_ret
  exact tp_ret (bs_of nm).symm (by rw [← Lib.size_eq]; have := HN.out; omega) ((Below.refl _ _).alloc (Nat.le_refl _) _)
set_option maxRecDepth 100000 in
theorem plain_3 (o : Int) (nm : ByteArray) (vk vn : Int) (vs : ByteArray) (p : Option Addr) (m q : Nat) (a : Option Addr) (n c : Nat) (w : World) (hn : nm.size ≤ 16) :
    Calls Tryz.prog 20 #[.agg #[.int .i64 3, .int .i64 o, .string nm, .int .i64 vk, .int .i64 vn, .string vs, .slice p m q, .slice a n c]] w (TP (rowT nm.data.toList) w) := by
  go_enter Tryz.func20, Tryz.ntmps20
  go_wp2
  go_ret
  refine tp_ret ?_ ?_ ((Below.refl _ _).alloc (Nat.le_refl _) _)
  · show bs [114, 111, 119, 40] ++ nm ++ bs [41] = _
    rw [← bs_of nm, bs_app, bs_app, bs_list]; simp [rowT]
  · simp only [rowT, List.length_append, List.length_cons, List.length_nil]; rw [← Lib.size_eq]; omega

def BoxW (w : World) (k o : Int) (nm : ByteArray) (vk vn : Int) (vs : ByteArray) (sv av : Value) (gb go : Nat) (word : ByteArray) (W : World) : Prop := (fun W => W.cell? ⟨w.heap.size, 0, none⟩ = some (.int .i64 k) ∧ W.cell? ⟨w.heap.size, 1, none⟩ = some (.int .i64 o) ∧ W.cell? ⟨w.heap.size, 2, none⟩ = some (.string nm) ∧ W.cell? ⟨w.heap.size, 3, none⟩ = some (.int .i64 vk) ∧ W.cell? ⟨w.heap.size, 4, none⟩ = some (.int .i64 vn) ∧ W.cell? ⟨w.heap.size, 5, none⟩ = some (.string vs) ∧ W.cell? ⟨w.heap.size, 6, none⟩ = some (sv) ∧ W.cell? ⟨w.heap.size, 7, none⟩ = some (av) ∧ W.cell? ⟨gb, go, none⟩ = some (.string word) ∧ Hid (Below w.heap.size w W ∧ w.heap.size + 1 ≤ W.heap.size)) W
theorem BoxW.bel {w W : World} {k o : Int} {nm : ByteArray} {vk vn : Int} {vs : ByteArray} {sv av : Value} {gb go : Nat} {word : ByteArray} (h : BoxW w k o nm vk vn vs sv av gb go word W) : Below w.heap.size w W := by
  obtain ⟨_, _, _, _, _, _, _, _, _, hh⟩ := h
  exact hh.out.1
theorem BoxW.keep {w W W' : World} {k o : Int} {nm : ByteArray} {vk vn : Int} {vs : ByteArray} {sv av : Value} {gb go : Nat} {word : ByteArray} (hg : gb < w.heap.size) (h : BoxW w k o nm vk vn vs sv av gb go word W) (hb : Below W.heap.size W W') : BoxW w k o nm vk vn vs sv av gb go word W' := by
  obtain ⟨a0, a1, a2, a3, a4, a5, a6, a7, a8, hh⟩ := h
  obtain ⟨hB, hs⟩ := hh.out
  have f := fun (g o : Nat) (hg : g < W.heap.size) => hb.cell (p := ⟨g, o, none⟩) hg
  refine ⟨?_, ?_, ?_, ?_, ?_, ?_, ?_, ?_, ?_, hB.trans (hb.mono hB.size), Nat.le_trans hs hb.size⟩
  all_goals (rw [f _ _ (by omega)]; assumption)
def BoxV (w : World) (k o : Int) (nm : ByteArray) (vk vn : Int) (vs : ByteArray) (sv av : Value) (gb go : Nat) (word : ByteArray) (b off : Nat) (g : Hd) (gs ga : Value) (W : World) : Prop := (fun W => W.cell? ⟨w.heap.size, 0, none⟩ = some (.int .i64 k) ∧ W.cell? ⟨w.heap.size, 1, none⟩ = some (.int .i64 o) ∧ W.cell? ⟨w.heap.size, 2, none⟩ = some (.string nm) ∧ W.cell? ⟨w.heap.size, 3, none⟩ = some (.int .i64 vk) ∧ W.cell? ⟨w.heap.size, 4, none⟩ = some (.int .i64 vn) ∧ W.cell? ⟨w.heap.size, 5, none⟩ = some (.string vs) ∧ W.cell? ⟨w.heap.size, 6, none⟩ = some (sv) ∧ W.cell? ⟨w.heap.size, 7, none⟩ = some (av) ∧ W.cell? ⟨gb, go, none⟩ = some (.string word) ∧ W.cell? ⟨b, off, none⟩ = some (.int .i64 g.k) ∧ W.cell? ⟨b, off + 1, none⟩ = some (.int .i64 g.o) ∧ W.cell? ⟨b, off + 2, none⟩ = some (.string g.nm) ∧ W.cell? ⟨b, off + 3, none⟩ = some (.int .i64 g.vk) ∧ W.cell? ⟨b, off + 4, none⟩ = some (.int .i64 g.vn) ∧ W.cell? ⟨b, off + 5, none⟩ = some (.string g.vs) ∧ W.cell? ⟨b, off + 6, none⟩ = some (gs) ∧ W.cell? ⟨b, off + 7, none⟩ = some (ga) ∧ Hid (Below w.heap.size w W ∧ w.heap.size + 1 ≤ W.heap.size)) W
theorem BoxV.bel {w W : World} {k o : Int} {nm : ByteArray} {vk vn : Int} {vs : ByteArray} {sv av : Value} {gb go : Nat} {word : ByteArray} {b off : Nat} {g : Hd} {gs ga : Value} (h : BoxV w k o nm vk vn vs sv av gb go word b off g gs ga W) : Below w.heap.size w W := by
  obtain ⟨_, _, _, _, _, _, _, _, _, _, _, _, _, _, _, _, _, hh⟩ := h
  exact hh.out.1
theorem BoxV.keep {w W W' : World} {k o : Int} {nm : ByteArray} {vk vn : Int} {vs : ByteArray} {sv av : Value} {gb go : Nat} {word : ByteArray} {b off : Nat} {g : Hd} {gs ga : Value} (hg : gb < w.heap.size) (hb0 : b < w.heap.size) (h : BoxV w k o nm vk vn vs sv av gb go word b off g gs ga W) (hb : Below W.heap.size W W') : BoxV w k o nm vk vn vs sv av gb go word b off g gs ga W' := by
  obtain ⟨a0, a1, a2, a3, a4, a5, a6, a7, a8, a9, a10, a11, a12, a13, a14, a15, a16, hh⟩ := h
  obtain ⟨hB, hs⟩ := hh.out
  have f := fun (g o : Nat) (hg : g < W.heap.size) => hb.cell (p := ⟨g, o, none⟩) hg
  refine ⟨?_, ?_, ?_, ?_, ?_, ?_, ?_, ?_, ?_, ?_, ?_, ?_, ?_, ?_, ?_, ?_, ?_, hB.trans (hb.mono hB.size), Nat.le_trans hs hb.size⟩
  all_goals (rw [f _ _ (by omega)]; assumption)
def BoxU (w : World) (k o : Int) (nm : ByteArray) (vk vn : Int) (vs : ByteArray) (sv av : Value) (b off : Nat) (g : Hd) (gs ga : Value) (g2 : Hd) (gs2 ga2 : Value) (W : World) : Prop := (fun W => W.cell? ⟨w.heap.size, 0, none⟩ = some (.int .i64 k) ∧ W.cell? ⟨w.heap.size, 1, none⟩ = some (.int .i64 o) ∧ W.cell? ⟨w.heap.size, 2, none⟩ = some (.string nm) ∧ W.cell? ⟨w.heap.size, 3, none⟩ = some (.int .i64 vk) ∧ W.cell? ⟨w.heap.size, 4, none⟩ = some (.int .i64 vn) ∧ W.cell? ⟨w.heap.size, 5, none⟩ = some (.string vs) ∧ W.cell? ⟨w.heap.size, 6, none⟩ = some (sv) ∧ W.cell? ⟨w.heap.size, 7, none⟩ = some (av) ∧ W.cell? ⟨b, off, none⟩ = some (.int .i64 g.k) ∧ W.cell? ⟨b, off + 1, none⟩ = some (.int .i64 g.o) ∧ W.cell? ⟨b, off + 2, none⟩ = some (.string g.nm) ∧ W.cell? ⟨b, off + 3, none⟩ = some (.int .i64 g.vk) ∧ W.cell? ⟨b, off + 4, none⟩ = some (.int .i64 g.vn) ∧ W.cell? ⟨b, off + 5, none⟩ = some (.string g.vs) ∧ W.cell? ⟨b, off + 6, none⟩ = some (gs) ∧ W.cell? ⟨b, off + 7, none⟩ = some (ga) ∧ W.cell? ⟨b, off + 8, none⟩ = some (.int .i64 g2.k) ∧ W.cell? ⟨b, off + 8 + 1, none⟩ = some (.int .i64 g2.o) ∧ W.cell? ⟨b, off + 8 + 2, none⟩ = some (.string g2.nm) ∧ W.cell? ⟨b, off + 8 + 3, none⟩ = some (.int .i64 g2.vk) ∧ W.cell? ⟨b, off + 8 + 4, none⟩ = some (.int .i64 g2.vn) ∧ W.cell? ⟨b, off + 8 + 5, none⟩ = some (.string g2.vs) ∧ W.cell? ⟨b, off + 8 + 6, none⟩ = some (gs2) ∧ W.cell? ⟨b, off + 8 + 7, none⟩ = some (ga2) ∧ Hid (Below w.heap.size w W ∧ w.heap.size + 1 ≤ W.heap.size)) W
theorem BoxU.bel {w W : World} {k o : Int} {nm : ByteArray} {vk vn : Int} {vs : ByteArray} {sv av : Value} {b off : Nat} {g : Hd} {gs ga : Value} {g2 : Hd} {gs2 ga2 : Value} (h : BoxU w k o nm vk vn vs sv av b off g gs ga g2 gs2 ga2 W) : Below w.heap.size w W := by
  obtain ⟨_, _, _, _, _, _, _, _, _, _, _, _, _, _, _, _, _, _, _, _, _, _, _, _, hh⟩ := h
  exact hh.out.1
theorem BoxU.keep {w W W' : World} {k o : Int} {nm : ByteArray} {vk vn : Int} {vs : ByteArray} {sv av : Value} {b off : Nat} {g : Hd} {gs ga : Value} {g2 : Hd} {gs2 ga2 : Value} (hb0 : b < w.heap.size) (h : BoxU w k o nm vk vn vs sv av b off g gs ga g2 gs2 ga2 W) (hb : Below W.heap.size W W') : BoxU w k o nm vk vn vs sv av b off g gs ga g2 gs2 ga2 W' := by
  obtain ⟨a0, a1, a2, a3, a4, a5, a6, a7, a8, a9, a10, a11, a12, a13, a14, a15, a16, a17, a18, a19, a20, a21, a22, a23, hh⟩ := h
  obtain ⟨hB, hs⟩ := hh.out
  have f := fun (g o : Nat) (hg : g < W.heap.size) => hb.cell (p := ⟨g, o, none⟩) hg
  refine ⟨?_, ?_, ?_, ?_, ?_, ?_, ?_, ?_, ?_, ?_, ?_, ?_, ?_, ?_, ?_, ?_, ?_, ?_, ?_, ?_, ?_, ?_, ?_, ?_, hB.trans (hb.mono hB.size), Nat.le_trans hs hb.size⟩
  all_goals (rw [f _ _ (by omega)]; assumption)
end Go.Proofs.YtcdifmnakppfkaaGreatDoor
