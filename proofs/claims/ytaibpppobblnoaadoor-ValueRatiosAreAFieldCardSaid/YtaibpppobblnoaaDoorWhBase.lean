/-
  Rows of limbs in memory: those that are read as numbers, and those that a call fills.
-/
import Derived.Test.YtaibpppobblnoaaDoorRows
import Derived.Test.YtaibpppobblnoaaDoorShelf
import Derived.Test.YtaibpppobblnoaaDoorWhMathB
import Derived.WalkKit
import Derived.WalkSpells
import Derived.Deep.QuietTactic
import Derived.BigQuiet
import Derived.RegionTactic
import Derived.OneCell
import Derived.Deep.OwnRows
import Derived.Lib.Hide
import Derived.IntWalk
import Derived.Below
import Derived.WalkSmall
namespace Go.Proofs.YtaibpppobblnoaaDoor
open Go.RowKit

theorem ret_int {k : IntKind} {a b : Int} (h : a = b) : Ending.returned (.int k a) = .returned (.int k b) := by rw [h]
theorem bel_drewN (w : World) (n : Nat) : Below w.heap.size w (w.drewN n) := ⟨rfl, rfl, rfl, Nat.le_refl _, fun _ _ => rfl⟩
theorem bel_one (w : World) (o : Obj) : Below w.heap.size w (w.alloc o) := (Below.refl _ _).alloc (Nat.le_refl _) o
theorem infoL : (Tryd.prog.info? 59).map (fun i => (i.zero, i.size, i.bytes)) = some (some (.int .u64 0), 1, 8) := by kernel_rfl
/-- A slice that reads as k limbs. -/
def Rl (W : World) (a : Option Addr) (k : Nat) (f : Nat → Nat) : Prop :=
  k ≤ 100000 ∧ Lb f k ∧ (0 < k → ∃ b off, a = some ⟨b, off, none⟩ ∧ b < W.heap.size ∧ ∀ j, j < k → W.cell? ⟨b, off + j, none⟩ = some (.int .u64 (f j)))
theorem Rl.below {W W' : World} {a : Option Addr} {k : Nat} {f : Nat → Nat} (h : Rl W a k f) (hb : Below W.heap.size W W') : Rl W' a k f :=
  ⟨h.1, h.2.1, fun h0 => by
    obtain ⟨b, off, e, hl, hc⟩ := h.2.2 h0
    exact ⟨b, off, e, Nat.lt_of_lt_of_le hl hb.size, fun j hj => by rw [hb.cell (p := ⟨b, off + j, none⟩) hl]; exact hc j hj⟩⟩
theorem Rl.at_ {W : World} {a : Option Addr} {k : Nat} {f : Nat → Nat} (h : Rl W a k f) {j : Nat} (hj : j < k) :
    ∃ b off, a = some ⟨b, off, none⟩ ∧ b < W.heap.size ∧ W.cell? ⟨b, off + j, none⟩ = some (.int .u64 (f j)) := by
  obtain ⟨b, off, e, hl, hc⟩ := h.2.2 (by omega)
  exact ⟨b, off, e, hl, hc j hj⟩
theorem Rl.nil (W : World) (a : Option Addr) (f : Nat → Nat) : Rl W a 0 f := ⟨by omega, fun j hj => by omega, fun h => by omega⟩
theorem Rl.low {W : World} {a : Option Addr} {k m : Nat} {f : Nat → Nat} (h : Rl W a k f) (hm : m ≤ k) : Rl W a m f :=
  ⟨by have := h.1; omega, fun j hj => h.2.1 j (by omega), fun h0 => by
    obtain ⟨b, off, e, hl, hc⟩ := h.2.2 (by omega)
    exact ⟨b, off, e, hl, fun j hj => hc j (by omega)⟩⟩
/-- A slice without needless zeros that reads as a number. -/
def Pl (a : Option Addr) (c : Nat) : Prop := (a = none ∧ c = 0) ∨ ∃ b off, a = some ⟨b, off, none⟩
theorem Pl.none_ : Pl none 0 := .inl ⟨rfl, rfl⟩
theorem Pl.some_ (b off : Nat) {c : Nat} : Pl (some ⟨b, off, none⟩) c := .inr ⟨b, off, rfl⟩
def Nm (W : World) (a : Option Addr) (k c n : Nat) : Prop := ∃ f, Rl W a k f ∧ k ≤ c ∧ c ≤ 9223372036854775807 ∧ Top f k ∧ S f k = n ∧ Pl a c
theorem Nm.below {W W' : World} {a : Option Addr} {k c n : Nat} (h : Nm W a k c n) (hb : Below W.heap.size W W') : Nm W' a k c n := by
  obtain ⟨f, h1, h2⟩ := h
  exact ⟨f, h1.below hb, h2⟩
theorem Nm.zero (W : World) (a : Option Addr) (c : Nat) (hc : c ≤ 9223372036854775807) (ha : Pl a c) : Nm W a 0 c 0 := ⟨fun _ => 0, Rl.nil _ _ _, by omega, hc, .inl rfl, rfl, ha⟩
theorem Nm.len {W : World} {a : Option Addr} {k c n K : Nat} (h : Nm W a k c n) (hn : n < bp K) : k ≤ K := by
  obtain ⟨f, _, _, _, ht, hs, _⟩ := h
  exact top_len ht (by rw [hs]; exact hn)
theorem Nm.lt {W : World} {a : Option Addr} {k c n : Nat} (h : Nm W a k c n) : n < bp k := by
  obtain ⟨f, h1, _, _, _, hs, _⟩ := h
  rw [← hs]; exact S_lt h1.2.1
theorem Nm.pos {W : World} {a : Option Addr} {k c n : Nat} (h : Nm W a k c n) (hk : 0 < k) : bp (k - 1) ≤ n := by
  obtain ⟨f, _, _, _, ht, hs, _⟩ := h
  rw [← hs]; exact top_ge ht hk
theorem Nm.nul {W : World} {a : Option Addr} {k c : Nat} (h : Nm W a k c 0) : k = 0 := by
  obtain ⟨f, _, _, _, ht, hs, _⟩ := h
  exact top_zero ht hs
theorem Nm.one {W : World} {a : Option Addr} {k c n : Nat} (h : Nm W a k c n) (hn : 0 < n) : 0 < k := by
  rcases Nat.eq_zero_or_pos k with e | e
  · subst e
    have := h.lt
    rw [bp_zero] at this
    omega
  · exact e
/-- A result that is a number. -/
def NmPost (n : Nat) (w : World) (e : Ending) (w' : World) : Prop := ∃ a k c, e = .returned (.slice a k c) ∧ Nm w' a k c n ∧ Below w.heap.size w w'
/-- A block of the call's own that holds K limbs. -/
def Bf (W : World) (g K : Nat) (f : Nat → Nat) : Prop := g < W.heap.size ∧ Lb f K ∧ ∀ j, j < K → W.cell? ⟨g, j, none⟩ = some (.int .u64 (f j)) ∧ W.frozen? ⟨g, j, none⟩ = false
theorem Bf.made (W : World) (K : Nat) (e : TypeId) : Bf (W.alloc (.cells (madeCells #[.int .u64 0] K) e)) W.heap.size K (fun _ => 0) := by
  refine ⟨by simp, fun j _ => (by decide : 0 < 18446744073709551616), fun j hj => ⟨?_, by simp⟩⟩
  rw [World.cell?_alloc_new, ← Array.getElem?_toList, toList_madeCells_one]
  simp [hj]
theorem Bf.put {W : World} {g K i x : Nat} {f : Nat → Nat} (h : Bf W g K f) (hi : i < K) (hx : x < 18446744073709551616) : Bf (W.setCell ⟨g, i, none⟩ (.int .u64 x)) g K (put f i x) := by
  refine ⟨by simpa using h.1, lb_put h.2.1 hx, fun j hj => ⟨?_, by rw [World.frozen?_setCell]; exact (h.2.2 j hj).2⟩⟩
  by_cases e : j = i
  · subst e
    rw [World.cell?_setCell_same _ _ _ (h.2.2 j hj).1, put_same]
  · rw [World.cell?_setCell_other _ _ _ _ (by intro e2; injection e2 with _ e3; exact e e3.symm), (h.2.2 j hj).1, put_ne e]
theorem Bf.below {W W' : World} {g K : Nat} {f : Nat → Nat} (h : Bf W g K f) (hb : Below W.heap.size W W') : Bf W' g K f :=
  ⟨Nat.lt_of_lt_of_le h.1 hb.size, h.2.1, fun j hj => ⟨(hb.cell (p := ⟨g, j, none⟩) h.1).trans (h.2.2 j hj).1, (hb.frozen (p := ⟨g, j, none⟩) h.1).trans (h.2.2 j hj).2⟩⟩
theorem Bf.congr {W : World} {g K : Nat} {f f' : Nat → Nat} (h : Bf W g K f) (he : ∀ j, j < K → f' j = f j) : Bf W g K f' :=
  ⟨h.1, fun j hj => by rw [he j hj]; exact h.2.1 j hj, fun j hj => by rw [he j hj]; exact h.2.2 j hj⟩
/-- A window of a block of the call's own, as it is read. -/
theorem Bf.rl {W : World} {g K i m : Nat} {f : Nat → Nat} (h : Bf W g K f) (hi : i + m ≤ K) (hK : K ≤ 100000) : Rl W (some ⟨g, i, none⟩) m (from_ f i) :=
  ⟨by omega, fun j hj => h.2.1 _ (by omega), fun _ => ⟨g, i, rfl, h.1, fun j hj => (h.2.2 (i + j) (by omega)).1⟩⟩
theorem Bf.rl0 {W : World} {g K m : Nat} {f : Nat → Nat} (h : Bf W g K f) (hi : m ≤ K) (hK : K ≤ 100000) : Rl W (some ⟨g, 0, none⟩) m f :=
  ⟨by omega, fun j hj => h.2.1 _ (by omega), fun _ => ⟨g, 0, rfl, h.1, fun j hj => by rw [Nat.zero_add]; exact (h.2.2 j (by omega)).1⟩⟩
theorem mk_limbs (n : Nat) (hn : n ≤ 100000) (w : World) : (Instr.makeSlice 35 (.int .i64 n) (.int .i64 n)).run Tryd.prog w = .ok (.slice (some ⟨w.heap.size, 0, none⟩) n n) (w.alloc (.cells (madeCells #[.int .u64 0] n) 59)) := by
  have hmk := run_make_row' (P := Tryd.prog) 35 59 (.int .u64 0) 8 Tryd.underlying35 infoL rfl .i64 .i64 n (by omega) (by omega)
  simpa using hmk w
theorem mk_limbsI (z : Int) (n : Nat) (hz : z = (n : Int)) (hn : n ≤ 100000) (w : World) : (Instr.makeSlice 35 (.int .i64 z) (.int .i64 z)).run Tryd.prog w = .ok (.slice (some ⟨w.heap.size, 0, none⟩) n n) (w.alloc (.cells (madeCells #[.int .u64 0] n) 59)) := by
  rw [hz]; exact mk_limbs n hn w
/-- What trim leaves: the beginning of the row. -/
def TrimPost (a : Option Addr) (c n : Nat) (w : World) (e : Ending) (w' : World) : Prop := ∃ m, e = .returned (.slice a m c) ∧ Nm w' a m c n ∧ w = w'
set_option maxHeartbeats 1000000 in
theorem trim_c2 (a : Option Addr) (k c : Nat) (f : Nat → Nat) (w : World) (h : Rl w a k f) (hk : k ≤ c) (hc : c ≤ 9223372036854775807) (ha : Pl a c) :
    Calls Tryd.prog 48 #[.slice a k c] w (TrimPost a c (S f k) w) := by
  have H := Lib.hid h
  clear h
  go_enter Tryd.func48, Tryd.ntmps48
  go_wp2
  go_loop [0] (fun s => ∃ m : Nat, m ≤ k ∧ s = .slice a m c ∧ Hid (S f m = S f k)) (fun s => match s with | .slice _ m _ => m | _ => 0)
  case atStart => exact ⟨k, Nat.le_refl _, rfl, rfl⟩
  case round =>
    obtain ⟨m, hm, rfl, hS⟩ := hrel
    rcases Nat.eq_zero_or_pos m with e | e
    · subst e
      go_wp2
      go_ret
      exact ⟨0, rfl, by rw [← hS.out]; exact Nm.zero _ _ _ hc ha, rfl⟩
    · obtain ⟨p, rfl⟩ : ∃ p, m = p + 1 := ⟨m - 1, by omega⟩
      obtain ⟨b, off, rfl, hb, hcell⟩ := H.out.at_ (show p < k by omega)
      have hp1 : (0 : Int) < (p : Int) + 1 := by omega
      have HS := Lib.hid (S_succ f p)
      by_cases h0 : f p = 0
      · rw [h0] at hcell HS
        have HS2 : Hid (S f p = S f k) := by unfold Hid; rw [← hS.out, HS.out]; omega
        go_wp2
        go_round
        case rel => exact ⟨p, by omega, rfl, HS2⟩
        case measure => simp
      · have HT : Hid (Top f (p + 1)) := .inr (by simpa using h0)
        have d : ((f p : Int) == 0) = false := by rw [beq_eq_false_iff_ne]; omega
        have d' : (f p == 0) = false := by rw [beq_eq_false_iff_ne]; exact h0
        generalize f p = x at *
        go_wp2
        go_ret
        exact ⟨p + 1, rfl, ⟨f, H.out.low hm, by omega, hc, HT.out, hS.out, ha⟩, rfl⟩
theorem trim_c (a : Option Addr) (k c : Nat) (f : Nat → Nat) (w : World) (h : Rl w a k f) (hk : k ≤ c) (hc : c ≤ 9223372036854775807) (ha : Pl a c) :
    Calls Tryd.prog 48 #[.slice a k c] w (NmPost (S f k) w) :=
  (trim_c2 a k c f w h hk hc ha).mono fun e w' ⟨m, he, hn, hw⟩ => ⟨a, m, c, he, hn, by rw [hw]; exact Below.refl _ _⟩
theorem Nm.grown {W W' : World} {a : Option Addr} {k c n : Nat} {row : Option Nat} (h : Nm W a k c n) (hg : W.grownBy W' row) (hne : ∀ b off, a = some ⟨b, off, none⟩ → some b ≠ row) : Nm W' a k c n := by
  obtain ⟨f, h1, h2⟩ := h
  refine ⟨f, ⟨h1.1, h1.2.1, fun h0 => ?_⟩, h2⟩
  obtain ⟨b, off, e, hl, hc⟩ := h1.2.2 h0
  refine ⟨b, off, e, Nat.lt_of_lt_of_le hl hg.size, fun j hj => ?_⟩
  rw [World.cell?_of_block (a := ⟨b, off + j, none⟩) (hg.block b hl (hne b off e))]
  exact hc j hj
end Go.Proofs.YtaibpppobblnoaaDoor
