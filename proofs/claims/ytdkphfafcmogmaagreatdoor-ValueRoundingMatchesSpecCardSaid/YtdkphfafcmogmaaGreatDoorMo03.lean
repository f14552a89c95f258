/-
  Rows of limbs in memory: those that are read as numbers, and those that a call fills.
  Rows of digits in memory: those that are read as numbers of the reference, and those that a call makes.
  Numbers of the reference: small numbers as digits.
-/
import Derived.Test.YtdkphfafcmogmaaGreatDoorRows
import Derived.Test.YtdkphfafcmogmaaGreatDoorShelf
import Derived.Test.YtdkphfafcmogmaaGreatDoorMo01
import Derived.WalkKit
import Derived.WalkSpells
import Derived.Deep.QuietTactic
import Derived.BigQuiet
import Derived.RegionTactic
import Derived.OneCell
import Derived.Deep.OwnRows
import Derived.Lib.Hide
import Derived.IntWalk
import Derived.Below
import Derived.WalkSmall
import Derived.Test.YtdkphfafcmogmaaGreatDoorMo02
namespace Go.Proofs.YtdkphfafcmogmaaGreatDoor
open Go.RowKit

theorem ret_int {k : IntKind} {a b : Int} (h : a = b) : Ending.returned (.int k a) = .returned (.int k b) := by rw [h]
theorem bel_drewN (w : World) (n : Nat) : Below w.heap.size w (w.drewN n) := ⟨rfl, rfl, rfl, Nat.le_refl _, fun _ _ => rfl⟩
theorem bel_one (w : World) (o : Obj) : Below w.heap.size w (w.alloc o) := (Below.refl _ _).alloc (Nat.le_refl _) o
theorem infoL : (Tryz.prog.info? 81).map (fun i => (i.zero, i.size, i.bytes)) = some (some (.int .u64 0), 1, 8) := by kernel_rfl
/-- A slice that reads as k limbs. -/
def Rl (W : World) (a : Option Addr) (k : Nat) (f : Nat → Nat) : Prop :=
  k ≤ 100000 ∧ Lb f k ∧ (0 < k → ∃ b off, a = some ⟨b, off, none⟩ ∧ b < W.heap.size ∧ ∀ j, j < k → W.cell? ⟨b, off + j, none⟩ = some (.int .u64 (f j)))
theorem Rl.below {W W' : World} {a : Option Addr} {k : Nat} {f : Nat → Nat} (h : Rl W a k f) (hb : Below W.heap.size W W') : Rl W' a k f :=
  ⟨h.1, h.2.1, fun h0 => by
    obtain ⟨b, off, e, hl, hc⟩ := h.2.2 h0
    exact ⟨b, off, e, Nat.lt_of_lt_of_le hl hb.size, fun j hj => by rw [hb.cell (p := ⟨b, off + j, none⟩) hl]; exact hc j hj⟩⟩
theorem Rl.at_ {W : World} {a : Option Addr} {k : Nat} {f : Nat → Nat} (h : Rl W a k f) {j : Nat} (hj : j < k) :
    ∃ b off, a = some ⟨b, off, none⟩ ∧ b < W.heap.size ∧ W.cell? ⟨b, off + j, none⟩ = some (.int .u64 (f j)) := by
  obtain ⟨b, off, e, hl, hc⟩ := h.2.2 (by omega)
  exact ⟨b, off, e, hl, hc j hj⟩
theorem Rl.nil (W : World) (a : Option Addr) (f : Nat → Nat) : Rl W a 0 f := ⟨by omega, fun j hj => by omega, fun h => by omega⟩
theorem Rl.low {W : World} {a : Option Addr} {k m : Nat} {f : Nat → Nat} (h : Rl W a k f) (hm : m ≤ k) : Rl W a m f :=
  ⟨by have := h.1; omega, fun j hj => h.2.1 j (by omega), fun h0 => by
    obtain ⟨b, off, e, hl, hc⟩ := h.2.2 (by omega)
    exact ⟨b, off, e, hl, fun j hj => hc j (by omega)⟩⟩
/-- A slice without needless zeros that reads as a number. -/
def Pl (a : Option Addr) (c : Nat) : Prop := (a = none ∧ c = 0) ∨ ∃ b off, a = some ⟨b, off, none⟩
theorem Pl.none_ : Pl none 0 := .inl ⟨rfl, rfl⟩
theorem Pl.some_ (b off : Nat) {c : Nat} : Pl (some ⟨b, off, none⟩) c := .inr ⟨b, off, rfl⟩
def Nm (W : World) (a : Option Addr) (k c n : Nat) : Prop := ∃ f, Rl W a k f ∧ k ≤ c ∧ c ≤ 9223372036854775807 ∧ Top f k ∧ S f k = n ∧ Pl a c
theorem Nm.below {W W' : World} {a : Option Addr} {k c n : Nat} (h : Nm W a k c n) (hb : Below W.heap.size W W') : Nm W' a k c n := by
  obtain ⟨f, h1, h2⟩ := h
  exact ⟨f, h1.below hb, h2⟩
theorem Nm.zero (W : World) (a : Option Addr) (c : Nat) (hc : c ≤ 9223372036854775807) (ha : Pl a c) : Nm W a 0 c 0 := ⟨fun _ => 0, Rl.nil _ _ _, by omega, hc, .inl rfl, rfl, ha⟩
theorem Nm.len {W : World} {a : Option Addr} {k c n K : Nat} (h : Nm W a k c n) (hn : n < bp K) : k ≤ K := by
  obtain ⟨f, _, _, _, ht, hs, _⟩ := h
  exact top_len ht (by rw [hs]; exact hn)
theorem Nm.lt {W : World} {a : Option Addr} {k c n : Nat} (h : Nm W a k c n) : n < bp k := by
  obtain ⟨f, h1, _, _, _, hs, _⟩ := h
  rw [← hs]; exact S_lt h1.2.1
theorem Nm.pos {W : World} {a : Option Addr} {k c n : Nat} (h : Nm W a k c n) (hk : 0 < k) : bp (k - 1) ≤ n := by
  obtain ⟨f, _, _, _, ht, hs, _⟩ := h
  rw [← hs]; exact top_ge ht hk
theorem Nm.nul {W : World} {a : Option Addr} {k c : Nat} (h : Nm W a k c 0) : k = 0 := by
  obtain ⟨f, _, _, _, ht, hs, _⟩ := h
  exact top_zero ht hs
theorem Nm.one {W : World} {a : Option Addr} {k c n : Nat} (h : Nm W a k c n) (hn : 0 < n) : 0 < k := by
  rcases Nat.eq_zero_or_pos k with e | e
  · subst e
    have := h.lt
    rw [bp_zero] at this
    omega
  · exact e
/-- A result that is a number. -/
def NmPost (n : Nat) (w : World) (e : Ending) (w' : World) : Prop := ∃ a k c, e = .returned (.slice a k c) ∧ Nm w' a k c n ∧ Below w.heap.size w w'
/-- A block of the call's own that holds K limbs. -/
def Bf (W : World) (g K : Nat) (f : Nat → Nat) : Prop := g < W.heap.size ∧ Lb f K ∧ ∀ j, j < K → W.cell? ⟨g, j, none⟩ = some (.int .u64 (f j)) ∧ W.frozen? ⟨g, j, none⟩ = false
theorem Bf.made (W : World) (K : Nat) (e : TypeId) : Bf (W.alloc (.cells (madeCells #[.int .u64 0] K) e)) W.heap.size K (fun _ => 0) := by
  refine ⟨by simp, fun j _ => (by decide : 0 < 18446744073709551616), fun j hj => ⟨?_, by simp⟩⟩
  rw [World.cell?_alloc_new, ← Array.getElem?_toList, toList_madeCells_one]
  simp [hj]
theorem Bf.put {W : World} {g K i x : Nat} {f : Nat → Nat} (h : Bf W g K f) (hi : i < K) (hx : x < 18446744073709551616) : Bf (W.setCell ⟨g, i, none⟩ (.int .u64 x)) g K (put f i x) := by
  refine ⟨by simpa using h.1, lb_put h.2.1 hx, fun j hj => ⟨?_, by rw [World.frozen?_setCell]; exact (h.2.2 j hj).2⟩⟩
  by_cases e : j = i
  · subst e
    rw [World.cell?_setCell_same _ _ _ (h.2.2 j hj).1, put_same]
  · rw [World.cell?_setCell_other _ _ _ _ (by intro e2; injection e2 with _ e3; exact e e3.symm), (h.2.2 j hj).1, put_ne e]
theorem Bf.below {W W' : World} {g K : Nat} {f : Nat → Nat} (h : Bf W g K f) (hb : Below W.heap.size W W') : Bf W' g K f :=
  ⟨Nat.lt_of_lt_of_le h.1 hb.size, h.2.1, fun j hj => ⟨(hb.cell (p := ⟨g, j, none⟩) h.1).trans (h.2.2 j hj).1, (hb.frozen (p := ⟨g, j, none⟩) h.1).trans (h.2.2 j hj).2⟩⟩
theorem Bf.congr {W : World} {g K : Nat} {f f' : Nat → Nat} (h : Bf W g K f) (he : ∀ j, j < K → f' j = f j) : Bf W g K f' :=
  ⟨h.1, fun j hj => by rw [he j hj]; exact h.2.1 j hj, fun j hj => by rw [he j hj]; exact h.2.2 j hj⟩
/-- A window of a block of the call's own, as it is read. -/
theorem Bf.rl {W : World} {g K i m : Nat} {f : Nat → Nat} (h : Bf W g K f) (hi : i + m ≤ K) (hK : K ≤ 100000) : Rl W (some ⟨g, i, none⟩) m (from_ f i) :=
  ⟨by omega, fun j hj => h.2.1 _ (by omega), fun _ => ⟨g, i, rfl, h.1, fun j hj => (h.2.2 (i + j) (by omega)).1⟩⟩
theorem Bf.rl0 {W : World} {g K m : Nat} {f : Nat → Nat} (h : Bf W g K f) (hi : m ≤ K) (hK : K ≤ 100000) : Rl W (some ⟨g, 0, none⟩) m f :=
  ⟨by omega, fun j hj => h.2.1 _ (by omega), fun _ => ⟨g, 0, rfl, h.1, fun j hj => by rw [Nat.zero_add]; exact (h.2.2 j (by omega)).1⟩⟩
theorem mk_limbs (n : Nat) (hn : n ≤ 100000) (w : World) : (Instr.makeSlice 42 (.int .i64 n) (.int .i64 n)).run Tryz.prog w = .ok (.slice (some ⟨w.heap.size, 0, none⟩) n n) (w.alloc (.cells (madeCells #[.int .u64 0] n) 81)) := by
  have hmk := run_make_row' (P := Tryz.prog) 42 81 (.int .u64 0) 8 Tryz.underlying42 infoL rfl .i64 .i64 n (by omega) (by omega)
  simpa using hmk w
theorem mk_limbsI (z : Int) (n : Nat) (hz : z = (n : Int)) (hn : n ≤ 100000) (w : World) : (Instr.makeSlice 42 (.int .i64 z) (.int .i64 z)).run Tryz.prog w = .ok (.slice (some ⟨w.heap.size, 0, none⟩) n n) (w.alloc (.cells (madeCells #[.int .u64 0] n) 81)) := by
  rw [hz]; exact mk_limbs n hn w
/-- What trim leaves: the beginning of the row. -/
def TrimPost (a : Option Addr) (c n : Nat) (w : World) (e : Ending) (w' : World) : Prop := ∃ m, e = .returned (.slice a m c) ∧ Nm w' a m c n ∧ w = w'
set_option maxHeartbeats 1000000 in
theorem trim_c2 (a : Option Addr) (k c : Nat) (f : Nat → Nat) (w : World) (h : Rl w a k f) (hk : k ≤ c) (hc : c ≤ 9223372036854775807) (ha : Pl a c) :
    Calls Tryz.prog 101 #[.slice a k c] w (TrimPost a c (S f k) w) := by
  have H := Lib.hid h
  clear h
  go_enter Tryz.func101, Tryz.ntmps101
  go_wp2
  go_loop [0] (fun s => ∃ m : Nat, m ≤ k ∧ s = .slice a m c ∧ Hid (S f m = S f k)) (fun s => match s with | .slice _ m _ => m | _ => 0)
  case atStart => exact ⟨k, Nat.le_refl _, rfl, rfl⟩
  case round =>
    obtain ⟨m, hm, rfl, hS⟩ := hrel
    rcases Nat.eq_zero_or_pos m with e | e
    · subst e
      go_wp2
      go_ret
      exact ⟨0, rfl, by rw [← hS.out]; exact Nm.zero _ _ _ hc ha, rfl⟩
    · obtain ⟨p, rfl⟩ : ∃ p, m = p + 1 := ⟨m - 1, by omega⟩
      obtain ⟨b, off, rfl, hb, hcell⟩ := H.out.at_ (show p < k by omega)
      have hp1 : (0 : Int) < (p : Int) + 1 := by omega
      have HS := Lib.hid (S_succ f p)
      by_cases h0 : f p = 0
      · rw [h0] at hcell HS
        have HS2 : Hid (S f p = S f k) := by unfold Hid; rw [← hS.out, HS.out]; omega
        go_wp2
        go_round
        case rel => exact ⟨p, by omega, rfl, HS2⟩
        case measure => simp
      · have HT : Hid (Top f (p + 1)) := .inr (by simpa using h0)
        have d : ((f p : Int) == 0) = false := by rw [beq_eq_false_iff_ne]; omega
        have d' : (f p == 0) = false := by rw [beq_eq_false_iff_ne]; exact h0
        generalize f p = x at *
        go_wp2
        go_ret
        exact ⟨p + 1, rfl, ⟨f, H.out.low hm, by omega, hc, HT.out, hS.out, ha⟩, rfl⟩
theorem trim_c (a : Option Addr) (k c : Nat) (f : Nat → Nat) (w : World) (h : Rl w a k f) (hk : k ≤ c) (hc : c ≤ 9223372036854775807) (ha : Pl a c) :
    Calls Tryz.prog 101 #[.slice a k c] w (NmPost (S f k) w) :=
  (trim_c2 a k c f w h hk hc ha).mono fun e w' ⟨m, he, hn, hw⟩ => ⟨a, m, c, he, hn, by rw [hw]; exact Below.refl _ _⟩
theorem Nm.grown {W W' : World} {a : Option Addr} {k c n : Nat} {row : Option Nat} (h : Nm W a k c n) (hg : W.grownBy W' row) (hne : ∀ b off, a = some ⟨b, off, none⟩ → some b ≠ row) : Nm W' a k c n := by
  obtain ⟨f, h1, h2⟩ := h
  refine ⟨f, ⟨h1.1, h1.2.1, fun h0 => ?_⟩, h2⟩
  obtain ⟨b, off, e, hl, hc⟩ := h1.2.2 h0
  refine ⟨b, off, e, Nat.lt_of_lt_of_le hl hg.size, fun j hj => ?_⟩
  rw [World.cell?_of_block (a := ⟨b, off + j, none⟩) (hg.block b hl (hne b off e))]
  exact hc j hj
end Go.Proofs.YtdkphfafcmogmaaGreatDoor
namespace Go.Proofs.YtdkphfafcmogmaaGreatDoor
open Go.RowKit

theorem infoT : (Tryz.prog.info? 3).map (fun i => (i.zero, i.size, i.bytes)) = some (some (.int .i64 0), 1, 8) := by kernel_rfl
theorem info_int : ∃ i, Tryz.prog.info? 3 = some i ∧ i.zero = some (.int .i64 0) ∧ i.size = 1 ∧ i.bytes = 8 := by
  have h := infoT
  cases e : Tryz.prog.info? 3 with
  | none => rw [e] at h; cases h
  | some i => rw [e] at h; simp at h; exact ⟨i, rfl, h⟩
/-- A slice that reads as k digits. -/
def Rj (W : World) (a : Option Addr) (k : Nat) (f : Nat → Nat) : Prop :=
  k ≤ 100000 ∧ Ld f k ∧ (0 < k → ∃ b off, a = some ⟨b, off, none⟩ ∧ b < W.heap.size ∧ ∀ j, j < k → W.cell? ⟨b, off + j, none⟩ = some (.int .i64 (f j)))
theorem Rj.below {W W' : World} {a : Option Addr} {k : Nat} {f : Nat → Nat} (h : Rj W a k f) (hb : Below W.heap.size W W') : Rj W' a k f :=
  ⟨h.1, h.2.1, fun h0 => by
    obtain ⟨b, off, e, hl, hc⟩ := h.2.2 h0
    exact ⟨b, off, e, Nat.lt_of_lt_of_le hl hb.size, fun j hj => by rw [hb.cell (p := ⟨b, off + j, none⟩) hl]; exact hc j hj⟩⟩
theorem Rj.at_ {W : World} {a : Option Addr} {k : Nat} {f : Nat → Nat} (h : Rj W a k f) {j : Nat} (hj : j < k) :
    ∃ b off, a = some ⟨b, off, none⟩ ∧ b < W.heap.size ∧ W.cell? ⟨b, off + j, none⟩ = some (.int .i64 (f j)) := by
  obtain ⟨b, off, e, hl, hc⟩ := h.2.2 (by omega)
  exact ⟨b, off, e, hl, hc j hj⟩
theorem Rj.nil (W : World) (a : Option Addr) (f : Nat → Nat) : Rj W a 0 f := ⟨by omega, fun j hj => by omega, fun h => by omega⟩
theorem Rj.low {W : World} {a : Option Addr} {k m : Nat} {f : Nat → Nat} (h : Rj W a k f) (hm : m ≤ k) : Rj W a m f :=
  ⟨by have := h.1; omega, fun j hj => h.2.1 j (by omega), fun h0 => by
    obtain ⟨b, off, e, hl, hc⟩ := h.2.2 (by omega)
    exact ⟨b, off, e, hl, fun j hj => hc j (by omega)⟩⟩
/-- A slice without needless zeros that reads as a number. -/
def Nt (W : World) (a : Option Addr) (k c n : Nat) : Prop := ∃ f, Rj W a k f ∧ k ≤ c ∧ c ≤ 9223372036854775807 ∧ Tod f k ∧ Tn f k = n ∧ Pl a c
theorem Nt.below {W W' : World} {a : Option Addr} {k c n : Nat} (h : Nt W a k c n) (hb : Below W.heap.size W W') : Nt W' a k c n := by
  obtain ⟨f, h1, h2⟩ := h
  exact ⟨f, h1.below hb, h2⟩
theorem Nt.zero (W : World) (a : Option Addr) (c : Nat) (hc : c ≤ 9223372036854775807) (ha : Pl a c) : Nt W a 0 c 0 := ⟨fun _ => 0, Rj.nil _ _ _, by omega, hc, .inl rfl, rfl, ha⟩
theorem Nt.len {W : World} {a : Option Addr} {k c n K : Nat} (h : Nt W a k c n) (hn : n < tp K) : k ≤ K := by
  obtain ⟨f, _, _, _, ht, hs, _⟩ := h
  exact tod_len ht (by rw [hs]; exact hn)
theorem Nt.lt {W : World} {a : Option Addr} {k c n : Nat} (h : Nt W a k c n) : n < tp k := by
  obtain ⟨f, h1, _, _, _, hs, _⟩ := h
  rw [← hs]; exact Tn_lt h1.2.1
theorem Nt.pos {W : World} {a : Option Addr} {k c n : Nat} (h : Nt W a k c n) (hk : 0 < k) : tp (k - 1) ≤ n := by
  obtain ⟨f, _, _, _, ht, hs, _⟩ := h
  rw [← hs]; exact tod_ge ht hk
theorem Nt.nul {W : World} {a : Option Addr} {k c : Nat} (h : Nt W a k c 0) : k = 0 := by
  obtain ⟨f, _, _, _, ht, hs, _⟩ := h
  exact tod_zero ht hs
theorem Nt.one {W : World} {a : Option Addr} {k c n : Nat} (h : Nt W a k c n) (hn : 0 < n) : 0 < k := by
  rcases Nat.eq_zero_or_pos k with e | e
  · subst e
    have := h.lt
    rw [tp_zero] at this
    omega
  · exact e
/-- A result that is a number. -/
def NtPost (n : Nat) (w : World) (e : Ending) (w' : World) : Prop := ∃ a k c, e = .returned (.slice a k c) ∧ Nt w' a k c n ∧ Below w.heap.size w w'
/-- The first digits, as the values of a row. -/
def dvals (f : Nat → Nat) (j : Nat) : List Value := (List.range j).map fun i => Value.int .i64 (f i : Int)
theorem dvals_succ (f : Nat → Nat) (j : Nat) : dvals f (j + 1) = dvals f j ++ [.int .i64 (f j : Int)] := by unfold dvals; rw [List.range_succ, List.map_append]; rfl
theorem dvals_congr {f g : Nat → Nat} {j : Nat} (h : ∀ i, i < j → f i = g i) : dvals f j = dvals g j := by
  unfold dvals
  exact List.map_congr_left fun i hi => by rw [h i (List.mem_range.1 hi)]
/-- A row of digits that grows. -/
structure Dg (B : Nat) (w0 : World) (f : Nat → Nat) (j : Nat) (v : Value) (w : World) : Prop where
  row : w.ownsRow B 3 1 v j (dvals f j)
  bel : Below B w0 w
  size : B ≤ w.heap.size
theorem Dg.nil (w : World) (f : Nat → Nat) : Dg w.heap.size w f 0 (.slice none 0 0) w := ⟨World.ownsRow_nil _ _ _ _, Below.refl _ _, Nat.le_refl _⟩
theorem Dg.more {B : Nat} {w0 w w' : World} {f : Nat → Nat} {j : Nat} {v v' : Value} (h : Dg B w0 f j v w) (x : Nat) (hown : w'.ownsRow B 3 1 v' (j + 1) (dvals f j ++ [.int .i64 (x : Int)])) (o : Obj) (hg : (w.alloc o).grownBy w' v.ownBlock) : Dg B w0 (put f j x) (j + 1) v' w' := by
  have hb := (h.bel.alloc h.size o).grown hg (by simp; have := h.size; omega) (fun b hb => (World.ownsRow.lt (h.row.alloc o) b hb).1)
  refine ⟨?_, hb, Nat.le_trans (Nat.le_trans h.size (by simp)) hg.size⟩
  rw [dvals_succ, put_same, dvals_congr (g := f) (fun i hi => put_ne (by omega))]
  exact hown
theorem Dg.congr {B : Nat} {w0 w : World} {f g : Nat → Nat} {j : Nat} {v : Value} (h : Dg B w0 f j v w) (he : ∀ i, i < j → g i = f i) : Dg B w0 g j v w := ⟨by rw [dvals_congr he]; exact h.row, h.bel, h.size⟩
/-- What such a row reads as. -/
theorem Dg.reads {B : Nat} {w0 w : World} {f : Nat → Nat} {j : Nat} {v : Value} (h : Dg B w0 f j v w) (hj : j ≤ 100000) (hl : Ld f j) :
    ∃ a c, v = .slice a j c ∧ Rj w a j f ∧ j ≤ c ∧ c ≤ 9223372036854775807 ∧ Pl a c := by
  have hc := fun (g : Nat) (hg : v.ownBlock = some g) => World.ownsRow.cells h.row hg
  obtain ⟨_, ⟨e1, e2⟩ | ⟨g, cap, cur, rfl, hb, hg, hnc, hm, hs, ht⟩⟩ := h.row
  · subst e1
    obtain rfl : j = 0 := by first | exact e2 | (simp [dvals] at e2; omega)
    exact ⟨none, 0, rfl, Rj.nil _ _ _, by omega, by omega, Pl.none_⟩
  · refine ⟨some ⟨g, 0, none⟩, cap, rfl, ⟨hj, hl, fun _ => ⟨g, 0, rfl, lt_of_block hg, fun i hi => ?_⟩⟩, hnc, by unfold maxLen at hm; omega, Pl.some_ _ _⟩
    have t := hc g rfl i (.int .i64 (f i)) (by simp [dvals, hi])
    by_cases h0 : i = 0 <;> simpa [Addr.add, h0] using t
/-- The row is the call's own. -/
theorem Dg.fresh {B : Nat} {w0 w : World} {f : Nat → Nat} {j k c : Nat} {a : Option Addr} (h : Dg B w0 f j (.slice a k c) w) : ∀ b off, a = some ⟨b, off, none⟩ → B ≤ b := by
  intro b off e
  obtain ⟨_, ⟨e1, _⟩ | ⟨g, cap, cur, e1, hb, _⟩⟩ := h.row
  · injection e1 with e2
    rw [e] at e2
    cases e2
  · injection e1 with e2
    rw [e] at e2
    injection e2 with e3
    injection e3 with e4
    omega
theorem Dg.some {B : Nat} {w0 w : World} {f : Nat → Nat} {j k c : Nat} {a : Option Addr} (h : Dg B w0 f j (.slice a k c) w) (hj : 0 < j) : ∃ b off, a = some ⟨b, off, none⟩ := by
  obtain ⟨_, ⟨_, e2⟩ | ⟨g, cap, cur, e1, _⟩⟩ := h.row
  · omega
  · injection e1 with e2
    exact ⟨g, 0, e2⟩
/-- A result that is a number, in a row of the call's own that isn't nil. -/
def NtG (K n : Nat) (w : World) (e : Ending) (w' : World) : Prop := ∃ a k c, e = .returned (.slice a k c) ∧ Nt w' a k c n ∧ Below w.heap.size w w' ∧ (∀ b off, a = some ⟨b, off, none⟩ → w.heap.size ≤ b) ∧ (0 < K → ∃ b off, a = some ⟨b, off, none⟩)
theorem NtG.weak {K n : Nat} {w w' : World} {e : Ending} (h : NtG K n w e w') : NtPost n w e w' := by
  obtain ⟨a, k, c, h1, h2, h3, _⟩ := h
  exact ⟨a, k, c, h1, h2, h3⟩
/-- A result that is a number, in a row of the call's own. -/
def NtF (n : Nat) (w : World) (e : Ending) (w' : World) : Prop := ∃ a k c, e = .returned (.slice a k c) ∧ Nt w' a k c n ∧ Below w.heap.size w w' ∧ ∀ b off, a = some ⟨b, off, none⟩ → w.heap.size ≤ b
theorem NtF.weak {n : Nat} {w w' : World} {e : Ending} (h : NtF n w e w') : NtPost n w e w' := by
  obtain ⟨a, k, c, h1, h2, h3, _⟩ := h
  exact ⟨a, k, c, h1, h2, h3⟩
end Go.Proofs.YtdkphfafcmogmaaGreatDoor
namespace Go.Proofs.YtdkphfafcmogmaaGreatDoor
open Go.RowKit

def dig (n i : Nat) : Nat := n / tp i % 1000000000
theorem dig_sum (n : Nat) : ∀ j, Tn (dig n) j + n / tp j * tp j = n
  | 0 => by rw [Tn_zero, tp_zero]; omega
  | j + 1 => by
    have h := dig_sum n j
    have e : n / (tp j * 1000000000) = n / tp j / 1000000000 := (Nat.div_div_eq_div_mul _ _ _).symm
    have d := Nat.div_add_mod (n / tp j) 1000000000
    rw [Tn_succ, tp_succ, e]
    show Tn (dig n) j + n / tp j % 1000000000 * tp j + _ = n
    generalize n / tp j = q at *
    generalize Tn (dig n) j = s at *
    generalize q / 1000000000 = u at *
    generalize q % 1000000000 = r at *
    generalize tp j = t at *
    grind
theorem dig_lt (n : Nat) (k : Nat) : Ld (dig n) k := fun _ _ => Nat.mod_lt _ (by decide)
theorem dig_done {n j : Nat} (h : n / tp j = 0) : Tn (dig n) j = n := by
  have := dig_sum n j
  rw [h] at this
  omega
theorem dig_top {n j : Nat} (h : n / tp j = 0) (hp : 0 < j → 0 < n / tp (j - 1)) : Tod (dig n) j := by
  rcases Nat.eq_zero_or_pos j with e | e
  · exact .inl e
  · refine .inr ?_
    obtain ⟨m, rfl⟩ : ∃ m, j = m + 1 := ⟨j - 1, by omega⟩
    have p := hp e
    rw [Nat.add_sub_cancel] at p ⊢
    rw [tp_succ, ← Nat.div_div_eq_div_mul] at h
    show n / tp m % 1000000000 ≠ 0
    omega
theorem tp_three : tp 3 = 1000000000000000000000000000 := by rw [tp_succ, tp_succ, tp_one]
set_option maxRecDepth 100000 in
set_option maxHeartbeats 1000000 in
theorem nsmall_c (n : Nat) (w : World) (hn : n < 9223372036854775808) : Calls Tryz.prog 59 #[.int .i64 n] w (NtPost n w) := by
  obtain ⟨i0, hi, hz0, hz1, hz2⟩ := info_int
  have HN := Lib.hid hn
  clear hn
  go_enter Tryz.func59, Tryz.ntmps59
  go_wp2
  go_loopw [0, 3] (fun x v wr => ∃ j q : Nat, j ≤ 3 ∧ x = .int .i64 q ∧ q < 9223372036854775808 ∧ Hid (n / tp j = q ∧ (0 < j → 0 < n / tp (j - 1)) ∧ Dg w.heap.size w (dig n) j v wr)) (fun x _ _ => (intOf x).toNat)
  case atStart => exact ⟨0, n, by omega, rfl, HN.out, by rw [tp_zero, Nat.div_one], by omega, Dg.nil w _⟩
  case round =>
    obtain ⟨j, q, hj, rfl, hq9, hR⟩ := hrel
    rcases Nat.eq_zero_or_pos q with e | e
    · subst e
      obtain ⟨a, c, rfl, h1, h2, h3, h4⟩ := hR.out.2.2.reads (by omega) (dig_lt n j)
      have RR : Hid (NtPost n w (.returned (.slice a j c)) wr) := ⟨a, j, c, rfl, ⟨dig n, h1, h2, h3, dig_top hR.out.1 hR.out.2.1, dig_done hR.out.1, h4⟩, hR.out.2.2.bel⟩
      clear h1 h2 h3 h4
      go_wp2
      go_ret
      exact RR.out
    · have hj2 : j < 3 := by
        have h := hR.out.1
        have t : tp j ≤ n := by
          rcases Nat.lt_or_ge n (tp j) with l | l
          · rw [Nat.div_eq_of_lt l] at h; omega
          · exact l
        refine tp_lt ?_
        rw [tp_three]
        have := HN.out
        omega
      have hp : (0 : Int) < (q : Int) := by omega
      obtain ⟨q2, hq2⟩ : ∃ q2, q / 1000000000 = q2 := ⟨_, rfl⟩
      obtain ⟨r, hr⟩ : ∃ r, q % 1000000000 = r := ⟨_, rfl⟩
      have e1 : (q : Int).tdiv 1000000000 = (q2 : Int) := by rw [Int.tdiv_eq_ediv_of_nonneg (by omega)]; omega
      have e2 : (q : Int).tmod 1000000000 = (r : Int) := by rw [Int.tmod_eq_emod_of_nonneg (by omega)]; omega
      have hr9 : r < 1000000000 := by omega
      have hq29 : q2 < 9223372036854775808 := by omega
      have HM : Hid (q2 < q) := by unfold Hid; omega
      have hD := Lib.hid hR.out.2.2
      have HQ : Hid (n / tp (j + 1) = q2 ∧ dig n j = r ∧ 0 < n / tp j) := by
        refine ⟨by rw [tp_succ, ← Nat.div_div_eq_div_mul, hR.out.1, hq2], ?_, by rw [hR.out.1]; exact e⟩
        show n / tp j % 1000000000 = r
        rw [hR.out.1, hr]
      clear hq2 hr hR
      go_wp2_with (at_builtin; refine wpList_append_own _ rfl _ _ 50 rfl w.heap.size 3 i0 (.int .i64 0) 1 8 Tryz.underlying50 hi hz0 hz1 hz2 rfl (by decide) _ _ _ rfl (hD.out.row.alloc _) ⟨wr.heap.size, 0, none⟩ 1 1 [.int .i64 (r : Int)] rfl rfl ?c1 ?c2 ?c3 ?c4 ?c5 ?_)
      case c1 =>
        intro i u hu
        match i, hu with
        | 0, hu => simp at hu; subst hu; simp [Addr.add]
      case c2 => intro u hu; simp at hu; subst hu; rfl
      case c3 => unfold maxLen; omega
      case c4 => omega
      case c5 => have := hD.out.size; simp; omega
      intro v' w1 hown' hgrow _
      have hD' : Hid (Dg w.heap.size w (dig n) (j + 1) v' w1) := (hD.out.more r hown' _ hgrow).congr fun i hi => by
        by_cases ei : i = j
        · subst ei; rw [put_same]; exact HQ.out.2.1
        · rw [put_ne ei]
      clear hown' hgrow hD
      go_wp2
      go_roundw
      case rel => exact ⟨j + 1, q2, by omega, by go_num, hq29, HQ.out.1, by rw [Nat.add_sub_cancel]; exact fun _ => HQ.out.2.2, hD'.out⟩
      case measure => simp [intOf]; have := HM.out; omega
end Go.Proofs.YtdkphfafcmogmaaGreatDoor
