/-
  Rows of limbs in memory: those that are read as numbers, and those that a call fills.
  Numbers of any size: a row times a limb.
  Numbers of any size: their order.
  Numbers of any size: a row times a limb added to a row, and taken from one.
-/
import Derived.Test.YtfijhkaalpinhaaDoorRows
import Derived.Test.YtfijhkaalpinhaaDoorShelf
import Derived.Test.YtfijhkaalpinhaaDoorWh01
import Derived.WalkKit
import Derived.WalkSpells
import Derived.Deep.QuietTactic
import Derived.BigQuiet
import Derived.RegionTactic
import Derived.OneCell
import Derived.Deep.OwnRows
import Derived.Lib.Hide
import Derived.IntWalk
import Derived.Below
import Derived.WalkSmall
import Derived.Shelf.Spec.BitsCarry
namespace Go.Proofs.YtfijhkaalpinhaaDoor
open Go.RowKit

theorem ret_int {k : IntKind} {a b : Int} (h : a = b) : Ending.returned (.int k a) = .returned (.int k b) := by rw [h]
theorem bel_drewN (w : World) (n : Nat) : Below w.heap.size w (w.drewN n) := ⟨rfl, rfl, rfl, Nat.le_refl _, fun _ _ => rfl⟩
theorem drewN_bel {B : Nat} {a w : World} (h : Below B a w) (n : Nat) : Below B a (w.drewN n) := ⟨h.os, h.tape, h.output, h.size, h.block⟩
theorem bel_one (w : World) (o : Obj) : Below w.heap.size w (w.alloc o) := (Below.refl _ _).alloc (Nat.le_refl _) o
theorem infoL : (Tryd.prog.info? 59).map (fun i => (i.zero, i.size, i.bytes)) = some (some (.int .u64 0), 1, 8) := by kernel_rfl
/-- A slice that reads as k limbs. -/
def Rl (W : World) (a : Option Addr) (k : Nat) (f : Nat → Nat) : Prop :=
  k ≤ 100000 ∧ Lb f k ∧ (0 < k → ∃ b off, a = some ⟨b, off, none⟩ ∧ b < W.heap.size ∧ ∀ j, j < k → W.cell? ⟨b, off + j, none⟩ = some (.int .u64 (f j)))
theorem Rl.below {W W' : World} {a : Option Addr} {k : Nat} {f : Nat → Nat} (h : Rl W a k f) (hb : Below W.heap.size W W') : Rl W' a k f :=
  ⟨h.1, h.2.1, fun h0 => by
    obtain ⟨b, off, e, hl, hc⟩ := h.2.2 h0
    exact ⟨b, off, e, Nat.lt_of_lt_of_le hl hb.size, fun j hj => by rw [hb.cell (p := ⟨b, off + j, none⟩) hl]; exact hc j hj⟩⟩
theorem Rl.at_ {W : World} {a : Option Addr} {k : Nat} {f : Nat → Nat} (h : Rl W a k f) {j : Nat} (hj : j < k) :
    ∃ b off, a = some ⟨b, off, none⟩ ∧ b < W.heap.size ∧ W.cell? ⟨b, off + j, none⟩ = some (.int .u64 (f j)) := by
  obtain ⟨b, off, e, hl, hc⟩ := h.2.2 (by omega)
  exact ⟨b, off, e, hl, hc j hj⟩
theorem Rl.nil (W : World) (a : Option Addr) (f : Nat → Nat) : Rl W a 0 f := ⟨by omega, fun j hj => by omega, fun h => by omega⟩
theorem Rl.low {W : World} {a : Option Addr} {k m : Nat} {f : Nat → Nat} (h : Rl W a k f) (hm : m ≤ k) : Rl W a m f :=
  ⟨by have := h.1; omega, fun j hj => h.2.1 j (by omega), fun h0 => by
    obtain ⟨b, off, e, hl, hc⟩ := h.2.2 (by omega)
    exact ⟨b, off, e, hl, fun j hj => hc j (by omega)⟩⟩
/-- A slice without needless zeros that reads as a number. -/
def Pl (a : Option Addr) (c : Nat) : Prop := (a = none ∧ c = 0) ∨ ∃ b off, a = some ⟨b, off, none⟩
theorem Pl.none_ : Pl none 0 := .inl ⟨rfl, rfl⟩
theorem Pl.some_ (b off : Nat) {c : Nat} : Pl (some ⟨b, off, none⟩) c := .inr ⟨b, off, rfl⟩
def Nm (W : World) (a : Option Addr) (k c n : Nat) : Prop := ∃ f, Rl W a k f ∧ k ≤ c ∧ c ≤ 9223372036854775807 ∧ Top f k ∧ S f k = n ∧ Pl a c
theorem Nm.below {W W' : World} {a : Option Addr} {k c n : Nat} (h : Nm W a k c n) (hb : Below W.heap.size W W') : Nm W' a k c n := by
  obtain ⟨f, h1, h2⟩ := h
  exact ⟨f, h1.below hb, h2⟩
theorem Nm.zero (W : World) (a : Option Addr) (c : Nat) (hc : c ≤ 9223372036854775807) (ha : Pl a c) : Nm W a 0 c 0 := ⟨fun _ => 0, Rl.nil _ _ _, by omega, hc, .inl rfl, rfl, ha⟩
theorem Nm.len {W : World} {a : Option Addr} {k c n K : Nat} (h : Nm W a k c n) (hn : n < bp K) : k ≤ K := by
  obtain ⟨f, _, _, _, ht, hs, _⟩ := h
  exact top_len ht (by rw [hs]; exact hn)
theorem Nm.lt {W : World} {a : Option Addr} {k c n : Nat} (h : Nm W a k c n) : n < bp k := by
  obtain ⟨f, h1, _, _, _, hs, _⟩ := h
  rw [← hs]; exact S_lt h1.2.1
theorem Nm.pos {W : World} {a : Option Addr} {k c n : Nat} (h : Nm W a k c n) (hk : 0 < k) : bp (k - 1) ≤ n := by
  obtain ⟨f, _, _, _, ht, hs, _⟩ := h
  rw [← hs]; exact top_ge ht hk
theorem Nm.nul {W : World} {a : Option Addr} {k c : Nat} (h : Nm W a k c 0) : k = 0 := by
  obtain ⟨f, _, _, _, ht, hs, _⟩ := h
  exact top_zero ht hs
theorem Nm.one {W : World} {a : Option Addr} {k c n : Nat} (h : Nm W a k c n) (hn : 0 < n) : 0 < k := by
  rcases Nat.eq_zero_or_pos k with e | e
  · subst e
    have := h.lt
    rw [bp_zero] at this
    omega
  · exact e
/-- A result that is a number. -/
def NmPost (n : Nat) (w : World) (e : Ending) (w' : World) : Prop := ∃ a k c, e = .returned (.slice a k c) ∧ Nm w' a k c n ∧ Below w.heap.size w w'
/-- A block of the call's own that holds K limbs. -/
def Bf (W : World) (g K : Nat) (f : Nat → Nat) : Prop := g < W.heap.size ∧ Lb f K ∧ ∀ j, j < K → W.cell? ⟨g, j, none⟩ = some (.int .u64 (f j)) ∧ W.frozen? ⟨g, j, none⟩ = false
theorem Bf.made (W : World) (K : Nat) (e : TypeId) : Bf (W.alloc (.cells (madeCells #[.int .u64 0] K) e)) W.heap.size K (fun _ => 0) := by
  refine ⟨by simp, fun j _ => (by decide : 0 < 18446744073709551616), fun j hj => ⟨?_, by simp⟩⟩
  rw [World.cell?_alloc_new, ← Array.getElem?_toList, toList_madeCells_one]
  simp [hj]
theorem Bf.put {W : World} {g K i x : Nat} {f : Nat → Nat} (h : Bf W g K f) (hi : i < K) (hx : x < 18446744073709551616) : Bf (W.setCell ⟨g, i, none⟩ (.int .u64 x)) g K (put f i x) := by
  refine ⟨by simpa using h.1, lb_put h.2.1 hx, fun j hj => ⟨?_, by rw [World.frozen?_setCell]; exact (h.2.2 j hj).2⟩⟩
  by_cases e : j = i
  · subst e
    rw [World.cell?_setCell_same _ _ _ (h.2.2 j hj).1, put_same]
  · rw [World.cell?_setCell_other _ _ _ _ (by intro e2; injection e2 with _ e3; exact e e3.symm), (h.2.2 j hj).1, put_ne e]
theorem Bf.below {W W' : World} {g K : Nat} {f : Nat → Nat} (h : Bf W g K f) (hb : Below W.heap.size W W') : Bf W' g K f :=
  ⟨Nat.lt_of_lt_of_le h.1 hb.size, h.2.1, fun j hj => ⟨(hb.cell (p := ⟨g, j, none⟩) h.1).trans (h.2.2 j hj).1, (hb.frozen (p := ⟨g, j, none⟩) h.1).trans (h.2.2 j hj).2⟩⟩
theorem Bf.congr {W : World} {g K : Nat} {f f' : Nat → Nat} (h : Bf W g K f) (he : ∀ j, j < K → f' j = f j) : Bf W g K f' :=
  ⟨h.1, fun j hj => by rw [he j hj]; exact h.2.1 j hj, fun j hj => by rw [he j hj]; exact h.2.2 j hj⟩
/-- A window of a block of the call's own, as it is read. -/
theorem Bf.rl {W : World} {g K i m : Nat} {f : Nat → Nat} (h : Bf W g K f) (hi : i + m ≤ K) (hK : K ≤ 100000) : Rl W (some ⟨g, i, none⟩) m (from_ f i) :=
  ⟨by omega, fun j hj => h.2.1 _ (by omega), fun _ => ⟨g, i, rfl, h.1, fun j hj => (h.2.2 (i + j) (by omega)).1⟩⟩
theorem Bf.rl0 {W : World} {g K m : Nat} {f : Nat → Nat} (h : Bf W g K f) (hi : m ≤ K) (hK : K ≤ 100000) : Rl W (some ⟨g, 0, none⟩) m f :=
  ⟨by omega, fun j hj => h.2.1 _ (by omega), fun _ => ⟨g, 0, rfl, h.1, fun j hj => by rw [Nat.zero_add]; exact (h.2.2 j (by omega)).1⟩⟩
theorem mk_limbs (n : Nat) (hn : n ≤ 100000) (w : World) : (Instr.makeSlice 35 (.int .i64 n) (.int .i64 n)).run Tryd.prog w = .ok (.slice (some ⟨w.heap.size, 0, none⟩) n n) (w.alloc (.cells (madeCells #[.int .u64 0] n) 59)) := by
  have hmk := run_make_row' (P := Tryd.prog) 35 59 (.int .u64 0) 8 Tryd.underlying35 infoL rfl .i64 .i64 n (by omega) (by omega)
  simpa using hmk w
theorem mk_limbsI (z : Int) (n : Nat) (hz : z = (n : Int)) (hn : n ≤ 100000) (w : World) : (Instr.makeSlice 35 (.int .i64 z) (.int .i64 z)).run Tryd.prog w = .ok (.slice (some ⟨w.heap.size, 0, none⟩) n n) (w.alloc (.cells (madeCells #[.int .u64 0] n) 59)) := by
  rw [hz]; exact mk_limbs n hn w
/-- What trim leaves: the beginning of the row. -/
def TrimPost (a : Option Addr) (c n : Nat) (w : World) (e : Ending) (w' : World) : Prop := ∃ m, e = .returned (.slice a m c) ∧ Nm w' a m c n ∧ w = w'
set_option maxHeartbeats 1000000 in
theorem trim_c2 (a : Option Addr) (k c : Nat) (f : Nat → Nat) (w : World) (h : Rl w a k f) (hk : k ≤ c) (hc : c ≤ 9223372036854775807) (ha : Pl a c) :
    Calls Tryd.prog 47 #[.slice a k c] w (TrimPost a c (S f k) w) := by
  have H := Lib.hid h
  clear h
  go_enter Tryd.func47, Tryd.ntmps47
  go_wp2
  go_loop [0] (fun s => ∃ m : Nat, m ≤ k ∧ s = .slice a m c ∧ Hid (S f m = S f k)) (fun s => match s with | .slice _ m _ => m | _ => 0)
  case atStart => exact ⟨k, Nat.le_refl _, rfl, rfl⟩
  case round =>
    obtain ⟨m, hm, rfl, hS⟩ := hrel
    rcases Nat.eq_zero_or_pos m with e | e
    · subst e
      go_wp2
      go_ret
      exact ⟨0, rfl, by rw [← hS.out]; exact Nm.zero _ _ _ hc ha, rfl⟩
    · obtain ⟨p, rfl⟩ : ∃ p, m = p + 1 := ⟨m - 1, by omega⟩
      obtain ⟨b, off, rfl, hb, hcell⟩ := H.out.at_ (show p < k by omega)
      have hp1 : (0 : Int) < (p : Int) + 1 := by omega
      have HS := Lib.hid (S_succ f p)
      by_cases h0 : f p = 0
      · rw [h0] at hcell HS
        have HS2 : Hid (S f p = S f k) := by unfold Hid; rw [← hS.out, HS.out]; omega
        go_wp2
        go_round
        case rel => exact ⟨p, by omega, rfl, HS2⟩
        case measure => simp
      · have HT : Hid (Top f (p + 1)) := .inr (by simpa using h0)
        have d : ((f p : Int) == 0) = false := by rw [beq_eq_false_iff_ne]; omega
        have d' : (f p == 0) = false := by rw [beq_eq_false_iff_ne]; exact h0
        generalize f p = x at *
        go_wp2
        go_ret
        exact ⟨p + 1, rfl, ⟨f, H.out.low hm, by omega, hc, HT.out, hS.out, ha⟩, rfl⟩
theorem trim_c (a : Option Addr) (k c : Nat) (f : Nat → Nat) (w : World) (h : Rl w a k f) (hk : k ≤ c) (hc : c ≤ 9223372036854775807) (ha : Pl a c) :
    Calls Tryd.prog 47 #[.slice a k c] w (NmPost (S f k) w) :=
  (trim_c2 a k c f w h hk hc ha).mono fun e w' ⟨m, he, hn, hw⟩ => ⟨a, m, c, he, hn, by rw [hw]; exact Below.refl _ _⟩
theorem Nm.grown {W W' : World} {a : Option Addr} {k c n : Nat} {row : Option Nat} (h : Nm W a k c n) (hg : W.grownBy W' row) (hne : ∀ b off, a = some ⟨b, off, none⟩ → some b ≠ row) : Nm W' a k c n := by
  obtain ⟨f, h1, h2⟩ := h
  refine ⟨f, ⟨h1.1, h1.2.1, fun h0 => ?_⟩, h2⟩
  obtain ⟨b, off, e, hl, hc⟩ := h1.2.2 h0
  refine ⟨b, off, e, Nat.lt_of_lt_of_le hl hg.size, fun j hj => ?_⟩
  rw [World.cell?_of_block (a := ⟨b, off + j, none⟩) (hg.block b hl (hne b off e))]
  exact hc j hj
theorem Rl.grown {W W' : World} {a : Option Addr} {k : Nat} {f : Nat → Nat} {g : Nat} (h : Rl W a k f) (hg : W.grownBy W' (some g)) (hne : 0 < k → ∀ b off, a = some ⟨b, off, none⟩ → b ≠ g) : Rl W' a k f := by
  refine ⟨h.1, h.2.1, fun h0 => ?_⟩
  obtain ⟨b, off, e, hl, hc⟩ := h.2.2 h0
  refine ⟨b, off, e, Nat.lt_of_lt_of_le hl hg.size, fun j hj => ?_⟩
  rw [World.cell?_of_block (a := ⟨b, off + j, none⟩) (hg.block b hl (fun e2 => hne h0 b off e (by injection e2)))]
  exact hc j hj
/-- A row lies in another block. -/
def Apart (a : Option Addr) (k g : Nat) : Prop := 0 < k → ∀ b off, a = some ⟨b, off, none⟩ → b ≠ g
theorem apart_of {W : World} {a : Option Addr} {k g : Nat} {f : Nat → Nat} (h : Rl W a k f) (hg : W.heap.size ≤ g) : Apart a k g := fun h0 b off e => by
  obtain ⟨b', off', e', hl, _⟩ := h.2.2 h0
  rw [e] at e'
  injection e' with e'
  injection e' with e1 _
  omega
end Go.Proofs.YtfijhkaalpinhaaDoor
namespace Go.Proofs.YtfijhkaalpinhaaDoor
open Go.RowKit

theorem add64 (x y c : Nat) (hx : x < 18446744073709551616) (hy : y < 18446744073709551616) (hc : c ≤ 1) (w : World) :
    (callFunc 65 #[.int .u64 x, .int .u64 y, .int .u64 c]).run Tryd.prog w = .ok (.value (.tuple #[.int .u64 (((x + y + c) % 18446744073709551616 : Nat) : Int), .int .u64 (((x + y + c) / 18446744073709551616 : Nat) : Int)])) w := by
  rw [run_callFunc_extern Tryd.func65 (by kernel_rfl) (by kernel_rfl) (by kernel_rfl) (e := add64Entry) (by kernel_rfl), run_add64 x y c (by omega) (by omega) (by omega) (by omega)]
  simp only [Result.andThen]
  congr 5 <;> omega
theorem sub64 (x y b : Nat) (hb : b ≤ 1) (w : World) :
    (callFunc 63 #[.int .u64 x, .int .u64 y, .int .u64 b]).run Tryd.prog w = .ok (.value (.tuple #[.int .u64 (((x + 18446744073709551616 - y - b) % 18446744073709551616 : Nat) : Int), .int .u64 ((if x < y + b then 1 else 0 : Nat) : Int)])) w := by
  rw [run_callFunc_extern Tryd.func63 (by kernel_rfl) (by kernel_rfl) (by kernel_rfl) (e := sub64Entry) (by kernel_rfl), run_sub64 x y b hb]
  rfl
/-- A sum with a carry, as the walk meets it. -/
theorem adds {zx zy zc : Int} (x y c : Nat) (ex : zx = (x : Int)) (ey : zy = (y : Int)) (ec : zc = (c : Int)) (hx : x < 18446744073709551616) (hy : y < 18446744073709551616) (hc : c ≤ 1) : ∃ s d : Nat,
    (∀ w, (callFunc 65 #[.int .u64 zx, .int .u64 zy, .int .u64 zc]).run Tryd.prog w = .ok (.value (.tuple #[.int .u64 (s : Int), .int .u64 (d : Int)])) w) ∧
    x + y + c = s + d * 18446744073709551616 ∧ s < 18446744073709551616 ∧ d ≤ 1 := by
  subst ex ey ec
  exact ⟨(x + y + c) % 18446744073709551616, (x + y + c) / 18446744073709551616, add64 x y c hx hy hc, by have := Nat.div_add_mod (x + y + c) 18446744073709551616; omega, Nat.mod_lt _ (by decide), by omega⟩
/-- A difference with a borrow. -/
theorem subs {zx zy zb : Int} (x y b : Nat) (ex : zx = (x : Int)) (ey : zy = (y : Int)) (eb : zb = (b : Int)) (hx : x < 18446744073709551616) (hy : y < 18446744073709551616) (hb : b ≤ 1) : ∃ s d : Nat,
    (∀ w, (callFunc 63 #[.int .u64 zx, .int .u64 zy, .int .u64 zb]).run Tryd.prog w = .ok (.value (.tuple #[.int .u64 (s : Int), .int .u64 (d : Int)])) w) ∧
    s + (y + b) = x + d * 18446744073709551616 ∧ s < 18446744073709551616 ∧ d ≤ 1 := by
  subst ex ey eb
  refine ⟨(x + 18446744073709551616 - y - b) % 18446744073709551616, if x < y + b then 1 else 0, sub64 x y b hb, ?_, Nat.mod_lt _ (by decide), ?_⟩
  · split <;> omega
  · split <;> omega
theorem mul64_c (x y : Nat) (hx : x < 18446744073709551616) (hy : y < 18446744073709551616) (w : World) :
    Calls Tryd.prog 64 #[.int .u64 x, .int .u64 y] w fun e w' => e = .returned (.tuple #[.int .u64 ((x * y / 18446744073709551616 : Nat) : Int), .int .u64 ((x * y % 18446744073709551616 : Nat) : Int)]) ∧ w' = w := Tryd.bits_Mul64 x y hx hy w
theorem muls (x y : Nat) (hx : x < 18446744073709551616) (hy : y < 18446744073709551616) : ∃ h l : Nat, (∀ w, Calls Tryd.prog 64 #[.int .u64 x, .int .u64 y] w fun e w' => e = .returned (.tuple #[.int .u64 (h : Int), .int .u64 (l : Int)]) ∧ w' = w) ∧
    x * y = l + h * 18446744073709551616 ∧ l < 18446744073709551616 ∧ h ≤ 18446744073709551614 := by
  refine ⟨_, _, mul64_c x y hx hy, by have := Nat.div_add_mod (x * y) 18446744073709551616; omega, Nat.mod_lt _ (by decide), ?_⟩
  have a : x * y ≤ 18446744073709551615 * 18446744073709551615 := Nat.mul_le_mul (by omega) (by omega)
  generalize x * y = z at *
  omega
/-- A limb times a factor, and more: the limb of the result, and what is carried. -/
theorem steps (x t m : Nat) (hx : x < 18446744073709551616) (ht : t < 18446744073709551616) (hm : m < 18446744073709551616) : ∃ l h : Nat, (∀ w, Calls Tryd.prog 46 #[.int .u64 x, .int .u64 t, .int .u64 m] w fun e w' => e = .returned (.tuple #[.int .u64 (l : Int), .int .u64 (h : Int)]) ∧ w' = w) ∧
    x * t + m = l + h * 18446744073709551616 ∧ l < 18446744073709551616 ∧ h < 18446744073709551616 := by
  obtain ⟨hi, lo, hmul, hm1, hm2, hm3⟩ := muls x t hx ht
  have HMUL := Lib.hid hmul
  obtain ⟨s, d, hadd, ha1, ha2, ha3⟩ := adds lo m 0 rfl rfl (show (0 : Int) = ((0 : Nat) : Int) from rfl) hm2 hm (by omega)
  have hbd : hi + d < 18446744073709551616 := by
    have a : x * t ≤ 18446744073709551615 * 18446744073709551615 := Nat.mul_le_mul (by omega) (by omega)
    omega
  refine ⟨s, hi + d, fun w => ?_, by omega, ha2, hbd⟩
  have hs : IntKind.u64.wrap ((hi : Int) + (d : Int)) = ((hi + d : Nat) : Int) := by rw [IntKind.wrap_u64] <;> omega
  clear hm1 ha1 hmul
  go_enter Tryd.func46, Tryd.ntmps46
  go_wp2_with (first | (go_at_call 64; refine (HMUL.out _).mono ?_; rintro e w' ⟨rfl, rfl⟩) | (rw [hadd]))
  go_ret2
  exact ⟨rfl, rfl⟩
set_option maxRecDepth 100000 in
set_option maxHeartbeats 2000000 in
theorem timesPlus_c (a : Option Addr) (k c n t m : Nat) (w : World) (h : Nm w a k c n) (ht : t < 18446744073709551616) (hm : m < 18446744073709551616) (hn : n < bp 2000) :
    Calls Tryd.prog 33 #[.slice a k c, .int .u64 t, .int .u64 m] w (NmPost (n * t + m) w) := by
  have hk2 := h.len hn
  obtain ⟨f, hr, hkc, hc, htop, hs, _⟩ := h
  have hmk := fun w => mk_limbsI ((k : Int) + 1) (k + 1) (by omega) (by omega) w
  have H := Lib.hid hr
  have HS := Lib.hid hs
  clear hr hs htop hn
  go_enter Tryd.func33, Tryd.ntmps33
  go_wp2_with fail
  have B0 := Lib.hid (Bf.made w (k + 1) 59)
  have BL : Hid (Below w.heap.size w (w.alloc (.cells (madeCells #[.int .u64 0] (k + 1)) 59))) := bel_one _ _
  generalize hW1 : w.alloc (.cells (madeCells #[.int .u64 0] (k + 1)) 59) = W1 at *
  clear hW1 hmk
  go_loopw [2, 16] (fun v i wr => ∃ (j y : Nat) (g : Nat → Nat), j ≤ k ∧ i = .int .i64 j ∧ v = .int .u64 y ∧ y < 18446744073709551616 ∧ Hid (Bf wr w.heap.size (k + 1) g ∧ Below w.heap.size w wr ∧ S g j + y * bp j = t * S f j + m)) (fun _ i _ => k - (intOf i).toNat)
  case atStart => exact ⟨0, m, fun _ => 0, Nat.zero_le _, rfl, rfl, hm, B0.out, BL.out, by rw [S_zero, S_zero, bp_zero]; omega⟩
  case round =>
    obtain ⟨j, y, g, hj, rfl, rfl, hy, hR⟩ := hrel
    by_cases hlt : j < k
    · have hlt' : (j : Int) < (k : Int) := by omega
      obtain ⟨b, off, rfl, hb, hc1⟩ := (H.out.below hR.out.2.1).at_ hlt
      have hx := H.out.2.1 j hlt
      obtain ⟨s, hi, hstep, ha1, ha2, hhi⟩ := steps (f j) t y hx ht hy
      have HST := Lib.hid hstep
      have hBj := hR.out.1.2.2 j (by omega)
      have hc2 := hBj.1
      have hf2 := hBj.2
      have NB := Lib.hid (hR.out.1.put (i := j) (x := s) (by omega) ha2)
      have NX : Hid (Bf (wr.setCell ⟨w.heap.size, j, none⟩ (.int .u64 s)) w.heap.size (k + 1) (put g j s) ∧ Below w.heap.size w (wr.setCell ⟨w.heap.size, j, none⟩ (.int .u64 s)) ∧ S (put g j s) (j + 1) + hi * bp (j + 1) = t * S f (j + 1) + m) := by
        refine ⟨NB.out, hR.out.2.1.setCell (p := ⟨w.heap.size, j, none⟩) (Nat.le_refl _) _, ?_⟩
        rw [S_put, bp_succ, S_succ]
        exact step_mul hR.out.2.2 (by omega)
      clear hBj hstep NB ha1
      generalize f j = x at *
      go_wp2_with (go_at_call 46; refine (HST.out _).mono ?_; rintro e w' ⟨rfl, rfl⟩)
      go_roundw
      case rel => exact ⟨j + 1, hi, put g j s, by omega, by go_num, rfl, hhi, NX.out⟩
      case measure => simp [intOf]; omega
    · obtain rfl : j = k := by omega
      have hBj := hR.out.1.2.2 j (by omega)
      have hc2 := hBj.1
      have hf2 := hBj.2
      have NB := Lib.hid (hR.out.1.put (i := j) (x := y) (by omega) hy)
      have BL2 : Hid (Below w.heap.size w (wr.setCell ⟨w.heap.size, j, none⟩ (.int .u64 y))) := hR.out.2.1.setCell (p := ⟨w.heap.size, j, none⟩) (Nat.le_refl _) _
      have E : Hid (S (put g j y) (j + 1) = n * t + m) := by unfold Hid; rw [S_put, hR.out.2.2, HS.out, Nat.mul_comm]
      clear hBj hlt
      go_wp2_with fail
      generalize wr.setCell ⟨w.heap.size, j, none⟩ (.int .u64 y) = W3 at *
      refine (trim_c (some ⟨w.heap.size, 0, none⟩) (j + 1) (j + 1) (put g j y) W3 (NB.out.rl0 (Nat.le_refl _) (by omega)) (Nat.le_refl _) (by omega) (Pl.some_ _ _)).mono ?_
      rintro e w4 ⟨a', k', c', rfl, hN, b4⟩
      rw [E.out] at hN
      have R := Lib.hid (show NmPost (n * t + m) w (.returned (.slice a' k' c')) w4 from ⟨a', k', c', rfl, hN, BL2.out.trans (b4.mono BL2.out.size)⟩)
      clear hN b4
      go_wp2
      go_ret
      exact R.out
end Go.Proofs.YtfijhkaalpinhaaDoor
namespace Go.Proofs.YtfijhkaalpinhaaDoor
open Go.RowKit

/-- The order of two numbers. -/
def sgn (x y : Nat) : Int := if x < y then -1 else if y < x then 1 else 0
theorem sgn_lt {x y : Nat} (h : x < y) : sgn x y = -1 := by unfold sgn; rw [if_pos h]
theorem sgn_gt {x y : Nat} (h : y < x) : sgn x y = 1 := by unfold sgn; rw [if_neg (by omega), if_pos h]
theorem sgn_eq (x : Nat) : sgn x x = 0 := by unfold sgn; rw [if_neg (by omega), if_neg (by omega)]
theorem drewN_drewN (w : World) (a b : Nat) : (w.drewN a).drewN b = w.drewN (a + b) := by simp [World.drewN, Nat.add_assoc]
theorem isNaN_c (x : Int) (w : World) : Calls Tryd.prog 74 #[.int .u64 x] w fun e w' => e = .returned (.bool false) ∧ w = w' := by
  go_enter Tryd.func74, Tryd.ntmps74
  go_wp2
  go_ret
  exact ⟨rfl, rfl⟩
theorem cmpU_c (x y : Nat) (w : World) : Calls Tryd.prog 60 #[.int .u64 x, .int .u64 y] w fun e w' => e = .returned (.int .i64 (sgn x y)) ∧ w = w' := by
  rcases Nat.lt_trichotomy x y with h | h | h
  · have e := sgn_lt h
    have d : decide (x < y) = true := by simp; omega
    rw [e]
    clear e
    go_enter Tryd.func60, Tryd.ntmps60
    go_wp2_with (go_at_call 74; refine (isNaN_c _ _).mono ?_; rintro e w' ⟨rfl, rfl⟩)
    go_ret
    exact ⟨rfl, rfl⟩
  · subst h
    rw [sgn_eq]
    go_enter Tryd.func60, Tryd.ntmps60
    go_wp2_with (go_at_call 74; refine (isNaN_c _ _).mono ?_; rintro e w' ⟨rfl, rfl⟩)
    go_ret
    exact ⟨rfl, rfl⟩
  · have e := sgn_gt h
    have d : decide (x < y) = false := by simp; omega
    have d2 : decide (y < x) = true := by simp; omega
    rw [e]
    clear e
    go_enter Tryd.func60, Tryd.ntmps60
    go_wp2_with (go_at_call 74; refine (isNaN_c _ _).mono ?_; rintro e w' ⟨rfl, rfl⟩)
    go_ret
    exact ⟨rfl, rfl⟩
set_option maxRecDepth 100000 in
set_option maxHeartbeats 2000000 in
theorem compare_c (a1 a2 : Option Addr) (k1 k2 c1 c2 n1 n2 : Nat) (w : World) (h1 : Nm w a1 k1 c1 n1) (h2 : Nm w a2 k2 c2 n2) :
    Calls Tryd.prog 41 #[.slice a1 k1 c1, .slice a2 k2 c2] w fun e w' => e = .returned (.int .i64 (sgn n1 n2)) ∧ ∃ q, w' = w.drewN q := by
  obtain ⟨f, r1, _, _, t1, s1, _⟩ := h1
  obtain ⟨g, r2, _, _, t2, s2, _⟩ := h2
  have hk1 := r1.1
  have hk2 := r2.1
  by_cases hk : k1 = k2
  · subst hk
    have H1 := Lib.hid r1
    have H2 := Lib.hid r2
    have S1 := Lib.hid s1
    have S2 := Lib.hid s2
    clear r1 r2 t1 t2 s1 s2
    go_enter Tryd.func41, Tryd.ntmps41
    go_wp2
    go_loopw [5] (fun i wr => ∃ m : Nat, m ≤ k1 ∧ i = .int .i64 ((m : Int) - 1) ∧ Hid ((∀ j, m ≤ j → j < k1 → f j = g j) ∧ ∃ q, wr = w.drewN q)) (fun i _ => (intOf i + 1).toNat)
    case atStart => exact ⟨k1, Nat.le_refl _, rfl, fun j h1 h2 => by omega, 0, rfl⟩
    case round =>
      obtain ⟨m, hm, rfl, hR⟩ := hrel
      rcases Nat.eq_zero_or_pos m with e | e
      · subst e
        have E : Hid (n1 = n2) := by unfold Hid; rw [← S1.out, ← S2.out]; exact S_congr (fun j hj => hR.out.1 j (Nat.zero_le _) hj)
        go_wp2
        go_ret
        exact ⟨ret_int (by rw [E.out, sgn_eq]), hR.out.2⟩
      · obtain ⟨p, rfl⟩ : ∃ p, m = p + 1 := ⟨m - 1, by omega⟩
        obtain ⟨q, hq⟩ := hR.out.2
        have HB : Hid (Below w.heap.size w wr) := by unfold Hid; rw [hq]; exact bel_drewN _ _
        obtain ⟨b1, o1, rfl, _, g1⟩ := (H1.out.below HB.out).at_ (show p < k1 by omega)
        obtain ⟨b2, o2, rfl, _, g2⟩ := (H2.out.below HB.out).at_ (show p < k1 by omega)
        have hp : (p : Int) < (k1 : Int) := by omega
        have ei : ((p + 1 : Nat) : Int) - 1 = (p : Int) := by omega
        rw [ei]
        have HQ := Lib.hid hq
        clear hq
        by_cases hE : f p = g p
        · have NE : Hid (∀ j, p ≤ j → j < k1 → f j = g j) := fun j h1 h2 => by
            by_cases e : j = p
            · rw [e, hE]
            · exact hR.out.1 j (by omega) h2
          rw [← hE] at g2
          generalize f p = x at *
          go_wp2_with fail
          go_quiet (fail)
          have NX : Hid ((∀ j, p ≤ j → j < k1 → f j = g j) ∧ ∃ q, wr.drewN nq = w.drewN q) := ⟨NE.out, q + nq, by rw [HQ.out, drewN_drewN]⟩
          clear g1 g2
          go_wp2
          go_roundw
          case rel => exact ⟨p, by omega, by go_num, NX.out⟩
          case measure => simp [intOf]
        · have E : Hid (sgn n1 n2 = sgn (f p) (g p)) := by
            unfold Hid
            rw [← S1.out, ← S2.out]
            rcases Nat.lt_trichotomy (f p) (g p) with l | l | l
            · rw [sgn_lt l, sgn_lt (cmp_lt H1.out.2.1 (by omega) l (fun j h1 h2 => hR.out.1 j (by omega) h2))]
            · exact absurd l hE
            · rw [sgn_gt l, sgn_gt (cmp_lt H2.out.2.1 (by omega) l (fun j h1 h2 => (hR.out.1 j (by omega) h2).symm))]
          have hb : ((f p : Int) == (g p : Int)) = false := by rw [beq_eq_false_iff_ne]; omega
          have hb' : (f p == g p) = false := by rw [beq_eq_false_iff_ne]; exact hE
          have hc := Lib.hid (fun w => cmpU_c (f p) (g p) w)
          generalize f p = x at *
          generalize g p = y at *
          clear hE
          go_wp2_with fail
          go_quiet (fail)
          go_wp2_with fail
          generalize hw1 : wr.drewN _ = w1
          have g1' : w1.cell? ⟨b1, o1 + p, none⟩ = some (.int .u64 x) := by rw [← hw1]; exact g1
          have g2' : w1.cell? ⟨b2, o2 + p, none⟩ = some (.int .u64 y) := by rw [← hw1]; exact g2
          have HW := Lib.hid hw1
          clear hw1 g1 g2
          go_quiet ((go_at_call 60; exact Calls.quiet_of_same ((hc.out _).mono fun e w' h => ⟨h.1, h.2.symm⟩)))
          go_wp2
          go_ret
          exact ⟨ret_int E.out.symm, by rw [← HW.out, HQ.out]; exact ⟨_, by rw [drewN_drewN, drewN_drewN]⟩⟩
  · have hne : ((k1 : Int) == (k2 : Int)) = false := by rw [beq_eq_false_iff_ne]; omega
    have hne' : (k1 == k2) = false := by rw [beq_eq_false_iff_ne]; exact hk
    have E : Hid (sgn n1 n2 = Lib.compareInt (k1 : Int) k2) := by
      unfold Hid
      rw [← s1, ← s2]
      rcases Nat.lt_or_ge k1 k2 with l | l
      · rw [sgn_lt (len_lt r1.2.1 t2 l)]
        unfold Lib.compareInt
        simp; omega
      · rw [sgn_gt (len_lt r2.2.1 t1 (by omega))]
        unfold Lib.compareInt
        simp; omega
    clear r1 r2 t1 t2 s1 s2 hk
    go_enter Tryd.func41, Tryd.ntmps41
    go_wp2_with (go_at_call 59; refine (Tryd.cmp_Compare_int _ _ _).mono ?_; rintro e w' ⟨rfl, rfl⟩)
    go_ret
    exact ⟨ret_int E.out.symm, 0, rfl⟩
end Go.Proofs.YtfijhkaalpinhaaDoor
namespace Go.Proofs.YtfijhkaalpinhaaDoor
open Go.RowKit

theorem from_put (f : Nat → Nat) (o j x : Nat) : from_ (put f (o + j) x) o = put (from_ f o) j x := by
  funext i
  unfold from_ put
  by_cases h : i = j
  · rw [if_pos (by omega), if_pos h]
  · rw [if_neg (by omega), if_neg h]
theorem grown_set {a w : World} {g i : Nat} {v : Value} (h : a.grownBy w (some g)) : a.grownBy (w.setCell ⟨g, i, none⟩ v) (some g) := by
  refine h.trans ⟨rfl, rfl, rfl, by simp, fun k hk hne => ?_⟩
  exact Below.heap_setCell _ _ _ _ (fun e => hne (by rw [e]))
theorem bel_grown {w0 w w' : World} {g : Nat} (hB : Below w0.heap.size w0 w) (hg : w0.heap.size ≤ g) (h : w.grownBy w' (some g)) : Below w0.heap.size w0 w' :=
  hB.grown h hB.size (fun k hk => by cases hk; exact hg)
/-- What a function that changes a window leaves: all else is as it was. -/
structure Wd (w : World) (g K o m : Nat) (f f' : Nat → Nat) (w' : World) : Prop where
  bf : Bf w' g K f'
  out : ∀ j, j < o ∨ o + m ≤ j → f' j = f j
  grown : w.grownBy w' (some g)
def AddTPost (w : World) (g K o m : Nat) (f fb : Nat → Nat) (t : Nat) (e : Ending) (w' : World) : Prop :=
  ∃ (x : Nat) (f' : Nat → Nat), e = .returned (.int .u64 (x : Int)) ∧ x < 18446744073709551616 ∧ Wd w g K o m f f' w' ∧ S (from_ f' o) m + x * bp m = S (from_ f o) m + t * S fb m
set_option maxRecDepth 100000 in
set_option maxHeartbeats 4000000 in
theorem addTimes_g (g o m c K cb t : Nat) (ab : Option Addr) (f fb : Nat → Nat) (w : World) (hb : Rl w ab m fb) (hA : Apart ab m g) (hf : Bf w g K f) (hK : o + m ≤ K) (hK2 : K ≤ 100000) (ht : t < 18446744073709551616) :
    Calls Tryd.prog 58 #[.slice (some ⟨g, o, none⟩) m c, .slice ab m cb, .int .u64 t] w (AddTPost w g K o m f fb t) := by
  have HRB := Lib.hid hb
  have HF := Lib.hid hf
  have HAP := Lib.hid hA
  clear hb hA hf
  go_enter Tryd.func58, Tryd.ntmps58
  go_wp2
  go_loopw [7, 15] (fun v i wr => ∃ (j y : Nat) (f' : Nat → Nat), j ≤ m ∧ i = .int .i64 j ∧ v = .int .u64 y ∧ y < 18446744073709551616 ∧ Hid (Wd w g K o j f f' wr ∧ S (from_ f' o) j + y * bp j = S (from_ f o) j + t * S fb j)) (fun _ i _ => m - (intOf i).toNat)
  case atStart => exact ⟨0, 0, f, Nat.zero_le _, rfl, rfl, by omega, ⟨HF.out, fun _ _ => rfl, World.grownBy.refl _ _⟩, by simp only [S_zero]; omega⟩
  case round =>
    obtain ⟨j, y, f', hj, rfl, rfl, hy, hR⟩ := hrel
    by_cases hlt : j < m
    · have hlt' : (j : Int) < (m : Int) := by omega
      have hBw := HRB.out.grown hR.out.1.grown HAP.out
      obtain ⟨b, off, rfl, hbl, hc1⟩ := hBw.at_ hlt
      have hx := HRB.out.2.1 j hlt
      have hBj := hR.out.1.bf.2.2 (o + j) (by omega)
      have hz := hR.out.1.bf.2.1 (o + j) (by omega)
      have ez : f' (o + j) = f (o + j) := hR.out.1.out _ (.inr (by omega))
      have hc2 := hBj.1
      have hf2 := hBj.2
      rw [ez] at hc2 hz
      obtain ⟨s1, hi, hstep, ha1, ha2, hhi⟩ := steps (fb j) t y hx ht hy
      have HST := Lib.hid hstep
      obtain ⟨s2, d2, hadd2, hb1, hb2, hb3⟩ := adds (f (o + j)) s1 0 rfl rfl (show (0 : Int) = ((0 : Nat) : Int) from rfl) hz ha2 (by omega)
      have hbd : hi + d2 < 18446744073709551616 := by
        have a : fb j * t ≤ 18446744073709551615 * 18446744073709551615 := Nat.mul_le_mul (by omega) (by omega)
        omega
      have NX : Hid (Wd w g K o (j + 1) f (put f' (o + j) s2) (wr.setCell ⟨g, o + j, none⟩ (.int .u64 s2)) ∧ S (from_ (put f' (o + j) s2) o) (j + 1) + (hi + d2) * bp (j + 1) = S (from_ f o) (j + 1) + t * S fb (j + 1)) := by
        refine ⟨⟨hR.out.1.bf.put (by omega) hb2, fun i hi => by rw [put_ne (by omega)]; exact hR.out.1.out i (by omega), grown_set hR.out.1.grown⟩, ?_⟩
        rw [from_put, S_put, bp_succ, S_succ, S_succ]
        have e : from_ f o j = f (o + j) := rfl
        rw [e]
        exact step_addmul hR.out.2 (by omega)
      clear hBj hstep ha1 hb1 ez hBw
      generalize fb j = x at *
      generalize f (o + j) = z at *
      go_wp2_with (first | (go_at_call 46; refine (HST.out _).mono ?_; rintro e w' ⟨rfl, rfl⟩) | (rw [hadd2]))
      go_roundw
      case rel => exact ⟨j + 1, hi + d2, put f' (o + j) s2, by omega, by go_num, by go_num, hbd, NX.out⟩
      case measure => simp [intOf]; omega
    · obtain rfl : j = m := by omega
      go_wp2
      go_ret
      exact ⟨y, f', rfl, hy, hR.out.1, hR.out.2⟩
theorem addTimes_c (w0 : World) (g o m c K cb t : Nat) (ab : Option Addr) (f fb : Nat → Nat) (w : World) (hb : Rl w0 ab m fb) (hB : Below w0.heap.size w0 w) (hg : w0.heap.size ≤ g) (hf : Bf w g K f) (hK : o + m ≤ K) (hK2 : K ≤ 100000) (ht : t < 18446744073709551616) :
    Calls Tryd.prog 58 #[.slice (some ⟨g, o, none⟩) m c, .slice ab m cb, .int .u64 t] w (AddTPost w g K o m f fb t) :=
  addTimes_g g o m c K cb t ab f fb w (hb.below hB) (apart_of hb hg) hf hK hK2 ht
def SubTPost (w : World) (g K o m : Nat) (f fb : Nat → Nat) (t : Nat) (e : Ending) (w' : World) : Prop :=
  ∃ (x : Nat) (f' : Nat → Nat), x ≤ 1 ∧ e = .returned (.bool (decide (x = 1))) ∧ Wd w g K o (m + 1) f f' w' ∧ S (from_ f' o) (m + 1) + t * S fb m = S (from_ f o) (m + 1) + x * bp (m + 1)
set_option maxRecDepth 100000 in
set_option maxHeartbeats 4000000 in
theorem subtractTimes_g (g o m c K cb t : Nat) (ab : Option Addr) (f fb : Nat → Nat) (w : World) (hb : Rl w ab m fb) (hA : Apart ab m g) (hf : Bf w g K f) (hK : o + m + 1 ≤ K) (hK2 : K ≤ 100000) (ht : t < 18446744073709551616) :
    Calls Tryd.prog 83 #[.slice (some ⟨g, o, none⟩) (m + 1) c, .slice ab m cb, .int .u64 t] w (SubTPost w g K o m f fb t) := by
  have HRB := Lib.hid hb
  have HF := Lib.hid hf
  have HAP := Lib.hid hA
  clear hb hA hf
  go_enter Tryd.func83, Tryd.ntmps83
  go_wp2
  go_loopw [7, 16] (fun v i wr => ∃ (j y : Nat) (f' : Nat → Nat), j ≤ m ∧ i = .int .i64 j ∧ v = .int .u64 y ∧ y < 18446744073709551616 ∧ Hid (Wd w g K o j f f' wr ∧ S (from_ f' o) j + t * S fb j = S (from_ f o) j + y * bp j)) (fun _ i _ => m - (intOf i).toNat)
  case atStart => exact ⟨0, 0, f, Nat.zero_le _, rfl, rfl, by omega, ⟨HF.out, fun _ _ => rfl, World.grownBy.refl _ _⟩, by simp only [S_zero]; omega⟩
  case round =>
    obtain ⟨j, y, f', hj, rfl, rfl, hy, hR⟩ := hrel
    have hBj := hR.out.1.bf.2.2 (o + j) (by omega)
    have hz := hR.out.1.bf.2.1 (o + j) (by omega)
    have ez : f' (o + j) = f (o + j) := hR.out.1.out _ (.inr (by omega))
    have hc2 := hBj.1
    have hf2 := hBj.2
    rw [ez] at hc2 hz
    by_cases hlt : j < m
    · have hlt' : (j : Int) < (m : Int) := by omega
      have hBw := HRB.out.grown hR.out.1.grown HAP.out
      obtain ⟨b, off, rfl, hbl, hc1⟩ := hBw.at_ hlt
      have hx := HRB.out.2.1 j hlt
      obtain ⟨s1, hi, hstep, ha1, ha2, hhi⟩ := steps (fb j) t y hx ht hy
      have HST := Lib.hid hstep
      obtain ⟨s2, d2, hsub2, hb1, hb2, hb3⟩ := subs (f (o + j)) s1 0 rfl rfl (show (0 : Int) = ((0 : Nat) : Int) from rfl) hz ha2 (by omega)
      have hbd : hi + d2 < 18446744073709551616 := by
        have a : fb j * t ≤ 18446744073709551615 * 18446744073709551615 := Nat.mul_le_mul (by omega) (by omega)
        omega
      have NX : Hid (Wd w g K o (j + 1) f (put f' (o + j) s2) (wr.setCell ⟨g, o + j, none⟩ (.int .u64 s2)) ∧ S (from_ (put f' (o + j) s2) o) (j + 1) + t * S fb (j + 1) = S (from_ f o) (j + 1) + (hi + d2) * bp (j + 1)) := by
        refine ⟨⟨hR.out.1.bf.put (by omega) hb2, fun i hi => by rw [put_ne (by omega)]; exact hR.out.1.out i (by omega), grown_set hR.out.1.grown⟩, ?_⟩
        rw [from_put, S_put, bp_succ, S_succ, S_succ]
        have e : from_ f o j = f (o + j) := rfl
        rw [e]
        exact step_submul hR.out.2 (by omega)
      clear hBj hstep ha1 hb1 ez hBw
      generalize fb j = x at *
      generalize f (o + j) = z at *
      go_wp2_with (first | (go_at_call 46; refine (HST.out _).mono ?_; rintro e w' ⟨rfl, rfl⟩) | (rw [hsub2]))
      go_roundw
      case rel => exact ⟨j + 1, hi + d2, put f' (o + j) s2, by omega, by go_num, by go_num, hbd, NX.out⟩
      case measure => simp [intOf]; omega
    · obtain rfl : j = m := by omega
      obtain ⟨s, d, hsub, hb1, hb2, hb3⟩ := subs (f (o + j)) y 0 rfl rfl (show (0 : Int) = ((0 : Nat) : Int) from rfl) hz hy (by omega)
      have NX : Hid (Wd w g K o (j + 1) f (put f' (o + j) s) (wr.setCell ⟨g, o + j, none⟩ (.int .u64 s)) ∧ S (from_ (put f' (o + j) s) o) (j + 1) + t * S fb j = S (from_ f o) (j + 1) + d * bp (j + 1)) := by
        refine ⟨⟨hR.out.1.bf.put (by omega) hb2, fun i hi => by rw [put_ne (by omega)]; exact hR.out.1.out i (by omega), grown_set hR.out.1.grown⟩, ?_⟩
        rw [from_put, S_put, bp_succ, S_succ]
        have e : from_ f o j = f (o + j) := rfl
        rw [e]
        have := hR.out.2
        generalize S (from_ f' o) j = A at *
        generalize S (from_ f o) j = C at *
        generalize t * S fb j = D at *
        generalize bp j = P at *
        have hb1' : s + y = f (o + j) + d * 18446744073709551616 := by omega
        generalize f (o + j) = z at *
        grind
      clear hBj ez hb1
      generalize f (o + j) = z at *
      have hd : Hid (decide (0 < d) = decide (d = 1)) := by unfold Hid; apply decide_eq_decide.2; omega
      go_wp2_with (rw [hsub])
      go_ret
      exact ⟨d, put f' (o + j) s, hb3, by rw [← hd.out]; rfl, NX.out.1, NX.out.2⟩
theorem subtractTimes_c (w0 : World) (g o m c K cb t : Nat) (ab : Option Addr) (f fb : Nat → Nat) (w : World) (hb : Rl w0 ab m fb) (hB : Below w0.heap.size w0 w) (hg : w0.heap.size ≤ g) (hf : Bf w g K f) (hK : o + m + 1 ≤ K) (hK2 : K ≤ 100000) (ht : t < 18446744073709551616) :
    Calls Tryd.prog 83 #[.slice (some ⟨g, o, none⟩) (m + 1) c, .slice ab m cb, .int .u64 t] w (SubTPost w g K o m f fb t) :=
  subtractTimes_g g o m c K cb t ab f fb w (hb.below hB) (apart_of hb hg) hf hK hK2 ht
end Go.Proofs.YtfijhkaalpinhaaDoor
