/-
  Stream and Shuffle: the contracts of the stream's closure, of stream, Stream and Shuffle.
-/
import Derived.Test.YtleiapoaoiapbabRows
import Derived.Test.YtleiapoaoiapbabChMath
import Derived.WalkKit
import Derived.WalkSpells
import Derived.Deep.QuietTactic
import Derived.BigQuiet
import Derived.RegionTactic
import Derived.OneCell
import Derived.Deep.OwnRows
import Derived.Lib.Hide
namespace Go.Proofs.Ytleiapoaoiapbab
open Go.RowKit

theorem ret_int {k : IntKind} {a b : Int} (h : a = b) : Ending.returned (.int k a) = .returned (.int k b) := by rw [h]
theorem bcell {W w1 : World} (hb : Below W.heap.size W w1) : (∀ b o, b < W.heap.size → w1.cell? ⟨b, o, none⟩ = W.cell? ⟨b, o, none⟩) ∧ (∀ b o, b < W.heap.size → w1.frozen? ⟨b, o, none⟩ = W.frozen? ⟨b, o, none⟩) :=
  ⟨fun b o h => hb.cell (p := ⟨b, o, none⟩) h, fun b o h => hb.frozen (p := ⟨b, o, none⟩) h⟩

theorem step_c (b : Nat) (st : Int) (w : World) (hc : w.cell? ⟨b, 0, none⟩ = some (.int .u64 st)) (hf : w.frozen? ⟨b, 0, none⟩ = false) :
    Calls Try.prog 13 #[.pointer (some ⟨b, 0, none⟩)] w fun e w' => e = .returned (.int .u64 (Ch.ot st)) ∧ w' = w.setCell ⟨b, 0, none⟩ (.int .u64 (Ch.nx st)) := by
  go_enter Try.func13, Try.ntmps13
  go_wp2
  go_ret
  exact ⟨rfl, rfl⟩

/-- The world in which a block of the call's own has one cell, and everything ahead of it is as it was. -/
def OneAt (w : World) (b : Nat) (v : Value) (w' : World) : Prop := w'.heap[b]? = some (.cells #[v] 30 (0, 0)) ∧ Below b w w' ∧ w'.heap.size = b + 1

theorem OneAt.put {w w' : World} {b : Nat} {v : Value} (h : OneAt w b v w') (u : Value) : OneAt w b u (w'.drew.setCell ⟨b, 0, none⟩ u) :=
  ⟨one_setCell (w := w'.drew) h.1, h.2.1.drew.setCell (p := ⟨b, 0, none⟩) (Nat.le_refl _) u, by simpa using h.2.2⟩
theorem heap_new (w : World) (o : Obj) : (w.alloc o).heap[w.heap.size]? = some o := by unfold World.alloc; simp
theorem seed_step (s : ByteArray) (k : Nat) (h : k < s.size) : Ch.seedAt s (k + 1) = Ch.fh (Ch.seedAt s k) s[k] := by
  unfold Ch.seedAt
  rw [List.take_succ_eq_append_getElem (by simpa using h), List.foldl_append]
  rfl

set_option maxHeartbeats 1000000 in
theorem stream_c (s : ByteArray) (w : World) (hs : s.size ≤ 9223372036854775807) :
    Calls Try.prog 11 #[.string s] w fun e w' => e = .returned (.func (.func 13) #[] #[.pointer (some ⟨w.heap.size, 0, none⟩)]) ∧ OneAt w w.heap.size (.int .u64 (Ch.seed s)) w' := by
  go_enter Try.func11, Try.ntmps11
  go_wp2
  go_loopw [4, 7] (fun _ i wr => ∃ k : Nat, k ≤ s.size ∧ i = .int .i64 k ∧ Hid (OneAt w w.heap.size (.int .u64 (Ch.seedAt s k)) wr)) (fun _ i _ => s.size - (intOf i).toNat)
  case atStart => exact ⟨0, Nat.zero_le _, rfl, heap_new _ _, (Below.refl _ _).alloc (Nat.le_refl _) _, by simp⟩
  case round =>
    obtain ⟨k, hk, rfl, hO⟩ := hrel
    by_cases hlt : k < s.size
    · have hc := cell_of_one hO.out.1
      have hf := free_of_one hO.out.1
      have hst := Lib.hid (seed_step s k hlt)
      have hlt' : (k : Int) < (s.size : Int) := by omega
      generalize Ch.seedAt s k = st at hc hO hst
      go_wp2_with fail
      go_region
      go_wp2
      go_roundw
      case rel => exact ⟨k + 1, by omega, by go_num, by rw [hst.out]; exact hO.out.put _⟩
      case measure => simp [intOf]; omega
    · obtain rfl : k = s.size := by omega
      go_wp2
      go_ret
      exact ⟨rfl, hO.out⟩

/-! ### A row of ints in one block, as a function of the place. -/
def RowF (w : World) (b n : Nat) (k : IntKind) (f : Nat → Int) : Prop := ∀ j, j < n → w.cell? ⟨b, j, none⟩ = some (.int k (f j)) ∧ w.frozen? ⟨b, j, none⟩ = false
theorem RowF.made (w : World) (n : Nat) (k : IntKind) (e : TypeId) : RowF (w.alloc (.cells (madeCells #[.int k 0] n) e)) w.heap.size n k (fun _ => 0) := by
  intro j hj
  refine ⟨?_, by simp⟩
  rw [World.cell?_alloc_new]
  rw [← Array.getElem?_toList, toList_madeCells_one]
  simp [hj]
theorem RowF.congr {w : World} {b n : Nat} {k : IntKind} {f g : Nat → Int} (h : RowF w b n k f) (e : ∀ j, j < n → f j = g j) : RowF w b n k g :=
  fun j hj => by rw [← e j hj]; exact h j hj
theorem RowF.set {w : World} {b n : Nat} {k : IntKind} {f : Nat → Int} (h : RowF w b n k f) (i : Nat) (x : Int) : RowF (w.setCell ⟨b, i, none⟩ (.int k x)) b n k (fun j => if j = i then x else f j) := by
  intro j hj
  refine ⟨?_, by rw [World.frozen?_setCell]; exact (h j hj).2⟩
  by_cases e : j = i
  · subst e
    rw [World.cell?_setCell_same _ _ _ (h j hj).1]; simp
  · rw [World.cell?_setCell_other _ _ _ _ (by intro h; exact e (by injection h with _ h2; exact h2.symm))]
    simp only [if_neg e]
    exact (h j hj).1
theorem RowF.other {w : World} {b n : Nat} {k : IntKind} {f : Nat → Int} (h : RowF w b n k f) {a : Addr} (ha : a.block ≠ b) (x : Value) : RowF (w.setCell a x) b n k f := by
  intro j hj
  refine ⟨?_, by rw [World.frozen?_setCell]; exact (h j hj).2⟩
  rw [World.cell?_setCell_other _ _ _ _ (by intro e; exact ha (by rw [e]))]
  exact (h j hj).1
theorem RowF.below {w w' : World} {B b n : Nat} {k : IntKind} {f : Nat → Int} (h : RowF w b n k f) (hb : Below B w w') (hB : b < B) : RowF w' b n k f :=
  fun j hj => ⟨by rw [hb.cell (p := ⟨b, j, none⟩) hB]; exact (h j hj).1, by rw [hb.frozen (p := ⟨b, j, none⟩) hB]; exact (h j hj).2⟩

/-- What Stream leaves after k numbers: the state in block B, the numbers in block B + 1. -/
structure InStream (w : World) (s0 : Int) (n k : Nat) (wr : World) : Prop where
  one : wr.heap[w.heap.size]? = some (.cells #[.int .u64 (Ch.stAt s0 k)] 30 (0, 0))
  row : RowF wr (w.heap.size + 1) n .u64 (fun j => if j < k then Ch.outAt s0 j else 0)
  bel : Below w.heap.size w wr
  size : wr.heap.size = w.heap.size + 2
theorem heap_setCell_ne (w : World) (a : Addr) (u : Value) (k : Nat) (h : k ≠ a.block) : (w.setCell a u).heap[k]? = w.heap[k]? := Below.heap_setCell w a u k h
theorem InStream.next {w wr : World} {s0 : Int} {n k : Nat} (h : InStream w s0 n k wr) :
    InStream w s0 n (k + 1) ((wr.setCell ⟨w.heap.size, 0, none⟩ (.int .u64 (Ch.nx (Ch.stAt s0 k)))).setCell ⟨w.heap.size + 1, k, none⟩ (.int .u64 (Ch.ot (Ch.stAt s0 k)))) where
  one := by
    rw [heap_setCell_ne _ _ _ _ (by simp)]
    exact one_setCell h.one
  row := by
    refine ((h.row.other (a := ⟨w.heap.size, 0, none⟩) (by simp) _).set k _).congr fun j hj => ?_
    by_cases e : j = k
    · subst e; simp [Ch.outAt]
    · rw [if_neg e]
      by_cases l : j < k
      · rw [if_pos l, if_pos (by omega)]
      · rw [if_neg l, if_neg (by omega)]
  bel := (h.bel.setCell (p := ⟨w.heap.size, 0, none⟩) (Nat.le_refl _) _).setCell (p := ⟨w.heap.size + 1, k, none⟩) (Nat.le_succ _) _
  size := by simpa using h.size

theorem InStream.start {w w1 : World} {s0 : Int} (n : Nat) (h : OneAt w w.heap.size (.int .u64 s0) w1) : InStream w s0 n 0 (w1.alloc (.cells (madeCells #[.int .u64 0] n) 30)) where
  one := by rw [Below.heap_alloc _ _ _ (by rw [h.2.2]; omega)]; exact h.1
  row := by
    rw [← h.2.2]
    exact (RowF.made w1 n .u64 30).congr (fun j _ => by simp)
  bel := h.2.1.alloc (by rw [h.2.2]; omega) _
  size := by simp [h.2.2]
theorem Stream_no (s : ByteArray) (n : Int) (w : World) (h : n < 0 ∨ 10000 < n) :
    Calls Try.prog 5 #[.string s, .int .i64 n] w fun e w' => e = .returned (.tuple #[.slice none 0 0, .int .i64 1]) ∧ w' = w := by
  rcases h with h | h
  · go_enter Try.func5, Try.ntmps5
    go_wp2
    go_ret2
    exact ⟨rfl, rfl⟩
  · have h1 : decide (n < 0) = false := by simp; omega
    go_enter Try.func5, Try.ntmps5
    go_wp2
    go_ret2
    exact ⟨rfl, rfl⟩

theorem infoU : (Try.prog.info? 30).map (fun i => (i.zero, i.size, i.bytes)) = some (some (.int .u64 0), 1, 8) := by kernel_rfl
theorem infoI : (Try.prog.info? 3).map (fun i => (i.zero, i.size, i.bytes)) = some (some (.int .i64 0), 1, 8) := by kernel_rfl

set_option maxHeartbeats 2000000 in
theorem Stream_yes (s : ByteArray) (n : Nat) (w : World) (hs : s.size ≤ 9223372036854775807) (hn : n ≤ 10000) :
    Calls Try.prog 5 #[.string s, .int .i64 n] w fun e w' => e = .returned (.tuple #[.slice (some ⟨w.heap.size + 1, 0, none⟩) n n, .int .i64 0]) ∧ InStream w (Ch.seed s) n n w' := by
  have hmk := run_make_row' (P := Try.prog) 22 30 (.int .u64 0) 8 Try.underlying22 infoU rfl .i64 .i64 n (by omega) (by omega)
  have h1 : decide ((n : Int) < 0) = false := by simp
  have h2 : decide ((10000 : Int) < (n : Int)) = false := by simp; omega
  go_enter Try.func5, Try.ntmps5
  go_wp2_with fail
  refine (stream_c _ _ hs).mono ?_
  rintro e w1 ⟨rfl, hO⟩
  have HO := Lib.hid hO; clear hO
  go_wp2_with fail
  rw [HO.out.2.2]
  have hS := Lib.hid (InStream.start n HO.out)
  generalize w1.alloc (.cells (madeCells #[.int .u64 0] n) 30) = w2 at hS
  clear HO hmk h1 h2
  go_loopw [8, 21] (fun _ i wr => ∃ k : Nat, k ≤ n ∧ i = .int .i64 k ∧ Hid (InStream w (Ch.seed s) n k wr)) (fun _ i _ => n - (intOf i).toNat)
  case atStart => exact ⟨0, Nat.zero_le _, rfl, hS.out⟩
  case round =>
    obtain ⟨k, hk, rfl, hR⟩ := hrel
    by_cases hlt : k < n
    · have hc := cell_of_one hR.out.one
      have hf := free_of_one hR.out.one
      have c1 := (hR.out.row k hlt).1
      have f1 := (hR.out.row k hlt).2
      have hlt' : (k : Int) < (n : Int) := by omega
      have hN := Lib.hid hR.out.next
      simp only [if_neg (Nat.lt_irrefl k)] at c1
      generalize Ch.stAt (Ch.seed s) k = st at hc hN
      clear hR
      go_wp2_with (go_at_call 13; refine (step_c _ _ _ hc hf).mono ?_; rintro e w' ⟨rfl, rfl⟩)
      go_roundw
      case rel => exact ⟨k + 1, by omega, by go_num, hN.out⟩
      case measure => simp [intOf]; omega
    · obtain rfl : k = n := by omega
      go_wp2
      go_ret2
      exact ⟨rfl, hR.out⟩
end Go.Proofs.Ytleiapoaoiapbab
