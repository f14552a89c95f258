/-
  Slices of ints that read as lists; the two functions that sum them up; the library's Clone and Equal, nil let in.
-/
import Derived.Test.YtaiiobojlipbeaaRows
import Derived.Test.YtaiiobojlipbeaaSmpMath
import Derived.Test.YtaiiobojlipbeaaShelf
import Derived.WalkKit
import Derived.WalkSpells
import Derived.Deep.QuietTactic
import Derived.BigQuiet
import Derived.RegionTactic
import Derived.OneCell
import Derived.Deep.OwnRows
import Derived.Lib.Hide
import Derived.IntWalk
import Derived.Below
import Derived.WalkSmall
namespace Go.Proofs.Ytaiiobojlipbeaa
open Go.RowKit

theorem ret_int {k : IntKind} {a b : Int} (h : a = b) : Ending.returned (.int k a) = .returned (.int k b) := by rw [h]
/-- The places of a list. -/
def fn (l : List Int) : Nat → Int := fun j => l.getD j 0
/-- A slice that reads as a list of ints. -/
def Rd (w : World) (a : Option Addr) (l : List Int) : Prop :=
  l.length ≤ 9223372036854775807 ∧ (0 < l.length → ∃ b off, a = some ⟨b, off, none⟩ ∧ b < w.heap.size ∧ ∀ j, j < l.length → w.cell? ⟨b, off + j, none⟩ = some (.int .i64 (fn l j)))
theorem Rd.below {w w' : World} {a : Option Addr} {l : List Int} (h : Rd w a l) (hb : Below w.heap.size w w') : Rd w' a l :=
  ⟨h.1, fun h0 => by
    obtain ⟨b, off, e, hl, hc⟩ := h.2 h0
    exact ⟨b, off, e, Nat.lt_of_lt_of_le hl hb.size, fun j hj => by rw [hb.cell (p := ⟨b, off + j, none⟩) hl]; exact hc j hj⟩⟩
theorem Rd.drewN {w : World} {a : Option Addr} {l : List Int} (h : Rd w a l) (m : Nat) : Rd (w.drewN m) a l := h
theorem Rd.at_ {w : World} {a : Option Addr} {l : List Int} (h : Rd w a l) {k : Nat} (hk : k < l.length) :
    ∃ b off, a = some ⟨b, off, none⟩ ∧ w.cell? ⟨b, off + k, none⟩ = some (.int .i64 (fn l k)) := by
  obtain ⟨b, off, e, _, hc⟩ := h.2 (by omega)
  exact ⟨b, off, e, hc k hk⟩
theorem Rd.none_ (w : World) : Rd w none [] := ⟨by simp, fun h => by simp at h⟩
theorem drewN_drewN (w : World) (a b : Nat) : (w.drewN a).drewN b = w.drewN (a + b) := by simp [World.drewN, Nat.add_assoc]
theorem below_drew (w : World) (m : Nat) : Below w.heap.size w (w.drewN m) := below_drewN (Below.refl _ _) _

/-- What a list must be for its sums to be ints. -/
def Sums (l : List Int) : Prop := ∀ k, k ≤ l.length → 0 ≤ Sm.pre (fn l) k ∧ Sm.pre (fn l) k ≤ 9223372036854775807
theorem Sums.of {l : List Int} {B : Int} (h : ∀ j, j < l.length → 0 ≤ fn l j ∧ fn l j ≤ B) (hB : (l.length : Int) * B ≤ 9223372036854775807) (hB0 : 0 ≤ B) : Sums l := fun k hk => by
  have h1 := Sm.pre_bd k (f := fn l) (B := B) fun j hj => h j (by omega)
  have h2 : (k : Int) * B ≤ (l.length : Int) * B := Int.mul_le_mul_of_nonneg_right (by omega) hB0
  omega
set_option maxHeartbeats 400000 in
theorem sumOf_c (a : Option Addr) (c : Nat) (l : List Int) (w : World) (h : Rd w a l) (hs : Sums l) :
    Calls Try.prog 20 #[.slice a l.length c] w fun e w' => e = .returned (.int .i64 (Sm.pre (fn l) l.length)) ∧ w = w' := by
  have H := Lib.hid h
  have HS := Lib.hid hs
  have hn := h.1
  clear h hs
  go_enter Try.func20, Try.ntmps20
  go_wp2
  go_loop [3, 5, 8] (fun s _ i => ∃ k : Nat, k ≤ l.length ∧ i = .int .i64 k ∧ s = .int .i64 (Sm.pre (fn l) k)) (fun _ _ i => l.length - (intOf i).toNat)
  case atStart => exact ⟨0, Nat.zero_le _, rfl, rfl⟩
  case round =>
    obtain ⟨k, hk, rfl, rfl⟩ := hrel
    by_cases hlt : k < l.length
    · obtain ⟨b, off, rfl, hc⟩ := H.out.at_ hlt
      have h1 := HS.out k hk
      have h2 := HS.out (k + 1) hlt
      rw [Sm.pre_succ] at h2
      have hN := Lib.hid (Sm.pre_succ (fn l) k)
      generalize Sm.pre (fn l) k = s at h1 h2 hN
      generalize fn l k = x at hc h2 hN
      have hlt' : (k : Int) < (l.length : Int) := by omega
      go_wp2
      go_round
      case rel => exact ⟨k + 1, by omega, by go_num, by rw [hN.out]⟩
      case measure => simp [intOf]; omega
    · obtain rfl : k = l.length := by omega
      go_wp2
      go_ret
      exact ⟨rfl, rfl⟩
set_option maxHeartbeats 400000 in
theorem total_c (a : Option Addr) (c : Nat) (l : List Int) (w : World) (h : Rd w a l) (hs : Sums l) :
    Calls Try.prog 23 #[.slice a l.length c] w fun e w' => e = .returned (.int .i64 (Sm.pre (fn l) l.length)) ∧ w = w' := by
  have H := Lib.hid h
  have HS := Lib.hid hs
  have hn := h.1
  clear h hs
  go_enter Try.func23, Try.ntmps23
  go_wp2
  go_loop [3, 5, 8] (fun s _ i => ∃ k : Nat, k ≤ l.length ∧ i = .int .i64 k ∧ s = .int .i64 (Sm.pre (fn l) k)) (fun _ _ i => l.length - (intOf i).toNat)
  case atStart => exact ⟨0, Nat.zero_le _, rfl, rfl⟩
  case round =>
    obtain ⟨k, hk, rfl, rfl⟩ := hrel
    by_cases hlt : k < l.length
    · obtain ⟨b, off, rfl, hc⟩ := H.out.at_ hlt
      have h1 := HS.out k hk
      have h2 := HS.out (k + 1) hlt
      rw [Sm.pre_succ] at h2
      have hN := Lib.hid (Sm.pre_succ (fn l) k)
      generalize Sm.pre (fn l) k = s at h1 h2 hN
      generalize fn l k = x at hc h2 hN
      have hlt' : (k : Int) < (l.length : Int) := by omega
      go_wp2
      go_round
      case rel => exact ⟨k + 1, by omega, by go_num, by rw [hN.out]⟩
      case measure => simp [intOf]; omega
    · obtain rfl : k = l.length := by omega
      go_wp2
      go_ret
      exact ⟨rfl, rfl⟩

theorem take_self (l : List Int) : l.take l.length = l := List.take_of_length_le (Nat.le_refl _)
/-- Two slices with equal lists are equal. -/
theorem equal_c (a1 a2 : Option Addr) (c1 c2 : Nat) (l : List Int) (w : World) (h1 : Rd w a1 l) (h2 : Rd w a2 l) :
    Calls Try.prog 10 #[.slice a1 l.length c1, .slice a2 l.length c2] w fun e w' => e = .returned (.bool true) ∧ ∃ q, w' = w.drewN q := by
  by_cases h0 : l.length = 0
  · have e := Try.slices_Equal_int_empty a1 a2 c1 l.length c2 w h2.1
    rw [h0] at e ⊢
    refine e.mono ?_
    rintro e w' ⟨rfl, rfl⟩
    exact ⟨rfl, 0, rfl⟩
  · obtain ⟨b1, o1, rfl, _, k1⟩ := h1.2 (by omega)
    obtain ⟨b2, o2, rfl, _, k2⟩ := h2.2 (by omega)
    have e := Try.slices_Equal_int b1 o1 l.length c1 b2 o2 l.length c2 l l w (Nat.le_refl _) (Nat.le_refl _) h1.1 h1.1 k1 k2
    simpa using e

/-- A row of ints in one block of the call's own. -/
def RowF (w : World) (b n : Nat) (f : Nat → Int) : Prop := ∀ j, j < n → w.cell? ⟨b, j, none⟩ = some (.int .i64 (f j)) ∧ w.frozen? ⟨b, j, none⟩ = false
theorem RowF.congr {w : World} {b n : Nat} {f g : Nat → Int} (h : RowF w b n f) (e : ∀ j, j < n → f j = g j) : RowF w b n g :=
  fun j hj => by rw [← e j hj]; exact h j hj
theorem RowF.set {w : World} {b n : Nat} {f : Nat → Int} (h : RowF w b n f) (i : Nat) (x : Int) : RowF (w.setCell ⟨b, i, none⟩ (.int .i64 x)) b n (fun j => if j = i then x else f j) := by
  intro j hj
  refine ⟨?_, by rw [World.frozen?_setCell]; exact (h j hj).2⟩
  by_cases e : j = i
  · subst e
    rw [World.cell?_setCell_same _ _ _ (h j hj).1]; simp
  · rw [World.cell?_setCell_other _ _ _ _ (by intro h; exact e (by injection h with _ h2; exact h2.symm))]
    simp only [if_neg e]
    exact (h j hj).1
theorem RowF.below {w w' : World} {B b n : Nat} {f : Nat → Int} (h : RowF w b n f) (hb : Below B w w') (hB : b < B) : RowF w' b n f :=
  fun j hj => ⟨by rw [hb.cell (p := ⟨b, j, none⟩) hB]; exact (h j hj).1, by rw [hb.frozen (p := ⟨b, j, none⟩) hB]; exact (h j hj).2⟩
theorem RowF.drewN {w : World} {b n : Nat} {f : Nat → Int} (h : RowF w b n f) (m : Nat) : RowF (w.drewN m) b n f := h
theorem RowF.made (w : World) (n : Nat) (e : TypeId) : RowF (w.alloc (.cells (madeCells #[.int .i64 0] n) e)) w.heap.size n (fun _ => 0) := by
  intro j hj
  refine ⟨?_, by simp⟩
  rw [World.cell?_alloc_new]
  rw [← Array.getElem?_toList, toList_madeCells_one]
  simp [hj]
/-- An owned row, as its cells. -/
theorem owned_cells {w : World} {base n : Nat} {e : TypeId} {v : Value} {l : List Int} (h : w.ownsRow base e 1 v n (l.map (Value.int .i64))) (hn : 0 < n) :
    ∃ g cap, v = .slice (some ⟨g, 0, none⟩) n cap ∧ base ≤ g ∧ g < w.heap.size ∧ l.length = n ∧ RowF w g n (fn l) := by
  obtain ⟨hl, h | ⟨g, cap, cur, rfl, hb, hg, hnc, hm, hs, ht⟩⟩ := h
  · omega
  · have hlen : l.length = n := by simpa using hl
    have hlt : g < w.heap.size := lt_of_block hg
    refine ⟨g, cap, rfl, hb, hlt, hlen, fun j hj => ⟨?_, by simp [World.frozen?, hg]⟩⟩
    have hj2 : cur[j]? = some (.int .i64 (l.getD j 0)) := by
      have e1 : (cur.toList.take (n * 1))[j]? = (l.map (Value.int .i64))[j]? := by rw [ht]
      rw [List.getElem?_take, if_pos (by omega)] at e1
      rw [← Array.getElem?_toList, e1, List.getElem?_map]
      have hj3 : j < l.length := by omega
      simp [hj3]
    unfold fn
    simp [World.cell?, hg, hj2]
/-- The list of the first n values. -/
def tab (f : Nat → Int) (n : Nat) : List Int := (List.range n).map f
theorem tab_len (f : Nat → Int) (n : Nat) : (tab f n).length = n := by simp [tab]
theorem tab_at (f : Nat → Int) (n j : Nat) (h : j < n) : fn (tab f n) j = f j := by simp [tab, fn, h]
theorem tab_succ (f : Nat → Int) (n : Nat) : tab f (n + 1) = tab f n ++ [f n] := by simp [tab, List.range_succ]
theorem RowF.rd {w : World} {b n : Nat} {f : Nat → Int} (h : RowF w b n f) (hn : n ≤ 9223372036854775807) (hb : b < w.heap.size) : Rd w (some ⟨b, 0, none⟩) (tab f n) :=
  ⟨by rw [tab_len]; exact hn, fun _ => ⟨b, 0, rfl, hb, fun j hj => by rw [tab_len] at hj; rw [tab_at _ _ _ hj, Nat.zero_add]; exact (h j hj).1⟩⟩
theorem rd_zero (w : World) (a : Option Addr) (f : Nat → Int) : Rd w a (tab f 0) := ⟨by simp [tab], fun h => by simp [tab] at h⟩

/-- Clone of a slice of at most 5000 ints. -/
def ClonePost (w : World) (l : List Int) (e : Ending) (w' : World) : Prop :=
  ∃ a c, e = .returned (.slice a l.length c) ∧ Below w.heap.size w w' ∧ (0 < l.length → ∃ g, a = some ⟨g, 0, none⟩ ∧ w.heap.size ≤ g ∧ g < w'.heap.size ∧ RowF w' g l.length (fn l))
theorem clone_c (a : Option Addr) (c : Nat) (l : List Int) (w : World) (h : Rd w a l) (hn : l.length ≤ 5000) :
    Calls Try.prog 21 #[.slice a l.length c] w (ClonePost w l) := by
  by_cases h0 : l.length = 0
  · rcases a with _ | ad
    · refine (Try.slices_Clone_int_nil l.length c w).mono ?_
      rintro e w' ⟨rfl, rfl⟩
      exact ⟨none, 0, by rw [h0], Below.refl _ _, fun h => by omega⟩
    · rw [h0]
      refine (Try.slices_Clone_int_zero ad c w).mono ?_
      rintro e w' ⟨v, rfl, ho, _, hb⟩
      obtain ⟨_, ⟨rfl, _⟩ | ⟨g, cap, cur, rfl, _⟩⟩ := ho
      · exact ⟨none, 0, by rw [h0], hb, fun h => by omega⟩
      · exact ⟨_, cap, by rw [h0], hb, fun h => by omega⟩
  · obtain ⟨b1, o1, rfl, _, k1⟩ := h.2 (by omega)
    refine (Try.slices_Clone_int b1 o1 l.length c l w (Nat.le_refl _) (by omega) k1).mono ?_
    rintro e w' ⟨v, rfl, ho, _, hb⟩
    rw [take_self] at ho
    obtain ⟨g, cap, rfl, g1, g2, _, g3⟩ := owned_cells ho (by omega)
    exact ⟨_, cap, rfl, hb, fun _ => ⟨g, rfl, g1, g2, g3⟩⟩
end Go.Proofs.Ytaiiobojlipbeaa
