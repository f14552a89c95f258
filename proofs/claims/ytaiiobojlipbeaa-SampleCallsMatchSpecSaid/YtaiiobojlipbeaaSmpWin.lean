/-
  Attempts in a window; the comparison of two windows.
-/
import Derived.Test.YtaiiobojlipbeaaSmpRPair
import Derived.Deep.RegionHeld3
import Derived.Laws.EntriesVeiled
namespace Go.Proofs.Ytaiiobojlipbeaa
open Go.RowKit

/-- Attempts of minutes from 0 on. -/
def mins (l : List (Int × Int)) : Prop := ∀ (j : Nat) (m o : Int), l[j]? = some (m, o) → 0 ≤ m ∧ m ≤ 1099511627776
/-- A pair in a box that the call made first. -/
structure Win (w : World) (f t : Int) (wr : World) : Prop where
  c0 : wr.cell? ⟨w.heap.size, 0, none⟩ = some (.int .i64 f)
  c1 : wr.cell? ⟨w.heap.size, 1, none⟩ = some (.int .i64 t)
  bel : Below w.heap.size w wr
  lt : w.heap.size < wr.heap.size
theorem Win.alloc {w wr : World} {f t : Int} (h : Win w f t wr) (o : Obj) : Win w f t (wr.alloc o) where
  c0 := by rw [World.cell?_alloc_lt _ _ _ h.lt]; exact h.c0
  c1 := by rw [World.cell?_alloc_lt _ _ _ h.lt]; exact h.c1
  bel := h.bel.alloc h.bel.size o
  lt := Nat.lt_of_lt_of_le h.lt (by simp)
theorem Win.start (w : World) (f t : Int) (T : TypeId) : Win w f t (w.alloc (.cells #[.int .i64 f, .int .i64 t] T)) where
  c0 := by rw [World.cell?_alloc_new]; rfl
  c1 := by rw [World.cell?_alloc_new]; rfl
  bel := (Below.refl _ _).alloc (Nat.le_refl _) _
  lt := by simp
theorem cntW_succ (f t : Int) (l : List (Int × Int)) (k : Nat) {m o : Int} (h : l[k]? = some (m, o)) : Sm.cntW f t l (k + 1) = Sm.cntW f t l k + if f ≤ m % 1440 ∧ m % 1440 < t then 1 else 0 := by
  show Sm.cntW f t l k + _ = _
  simp [List.getD, h]

set_option maxHeartbeats 2000000 in
theorem attemptsIn_c (f t : Int) (a : Option Addr) (c : Nat) (l : List (Int × Int)) (w : World) (h : RdP w a l) (hm : mins l) (hn : l.length ≤ 100) :
    Calls Try.prog 42 #[.agg #[.int .i64 f, .int .i64 t], .slice a l.length c] w (OnePost (Sm.cntW f t l l.length) w) := by
  have H := Lib.hid h
  have HM := Lib.hid hm
  clear h hm
  go_enter Try.func42, Try.ntmps42
  go_wp2
  have hW := Lib.hid (Win.start w f t 55)
  generalize w.alloc (.cells #[.int .i64 f, .int .i64 t] 55) = w1 at hW
  go_loopw [5, 7, 8, 11] (fun n _ _ i wr => ∃ k : Nat, k ≤ l.length ∧ i = .int .i64 k ∧ n = .int .i64 (Sm.cntW f t l k) ∧ Hid (Win w f t wr)) (fun _ _ _ i _ => l.length - (intOf i).toNat)
  case atStart => exact ⟨0, Nat.zero_le _, rfl, rfl, hW.out⟩
  case round =>
    clear hW
    obtain ⟨k, hk, rfl, rfl, hI⟩ := hrel
    by_cases hlt : k < l.length
    · obtain ⟨m, o, hkk⟩ := pair_at hlt
      obtain ⟨b, off, rfl, hb, q1, q2⟩ := (H.out.below hI.out.bel).at_ hkk
      have hlt' : (k : Int) < (l.length : Int) := by omega
      obtain ⟨g1, g2⟩ := HM.out k m o hkk
      have hS := Lib.hid (cntW_succ f t l k hkk)
      have hI' := Lib.hid (hI.out.alloc (.cells #[.int .i64 m, .int .i64 o] 47))
      have cb := Sm.cntW_bd f t l k
      have u0 : (wr.alloc (.cells #[.int .i64 m, .int .i64 o] 47)).cell? ⟨w.heap.size, 0, none⟩ = some (.int .i64 f) := hI'.out.c0
      have u1 : (wr.alloc (.cells #[.int .i64 m, .int .i64 o] 47)).cell? ⟨w.heap.size, 1, none⟩ = some (.int .i64 t) := hI'.out.c1
      have hlw := hI.out.lt
      have v0 := hI.out.c0
      have v1 := hI.out.c1
      clear hI hkk H HM u0 u1
      generalize Sm.cntW f t l k = n at *
      by_cases c1 : f ≤ m % 1440
      · have d1 : decide (f ≤ m % 1440) = true := by simp; omega
        by_cases c2 : m % 1440 < t
        · have d2 : decide (m % 1440 < t) = true := by simp; omega
          have hS' : Hid (Sm.cntW f t l (k + 1) = n + 1) := by unfold Hid; rw [hS.out, if_pos ⟨c1, c2⟩]
          clear hS c1 c2
          go_wp2
          go_roundw
          case rel => exact ⟨k + 1, by omega, by go_num, by rw [hS'.out], hI'.out⟩
          case measure => simp [intOf]; omega
        · have d2 : decide (m % 1440 < t) = false := by simp; omega
          have hS' : Hid (Sm.cntW f t l (k + 1) = n) := by unfold Hid; rw [hS.out, if_neg (fun h => c2 h.2)]; omega
          clear hS c1 c2
          go_wp2
          go_roundw
          case rel => exact ⟨k + 1, by omega, by go_num, by rw [hS'.out], hI'.out⟩
          case measure => simp [intOf]; omega
      · have d1 : decide (f ≤ m % 1440) = false := by simp; omega
        have hS' : Hid (Sm.cntW f t l (k + 1) = n) := by unfold Hid; rw [hS.out, if_neg (fun h => c1 h.1)]; omega
        clear hS c1
        go_wp2
        go_roundw
        case rel => exact ⟨k + 1, by omega, by go_num, by rw [hS'.out], hI'.out⟩
        case measure => simp [intOf]; omega
    · obtain rfl : k = l.length := by omega
      go_wp2
      go_ret
      exact ⟨rfl, hI.out.bel⟩

/-- Two windows in boxes, and the box of the attempts. -/
def Bx2 (w : World) (p q : Int × Int) (bb : Nat) (v : Value) (W : World) : Prop :=
  W.cell? ⟨w.heap.size, 0, none⟩ = some (.int .i64 p.1) ∧ W.cell? ⟨w.heap.size, 1, none⟩ = some (.int .i64 p.2) ∧
  W.cell? ⟨w.heap.size + 1, 0, none⟩ = some (.int .i64 q.1) ∧ W.cell? ⟨w.heap.size + 1, 1, none⟩ = some (.int .i64 q.2) ∧
  W.cell? ⟨bb, 0, none⟩ = some v ∧ Hid (Below w.heap.size w W ∧ w.heap.size + 2 ≤ W.heap.size ∧ bb < w.heap.size)
theorem Bx2.keep {w W W' : World} {p q : Int × Int} {bb : Nat} {v : Value} (h : Bx2 w p q bb v W) (hb : Below W.heap.size W W') : Bx2 w p q bb v W' := by
  obtain ⟨a0, a1, b0, b1, c0, hh⟩ := h
  obtain ⟨hB, hs, hl⟩ := hh.out
  have f := fun (g o : Nat) (hg : g < W.heap.size) => hb.cell (p := ⟨g, o, none⟩) hg
  refine ⟨?_, ?_, ?_, ?_, ?_, hB.trans (hb.mono hB.size), Nat.le_trans hs hb.size, hl⟩
  all_goals (rw [f _ _ (by omega)]; assumption)
theorem Bx2.bel {w W : World} {p q : Int × Int} {bb : Nat} {v : Value} (h : Bx2 w p q bb v W) : Below w.heap.size w W := by
  obtain ⟨_, _, _, _, _, hh⟩ := h; exact hh.out.1
theorem cnt_bx (s : Int × Int) (x : Int) (w W : World) (p q : Int × Int) (bb : Nat) (a : Option Addr) (c : Nat) (l : List (Int × Int)) (hx : Sm.cntW s.1 s.2 l l.length = x) (h : RdP w a l) (hm : mins l) (hn : l.length ≤ 100) (hS : Bx2 w p q bb (.slice a l.length c) W) :
    Calls Try.prog 42 #[.agg #[.int .i64 s.1, .int .i64 s.2], .slice a l.length c] W fun e w' => e = .returned (.int .i64 x) ∧ Bx2 w p q bb (.slice a l.length c) w' := by
  rw [← hx]
  exact (attemptsIn_c s.1 s.2 a c l W (h.below hS.bel) hm hn).mono fun e w' ⟨he, hb⟩ => ⟨he, hS.keep hb⟩
set_option maxHeartbeats 4000000 in
theorem less_c (p q : Int × Int) (bb : Nat) (a : Option Addr) (c : Nat) (l : List (Int × Int)) (w : World) (h : RdP w a l) (hm : mins l) (hn : l.length ≤ 100) (hbb : w.cell? ⟨bb, 0, none⟩ = some (.slice a l.length c)) (hlt : bb < w.heap.size) :
    Calls Try.prog 41 #[.agg #[.int .i64 p.1, .int .i64 p.2], .agg #[.int .i64 q.1, .int .i64 q.2], .pointer (some ⟨bb, 0, none⟩)] w (OnePost (Sm.cntW p.1 p.2 l l.length - Sm.cntW q.1 q.2 l l.length) w) := by
  have H := Lib.hid h
  have HM := Lib.hid hm
  clear h hm
  obtain ⟨x, hx⟩ : ∃ z, Sm.cntW p.1 p.2 l l.length = z := ⟨_, rfl⟩
  obtain ⟨y, hy⟩ : ∃ z, Sm.cntW q.1 q.2 l l.length = z := ⟨_, rfl⟩
  have bx := Sm.cntW_bd p.1 p.2 l l.length
  have byy := Sm.cntW_bd q.1 q.2 l l.length
  rw [hx] at bx
  rw [hy] at byy
  rw [hx, hy]
  have HX := Lib.hid hx
  have HY := Lib.hid hy
  clear hx hy
  have zz : IntKind.i64.wrap (x - y) = x - y := IntWalk.i64_in _ (by omega)
  have HN := Lib.hid hn
  clear hn
  go_enter Try.func41, Try.ntmps41
  go_wp2_with fail
  obtain ⟨W0, hW0⟩ : ∃ W0, W0 = (w.alloc (.cells #[.int .i64 p.1, .int .i64 p.2] 55)).alloc (.cells #[.int .i64 q.1, .int .i64 q.2] 55) := ⟨_, rfl⟩
  rw [← hW0]
  have B0 : Bx2 w p q bb (.slice a l.length c) W0 := by
    rw [hW0]
    refine ⟨?_, ?_, ?_, ?_, ?_, (((Below.refl _ _).alloc (Nat.le_refl _) _).alloc (by simp) _), by simp, hlt⟩
    · simp [go_sem, World.cell?_alloc_past]
    · simp [go_sem, World.cell?_alloc_past]
    · simp [go_sem, World.cell?_alloc_past]
    · simp [go_sem, World.cell?_alloc_past]
    · rw [World.cell?_alloc_lt _ _ _ (by simp; omega), World.cell?_alloc_lt _ _ _ hlt]; exact hbb
  clear hW0 hbb
  go_region_held3 (fun W => W.cell? ⟨w.heap.size, 0, none⟩ = some (.int .i64 p.1) ∧ W.cell? ⟨w.heap.size, 1, none⟩ = some (.int .i64 p.2) ∧ W.cell? ⟨w.heap.size + 1, 0, none⟩ = some (.int .i64 q.1) ∧ W.cell? ⟨w.heap.size + 1, 1, none⟩ = some (.int .i64 q.2) ∧ W.cell? ⟨bb, 0, none⟩ = some (.slice a l.length c) ∧ Hid (Below w.heap.size w W ∧ w.heap.size + 2 ≤ W.heap.size ∧ bb < w.heap.size)) ((first | exact B0.keep (Below.refl _ _).drew | assumption))
    (first | (go_at_call 42; (with_reducible refine (cnt_bx p x w _ p q bb a c l HX.out H.out HM.out HN.out ?_).mono ?_); assumption; rintro e w' ⟨rfl, hbx⟩) | (go_at_call 42; (with_reducible refine (cnt_bx q y w _ p q bb a c l HY.out H.out HM.out HN.out ?_).mono ?_); assumption; rintro e w' ⟨rfl, hbx⟩))
  go_wp2
  go_ret
  exact ⟨rfl, hbx.bel⟩
end Go.Proofs.Ytaiiobojlipbeaa
