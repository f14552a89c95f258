/-
  ValueOrderIsTotal: Compare is a total order of all values: the law's walk.
-/
import Derived.Test.YtleiapoaoiapbaaOrdWalks
import Derived.Deep.RegionHeld3
import Derived.Deep.DrawnRows
import Derived.WalkSmall
attribute [local go_sem ↓] Go.wp_at_zero Go.wp_at_succ
namespace Go.Proofs.Ytleiapoaoiapbaa
open Go.RowKit

/-- A value: its parts, and what its Set reads as. -/
structure Vv where
  k : Int
  n : Int
  s : ByteArray
  v : Value
  l : List Int
def Vv.t (a : Vv) : Ord.Val := (a.k, a.n, a.s.data.toList, a.l)

theorem cmp_at (a b : Vv) (x : Int) (w W : World) (hx : Ord.vcmp a.t b.t = x) (ha : IsL w a.v a.l) (hb : IsL w b.v b.l) (hB : Below w.heap.size w W) :
    Calls Try.prog 7 #[.agg #[.int .i64 a.k, .int .i64 a.n, .string a.s, a.v], .agg #[.int .i64 b.k, .int .i64 b.n, .string b.s, b.v]] W fun e w' => e = .returned (.int .i64 x) ∧ Below W.heap.size W w' := by
  rw [← hx]
  exact compareV_c a.k a.n b.k b.n a.s b.s a.v b.v a.l b.l W (ha.below hB) (hb.below hB)

/-- The three values lie in three new blocks. -/
def Boxes (w : World) (a b c : Vv) (W : World) : Prop :=
  W.cell? ⟨w.heap.size, 0, none⟩ = some (.int .i64 a.k) ∧ W.cell? ⟨w.heap.size, 1, none⟩ = some (.int .i64 a.n) ∧ W.cell? ⟨w.heap.size, 2, none⟩ = some (.string a.s) ∧ W.cell? ⟨w.heap.size, 3, none⟩ = some a.v ∧
  W.cell? ⟨w.heap.size + 1, 0, none⟩ = some (.int .i64 b.k) ∧ W.cell? ⟨w.heap.size + 1, 1, none⟩ = some (.int .i64 b.n) ∧ W.cell? ⟨w.heap.size + 1, 2, none⟩ = some (.string b.s) ∧ W.cell? ⟨w.heap.size + 1, 3, none⟩ = some b.v ∧
  W.cell? ⟨w.heap.size + 1 + 1, 0, none⟩ = some (.int .i64 c.k) ∧ W.cell? ⟨w.heap.size + 1 + 1, 1, none⟩ = some (.int .i64 c.n) ∧ W.cell? ⟨w.heap.size + 1 + 1, 2, none⟩ = some (.string c.s) ∧ W.cell? ⟨w.heap.size + 1 + 1, 3, none⟩ = some c.v ∧
  Hid (Below w.heap.size w W ∧ w.heap.size + 3 ≤ W.heap.size)
theorem Boxes.keep {w W W' : World} {a b c : Vv} (h : Boxes w a b c W) (hb : Below W.heap.size W W') : Boxes w a b c W' := by
  obtain ⟨a0, a1, a2, a3, b0, b1, b2, b3, c0, c1, c2, c3, hh⟩ := h
  obtain ⟨hB, hs⟩ := hh.out
  have f := fun (g o : Nat) (hg : g < W.heap.size) => hb.cell (p := ⟨g, o, none⟩) hg
  refine ⟨?_, ?_, ?_, ?_, ?_, ?_, ?_, ?_, ?_, ?_, ?_, ?_, hB.trans (hb.mono hB.size), Nat.le_trans hs hb.size⟩
  all_goals (rw [f _ _ (by omega)]; assumption)

theorem cmp_bx (p q : Vv) (x : Int) (w W : World) (a b c : Vv) (hx : Ord.vcmp p.t q.t = x) (hp : IsL w p.v p.l) (hq : IsL w q.v q.l) (hS : Boxes w a b c W) :
    Calls Try.prog 7 #[.agg #[.int .i64 p.k, .int .i64 p.n, .string p.s, p.v], .agg #[.int .i64 q.k, .int .i64 q.n, .string q.s, q.v]] W fun e w' => e = .returned (.int .i64 x) ∧ Boxes w a b c w' := by
  have hB : Below w.heap.size w W := by obtain ⟨_, _, _, _, _, _, _, _, _, _, _, _, hh⟩ := hS; exact hh.out.1
  exact (cmp_at p q x w W hx hp hq hB).mono fun e w' ⟨he, hb⟩ => ⟨he, hS.keep hb⟩

set_option maxHeartbeats 1000000 in
theorem same_eq (k n : Int) (s : ByteArray) (v v' : Value) (l : List Int) (w : World) (h : IsL w v l) (h' : IsL w v' l) :
    Calls Try.prog 9 #[.agg #[.int .i64 k, .int .i64 n, .string s, v], .agg #[.int .i64 k, .int .i64 n, .string s, v']] w fun e w' => e = .returned (.bool true) ∧ Below w.heap.size w w' := by
  have H := Lib.hid h; clear h
  have H' := Lib.hid h'; clear h'
  go_enter Try.func9, Try.ntmps9
  go_wp2_with fail
  refine (equal_self _ _ l _ ((H.out.alloc _).alloc _) ((H'.out.alloc _).alloc _)).mono ?_
  rintro e w' ⟨rfl, m, rfl⟩
  go_wp2
  go_ret
  exact ⟨rfl, below_drewN (((Below.refl _ _).alloc (Nat.le_refl _) _).alloc (by simp) _) m⟩
theorem same_bx (p q : Vv) (w W : World) (a b c : Vv) (he : p.t = q.t) (hp : IsL w p.v p.l) (hq : IsL w q.v q.l) (hS : Boxes w a b c W) :
    Calls Try.prog 9 #[.agg #[.int .i64 p.k, .int .i64 p.n, .string p.s, p.v], .agg #[.int .i64 q.k, .int .i64 q.n, .string q.s, q.v]] W fun e w' => e = .returned (.bool true) ∧ Boxes w a b c w' := by
  have hB : Below w.heap.size w W := by obtain ⟨_, _, _, _, _, _, _, _, _, _, _, _, hh⟩ := hS; exact hh.out.1
  obtain ⟨k, n, s, v, l⟩ := p
  obtain ⟨k', n', s', v', l'⟩ := q
  simp only [Vv.t, Prod.mk.injEq] at he
  obtain ⟨rfl, rfl, hs, rfl⟩ := he
  obtain rfl : s = s' := by
    cases s; cases s'
    simp only [ByteArray.mk.injEq]
    exact Array.toList_inj.1 hs
  exact (same_eq k n s v v' l W (hp.below hB) (hq.below hB)).mono fun e w' ⟨he, hb⟩ => ⟨he, hS.keep hb⟩

set_option maxHeartbeats 8000000 in
theorem law_order (a b c : Vv) (w : World) (ha : IsL w a.v a.l) (hb : IsL w b.v b.l) (hc : IsL w c.v c.l) (x : Int) (hab : Ord.vcmp a.t b.t = x) (x1 : -1 ≤ x) (x2 : x ≤ 1) :
    Calls Try.prog 4 #[.agg #[.int .i64 a.k, .int .i64 a.n, .string a.s, a.v], .agg #[.int .i64 b.k, .int .i64 b.n, .string b.s, b.v], .agg #[.int .i64 c.k, .int .i64 c.n, .string c.s, c.v]] w fun e w' => e = .returned (.bool true) ∧ Below w.heap.size w w' := by
  have HA := Lib.hid ha; clear ha
  have HB := Lib.hid hb; clear hb
  have HC := Lib.hid hc; clear hc
  have hba : Ord.vcmp b.t a.t = -x := by rw [← hab]; have := Ord.vcmp_ord.anti b.t a.t; omega
  have haa : Ord.vcmp a.t a.t = 0 := Ord.vcmp_ord.self a.t
  have XAB := Lib.hid hab; clear hab
  have XBA := Lib.hid hba; clear hba
  have XAA := Lib.hid haa; clear haa
  obtain ⟨z, hbc⟩ : ∃ z, Ord.vcmp b.t c.t = z := ⟨_, rfl⟩
  obtain ⟨u, hac⟩ : ∃ u, Ord.vcmp a.t c.t = u := ⟨_, rfl⟩
  have XT : Hid (x ≤ 0 → z ≤ 0 → u ≤ 0) := by unfold Hid; intro h1 h2; rw [← hac]; exact Ord.vcmp_ord.trans a.t b.t c.t (by rw [XAB.out]; exact h1) (by rw [hbc]; exact h2)
  have XBC := Lib.hid hbc; clear hbc
  have XAC := Lib.hid hac; clear hac
  have hw1 : IntKind.i64.wrap x = x := by rw [IntKind.wrap_i64]; omega
  go_enter Try.func4, Try.ntmps4
  go_wp2
  obtain ⟨W0, hW0⟩ : ∃ W0, W0 = ((w.alloc (.cells #[.int .i64 a.k, .int .i64 a.n, .string a.s, a.v] 24)).alloc (.cells #[.int .i64 b.k, .int .i64 b.n, .string b.s, b.v] 24)).alloc (.cells #[.int .i64 c.k, .int .i64 c.n, .string c.s, c.v] 24) := ⟨_, rfl⟩
  rw [← hW0]
  have B0 : Boxes w a b c W0 := by
    rw [hW0]
    refine ⟨?_, ?_, ?_, ?_, ?_, ?_, ?_, ?_, ?_, ?_, ?_, ?_, ((((Below.refl _ _).alloc (Nat.le_refl _) _).alloc (by simp) _).alloc (by simp; omega) _), by simp⟩ <;> simp [go_sem, World.cell?_alloc_past]
  clear hW0
  go_region_held3 (fun W => W.cell? ⟨w.heap.size, 0, none⟩ = some (.int .i64 a.k) ∧ W.cell? ⟨w.heap.size, 1, none⟩ = some (.int .i64 a.n) ∧ W.cell? ⟨w.heap.size, 2, none⟩ = some (.string a.s) ∧ W.cell? ⟨w.heap.size, 3, none⟩ = some a.v ∧ W.cell? ⟨w.heap.size + 1, 0, none⟩ = some (.int .i64 b.k) ∧ W.cell? ⟨w.heap.size + 1, 1, none⟩ = some (.int .i64 b.n) ∧ W.cell? ⟨w.heap.size + 1, 2, none⟩ = some (.string b.s) ∧ W.cell? ⟨w.heap.size + 1, 3, none⟩ = some b.v ∧ W.cell? ⟨w.heap.size + 1 + 1, 0, none⟩ = some (.int .i64 c.k) ∧ W.cell? ⟨w.heap.size + 1 + 1, 1, none⟩ = some (.int .i64 c.n) ∧ W.cell? ⟨w.heap.size + 1 + 1, 2, none⟩ = some (.string c.s) ∧ W.cell? ⟨w.heap.size + 1 + 1, 3, none⟩ = some c.v ∧ Hid (Below w.heap.size w W ∧ w.heap.size + 3 ≤ W.heap.size)) ((first | exact B0.keep (Below.refl _ _).drew | assumption))
    (first | (go_at_call 7; (with_reducible refine (cmp_bx a b x w _ a b c XAB.out HA.out HB.out ?_).mono ?_); assumption; rintro e w' ⟨rfl, hbx⟩) | (go_at_call 7; (with_reducible refine (cmp_bx b a (-x) w _ a b c XBA.out HB.out HA.out ?_).mono ?_); assumption; rintro e w' ⟨rfl, hbx⟩) | (go_at_call 7; (with_reducible refine (cmp_bx a a 0 w _ a b c XAA.out HA.out HA.out ?_).mono ?_); assumption; rintro e w' ⟨rfl, hbx⟩))
  have hS1 := hbx
  by_cases hx : x = 0
  · subst hx
    have hE : Hid (a.t = b.t) := Ord.vcmp_ord.zero _ _ XAB.out
    go_wp2_with fail
    refine (cmp_bx a b 0 w _ a b c XAB.out HA.out HB.out hS1).mono ?_
    rintro e W2 ⟨rfl, hS2⟩
    have hT2 := hS2
    obtain ⟨_, _, _, _, _, _, _, _, _, _, _, _, _⟩ := hT2
    clear hS1
    go_wp2_with fail
    refine (same_bx a b w _ a b c hE.out HA.out HB.out hS2).mono ?_
    rintro e W3 ⟨rfl, hS3⟩
    have hT3 := hS3
    obtain ⟨_, _, _, _, _, _, _, _, _, _, _, _, _⟩ := hT3
    clear hS2
    go_wp2_with fail
    refine (cmp_bx a b 0 w _ a b c XAB.out HA.out HB.out hS3).mono ?_
    rintro e W4 ⟨rfl, hS4⟩
    have hT4 := hS4
    obtain ⟨_, _, _, _, _, _, _, _, _, _, _, _, _⟩ := hT4
    clear hS3
    by_cases hz : z ≤ 0
    · have hu : u ≤ 0 := XT.out (by omega) hz
      go_wp2_with fail
      refine (cmp_bx b c z w _ a b c XBC.out HB.out HC.out hS4).mono ?_
      rintro e W5 ⟨rfl, hS5⟩
      have hT5 := hS5
      obtain ⟨_, _, _, _, _, _, _, _, _, _, _, _, _⟩ := hT5
      clear hS4
      go_wp2_with fail
      refine (cmp_bx a c u w _ a b c XAC.out HA.out HC.out hS5).mono ?_
      rintro e W6 ⟨rfl, hS6⟩
      have hT6 := hS6
      obtain ⟨_, _, _, _, _, _, _, _, _, _, _, _, _⟩ := hT6
      clear hS5
      go_wp2
      go_ret
      exact ⟨rfl, by obtain ⟨_, _, _, _, _, _, _, _, _, _, _, _, hh⟩ := hS6; exact hh.out.1⟩
    · have hz1 : decide (z ≤ 0) = false := by simp; omega
      clear hz
      go_wp2_with fail
      refine (cmp_bx b c z w _ a b c XBC.out HB.out HC.out hS4).mono ?_
      rintro e W5 ⟨rfl, hS5⟩
      have hT5 := hS5
      obtain ⟨_, _, _, _, _, _, _, _, _, _, _, _, _⟩ := hT5
      clear hS4
      go_wp2
      go_ret
      exact ⟨rfl, by obtain ⟨_, _, _, _, _, _, _, _, _, _, _, _, hh⟩ := hS5; exact hh.out.1⟩
  · have hx1 : (x == 0) = false := by rw [beq_eq_false_iff_ne]; exact hx
    clear hx
    go_wp2_with fail
    refine (cmp_bx a b x w _ a b c XAB.out HA.out HB.out hS1).mono ?_
    rintro e W2 ⟨rfl, hS2⟩
    have hT2 := hS2
    obtain ⟨_, _, _, _, _, _, _, _, _, _, _, _, _⟩ := hT2
    clear hS1
    by_cases hle : x ≤ 0
    · skip
      go_wp2_with fail
      refine (cmp_bx a b x w _ a b c XAB.out HA.out HB.out hS2).mono ?_
      rintro e W3 ⟨rfl, hS3⟩
      have hT3 := hS3
      obtain ⟨_, _, _, _, _, _, _, _, _, _, _, _, _⟩ := hT3
      clear hS2
      by_cases hz : z ≤ 0
      · have hu : u ≤ 0 := XT.out (by omega) hz
        go_wp2_with fail
        refine (cmp_bx b c z w _ a b c XBC.out HB.out HC.out hS3).mono ?_
        rintro e W4 ⟨rfl, hS4⟩
        have hT4 := hS4
        obtain ⟨_, _, _, _, _, _, _, _, _, _, _, _, _⟩ := hT4
        clear hS3
        go_wp2_with fail
        refine (cmp_bx a c u w _ a b c XAC.out HA.out HC.out hS4).mono ?_
        rintro e W5 ⟨rfl, hS5⟩
        have hT5 := hS5
        obtain ⟨_, _, _, _, _, _, _, _, _, _, _, _, _⟩ := hT5
        clear hS4
        go_wp2
        go_ret
        exact ⟨rfl, by obtain ⟨_, _, _, _, _, _, _, _, _, _, _, _, hh⟩ := hS5; exact hh.out.1⟩
      · have hz1 : decide (z ≤ 0) = false := by simp; omega
        clear hz
        go_wp2_with fail
        refine (cmp_bx b c z w _ a b c XBC.out HB.out HC.out hS3).mono ?_
        rintro e W4 ⟨rfl, hS4⟩
        have hT4 := hS4
        obtain ⟨_, _, _, _, _, _, _, _, _, _, _, _, _⟩ := hT4
        clear hS3
        go_wp2
        go_ret
        exact ⟨rfl, by obtain ⟨_, _, _, _, _, _, _, _, _, _, _, _, hh⟩ := hS4; exact hh.out.1⟩
    · have hle1 : decide (x ≤ 0) = false := by simp; omega
      clear hle
      go_wp2_with fail
      refine (cmp_bx a b x w _ a b c XAB.out HA.out HB.out hS2).mono ?_
      rintro e W3 ⟨rfl, hS3⟩
      have hT3 := hS3
      obtain ⟨_, _, _, _, _, _, _, _, _, _, _, _, _⟩ := hT3
      clear hS2
      go_wp2
      go_ret
      exact ⟨rfl, by obtain ⟨_, _, _, _, _, _, _, _, _, _, _, _, hh⟩ := hS3; exact hh.out.1⟩
end Go.Proofs.Ytleiapoaoiapbaa
