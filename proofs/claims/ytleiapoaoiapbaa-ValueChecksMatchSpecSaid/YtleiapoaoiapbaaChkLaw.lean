/-
  ValueChecksMatchSpec: the law's walk: Check and Compare say what the reference says.
-/
import Derived.Test.YtleiapoaoiapbaaChkRef3
namespace Go.Proofs.Ytleiapoaoiapbaa
attribute [local go_sem ↓] Go.wp_at_zero Go.wp_at_succ
open Go.RowKit

noncomputable def Vv.chk (a : Vv) : Int := cChk a.k a.n a.s a.l
def Boxes2 (w : World) (a b : Vv) (W : World) : Prop := (fun W => W.cell? ⟨w.heap.size, 0, none⟩ = some (.int .i64 a.k) ∧ W.cell? ⟨w.heap.size, 1, none⟩ = some (.int .i64 a.n) ∧ W.cell? ⟨w.heap.size, 2, none⟩ = some (.string a.s) ∧ W.cell? ⟨w.heap.size, 3, none⟩ = some a.v ∧ W.cell? ⟨w.heap.size + 1, 0, none⟩ = some (.int .i64 b.k) ∧ W.cell? ⟨w.heap.size + 1, 1, none⟩ = some (.int .i64 b.n) ∧ W.cell? ⟨w.heap.size + 1, 2, none⟩ = some (.string b.s) ∧ W.cell? ⟨w.heap.size + 1, 3, none⟩ = some b.v ∧ Hid (Below w.heap.size w W ∧ w.heap.size + 2 ≤ W.heap.size)) W
theorem Boxes2.keep {w W W' : World} {a b : Vv} (h : Boxes2 w a b W) (hb : Below W.heap.size W W') : Boxes2 w a b W' := by
  obtain ⟨a0, a1, a2, a3, b0, b1, b2, b3, hh⟩ := h
  obtain ⟨hB, hs⟩ := hh.out
  have f := fun (g o : Nat) (hg : g < W.heap.size) => hb.cell (p := ⟨g, o, none⟩) hg
  refine ⟨?_, ?_, ?_, ?_, ?_, ?_, ?_, ?_, hB.trans (hb.mono hB.size), Nat.le_trans hs hb.size⟩
  all_goals (rw [f _ _ (by omega)]; assumption)
theorem Boxes2.bel {w W : World} {a b : Vv} (h : Boxes2 w a b W) : Below w.heap.size w W := by
  obtain ⟨_, _, _, _, _, _, _, _, hh⟩ := h
  exact hh.out.1
theorem chk_bx (p : Vv) (x : Int) (w W : World) (a b : Vv) (hx : p.chk = x) (hp : IsL w p.v p.l) (hz : p.s.size ≤ 9223372036854775807) (hS : Boxes2 w a b W) :
    Calls Try.prog 5 #[.agg #[.int .i64 p.k, .int .i64 p.n, .string p.s, p.v]] W fun e w' => e = .returned (.int .i64 x) ∧ Boxes2 w a b w' := by
  rw [← hx]
  exact (check_c p.k p.n p.s p.v p.l W (hp.below hS.bel) hz).mono fun e w' ⟨he, hb⟩ => ⟨he, hS.keep hb⟩
theorem rchk_bx (p : Vv) (x : Int) (w W : World) (a b : Vv) (hx : p.chk = x) (hp : IsL w p.v p.l) (hz : p.s.size ≤ 9223372036854775807) (hS : Boxes2 w a b W) :
    Calls Try.prog 6 #[.agg #[.int .i64 p.k, .int .i64 p.n, .string p.s, p.v]] W fun e w' => e = .returned (.int .i64 x) ∧ Boxes2 w a b w' := by
  rw [← hx]
  exact (refCheck_c p.k p.n p.s p.v p.l W (hp.below hS.bel) hz).mono fun e w' ⟨he, hb⟩ => ⟨he, hS.keep hb⟩
theorem cmp_b2 (x : Int) (w W : World) (a b : Vv) (hx : Ord.vcmp a.t b.t = x) (ha : IsL w a.v a.l) (hb : IsL w b.v b.l) (hS : Boxes2 w a b W) :
    Calls Try.prog 7 #[.agg #[.int .i64 a.k, .int .i64 a.n, .string a.s, a.v], .agg #[.int .i64 b.k, .int .i64 b.n, .string b.s, b.v]] W fun e w' => e = .returned (.int .i64 x) ∧ Boxes2 w a b w' := by
  rw [← hx]
  exact (compareV_c a.k a.n b.k b.n a.s b.s a.v b.v a.l b.l W (ha.below hS.bel) (hb.below hS.bel)).mono fun e w' ⟨he, hb⟩ => ⟨he, hS.keep hb⟩
theorem rcmp_b2 (x : Int) (w W : World) (a b : Vv) (hx : Ord.vcmp a.t b.t = x) (ha : IsL w a.v a.l) (hb : IsL w b.v b.l) (hS : Boxes2 w a b W) :
    Calls Try.prog 8 #[.agg #[.int .i64 a.k, .int .i64 a.n, .string a.s, a.v], .agg #[.int .i64 b.k, .int .i64 b.n, .string b.s, b.v]] W fun e w' => e = .returned (.int .i64 x) ∧ Boxes2 w a b w' := by
  rw [← hx]
  exact (refCompare_c a.k a.n b.k b.n a.s b.s a.v b.v a.l b.l W (ha.below hS.bel) (hb.below hS.bel)).mono fun e w' ⟨he, hb⟩ => ⟨he, hS.keep hb⟩

set_option maxHeartbeats 16000000 in
theorem law_checks (a b : Vv) (w : World) (ha : IsL w a.v a.l) (hb : IsL w b.v b.l) (sa : a.s.size ≤ 9223372036854775807) (sb : b.s.size ≤ 9223372036854775807) :
    Calls Try.prog 3 #[.agg #[.int .i64 a.k, .int .i64 a.n, .string a.s, a.v], .agg #[.int .i64 b.k, .int .i64 b.n, .string b.s, b.v]] w fun e w' => e = .returned (.bool true) ∧ Below w.heap.size w w' := by
  have HA := Lib.hid ha; clear ha
  have HB := Lib.hid hb; clear hb
  have SA := Lib.hid sa; clear sa
  have SB := Lib.hid sb; clear sb
  obtain ⟨ca, hca⟩ : ∃ z, a.chk = z := ⟨_, rfl⟩
  obtain ⟨cb, hcb⟩ : ∃ z, b.chk = z := ⟨_, rfl⟩
  obtain ⟨x, hx⟩ : ∃ z, Ord.vcmp a.t b.t = z := ⟨_, rfl⟩
  have XA := Lib.hid hca; clear hca
  have XB := Lib.hid hcb; clear hcb
  have XX := Lib.hid hx; clear hx
  go_enter Try.func3, Try.ntmps3
  go_wp2
  obtain ⟨W0, hW0⟩ : ∃ W0, W0 = (w.alloc (.cells #[.int .i64 a.k, .int .i64 a.n, .string a.s, a.v] 24)).alloc (.cells #[.int .i64 b.k, .int .i64 b.n, .string b.s, b.v] 24) := ⟨_, rfl⟩
  rw [← hW0]
  have B0 : Boxes2 w a b W0 := by
    rw [hW0]
    refine ⟨?_, ?_, ?_, ?_, ?_, ?_, ?_, ?_, (((Below.refl _ _).alloc (Nat.le_refl _) _).alloc (by simp) _), by simp⟩ <;> simp [go_sem, World.cell?_alloc_past]
  clear hW0
  go_region_held3 (fun W => W.cell? ⟨w.heap.size, 0, none⟩ = some (.int .i64 a.k) ∧ W.cell? ⟨w.heap.size, 1, none⟩ = some (.int .i64 a.n) ∧ W.cell? ⟨w.heap.size, 2, none⟩ = some (.string a.s) ∧ W.cell? ⟨w.heap.size, 3, none⟩ = some a.v ∧ W.cell? ⟨w.heap.size + 1, 0, none⟩ = some (.int .i64 b.k) ∧ W.cell? ⟨w.heap.size + 1, 1, none⟩ = some (.int .i64 b.n) ∧ W.cell? ⟨w.heap.size + 1, 2, none⟩ = some (.string b.s) ∧ W.cell? ⟨w.heap.size + 1, 3, none⟩ = some b.v ∧ Hid (Below w.heap.size w W ∧ w.heap.size + 2 ≤ W.heap.size)) ((first | exact B0.keep (Below.refl _ _).drew | assumption))
    (first | (go_at_call 5; (with_reducible refine (chk_bx a ca w _ a b XA.out HA.out SA.out ?_).mono ?_); assumption; rintro e w' ⟨rfl, hbx⟩) | (go_at_call 5; (with_reducible refine (chk_bx b cb w _ a b XB.out HB.out SB.out ?_).mono ?_); assumption; rintro e w' ⟨rfl, hbx⟩) | (go_at_call 6; (with_reducible refine (rchk_bx a ca w _ a b XA.out HA.out SA.out ?_).mono ?_); assumption; rintro e w' ⟨rfl, hbx⟩) | (go_at_call 6; (with_reducible refine (rchk_bx b cb w _ a b XB.out HB.out SB.out ?_).mono ?_); assumption; rintro e w' ⟨rfl, hbx⟩) | (go_at_call 7; (with_reducible refine (cmp_b2 x w _ a b XX.out HA.out HB.out ?_).mono ?_); assumption; rintro e w' ⟨rfl, hbx⟩) | (go_at_call 8; (with_reducible refine (rcmp_b2 x w _ a b XX.out HA.out HB.out ?_).mono ?_); assumption; rintro e w' ⟨rfl, hbx⟩))
  go_wp2
  go_ret
  exact ⟨rfl, hbx.bel⟩
end Go.Proofs.Ytleiapoaoiapbaa
