/-
  Fractions of whole numbers of any size: sums, products, inverses, the order.
-/
import Derived.Test.YtaibpppobblnoaaDoorWhOver
namespace Go.Proofs.YtaibpppobblnoaaDoor
open Go.RowKit

/-- Two boxes of fractions, and the box of a result. -/
structure F3 (w : World) (b1 : Bool) (a1 : Option Addr) (k1 c1 : Nat) (d1 : Bool) (e1 : Option Addr) (m1 q1 : Nat) (b2 : Bool) (a2 : Option Addr) (k2 c2 : Nat) (d2 : Bool) (e2 : Option Addr) (m2 q2 : Nat) (W : World) : Prop where
  x : B4 W w.heap.size (.bool b1) (.slice a1 k1 c1) (.bool d1) (.slice e1 m1 q1)
  y : B4 W (w.heap.size + 1) (.bool b2) (.slice a2 k2 c2) (.bool d2) (.slice e2 m2 q2)
  r : B4 W (w.heap.size + 1 + 1) (.bool false) (.slice none 0 0) (.bool false) (.slice none 0 0)
  bel : Below w.heap.size w W
theorem F3.keep {w : World} {b1 : Bool} {a1 : Option Addr} {k1 c1 : Nat} {d1 : Bool} {e1 : Option Addr} {m1 q1 : Nat} {b2 : Bool} {a2 : Option Addr} {k2 c2 : Nat} {d2 : Bool} {e2 : Option Addr} {m2 q2 : Nat} {W W' : World} (h : F3 w b1 a1 k1 c1 d1 e1 m1 q1 b2 a2 k2 c2 d2 e2 m2 q2 W) (hb : Below W.heap.size W W') : F3 w b1 a1 k1 c1 d1 e1 m1 q1 b2 a2 k2 c2 d2 e2 m2 q2 W' :=
  ⟨h.x.keep hb, h.y.keep hb, h.r.keep hb, h.bel.trans (hb.mono h.bel.size)⟩
theorem F3.made (w : World) (b1 : Bool) (a1 : Option Addr) (k1 c1 : Nat) (d1 : Bool) (e1 : Option Addr) (m1 q1 : Nat) (b2 : Bool) (a2 : Option Addr) (k2 c2 : Nat) (d2 : Bool) (e2 : Option Addr) (m2 q2 : Nat) (T1 T2 T3 : TypeId) :
    F3 w b1 a1 k1 c1 d1 e1 m1 q1 b2 a2 k2 c2 d2 e2 m2 q2 (((w.alloc (.cells #[.bool b1, .slice a1 k1 c1, .bool d1, .slice e1 m1 q1] T1)).alloc (.cells #[.bool b2, .slice a2 k2 c2, .bool d2, .slice e2 m2 q2] T2)).alloc (.cells #[.bool false, .slice none 0 0, .bool false, .slice none 0 0] T3)) := by
  have s1 : (w.alloc (.cells #[.bool b1, .slice a1 k1 c1, .bool d1, .slice e1 m1 q1] T1)).heap.size = w.heap.size + 1 := by simp
  have s2 : ((w.alloc (.cells #[.bool b1, .slice a1 k1 c1, .bool d1, .slice e1 m1 q1] T1)).alloc (.cells #[.bool b2, .slice a2 k2 c2, .bool d2, .slice e2 m2 q2] T2)).heap.size = w.heap.size + 1 + 1 := by simp
  refine ⟨((B4.made w _ _ _ _ T1).keep (bel_one _ _)).keep (bel_one _ _), ?_, ?_, ?_⟩
  · rw [← s1]; exact (B4.made _ _ _ _ _ T2).keep (bel_one _ _)
  · rw [← s2]; exact B4.made _ _ _ _ _ T3
  · exact (((Below.refl _ _).alloc (Nat.le_refl _) _).alloc (by simp) _).alloc (by simp; omega) _
def SF (g : Nat) (b1 : Bool) (a1 : Option Addr) (k1 c1 : Nat) (d1 : Bool) (e1 : Option Addr) (m1 q1 : Nat) (b2 : Bool) (a2 : Option Addr) (k2 c2 : Nat) (d2 : Bool) (e2 : Option Addr) (m2 q2 : Nat) (W : World) : Prop :=
  W.cell? ⟨g, 0, none⟩ = some (.bool b1) ∧ W.cell? ⟨g, 1, none⟩ = some (.slice a1 k1 c1) ∧ W.cell? ⟨g, 2, none⟩ = some (.bool d1) ∧ W.cell? ⟨g, 3, none⟩ = some (.slice e1 m1 q1) ∧
  W.cell? ⟨g + 1, 0, none⟩ = some (.bool b2) ∧ W.cell? ⟨g + 1, 1, none⟩ = some (.slice a2 k2 c2) ∧ W.cell? ⟨g + 1, 2, none⟩ = some (.bool d2) ∧ W.cell? ⟨g + 1, 3, none⟩ = some (.slice e2 m2 q2)
theorem F3.si {w : World} {b1 : Bool} {a1 : Option Addr} {k1 c1 : Nat} {d1 : Bool} {e1 : Option Addr} {m1 q1 : Nat} {b2 : Bool} {a2 : Option Addr} {k2 c2 : Nat} {d2 : Bool} {e2 : Option Addr} {m2 q2 : Nat} {W : World} (h : F3 w b1 a1 k1 c1 d1 e1 m1 q1 b2 a2 k2 c2 d2 e2 m2 q2 W) : SF w.heap.size b1 a1 k1 c1 d1 e1 m1 q1 b2 a2 k2 c2 d2 e2 m2 q2 W := ⟨h.x.c0, h.x.c1, h.x.c2, h.x.c3, h.y.c0, h.y.c1, h.y.c2, h.y.c3⟩
theorem F3.done {w : World} {b1 : Bool} {a1 : Option Addr} {k1 c1 : Nat} {d1 : Bool} {e1 : Option Addr} {m1 q1 : Nat} {b2 : Bool} {a2 : Option Addr} {k2 c2 : Nat} {d2 : Bool} {e2 : Option Addr} {m2 q2 : Nat} {W : World} (h : F3 w b1 a1 k1 c1 d1 e1 m1 q1 b2 a2 k2 c2 d2 e2 m2 q2 W) (y0 y1 y2 y3 : Value) : SF w.heap.size b1 a1 k1 c1 d1 e1 m1 q1 b2 a2 k2 c2 d2 e2 m2 q2 (four W (w.heap.size + 1 + 1) y0 y1 y2 y3) := by
  have u := h.x.other (h := w.heap.size + 1 + 1) (by omega) y0 y1 y2 y3
  have v := h.y.other (h := w.heap.size + 1 + 1) (by omega) y0 y1 y2 y3
  exact ⟨u.c0, u.c1, u.c2, u.c3, v.c0, v.c1, v.c2, v.c3⟩
theorem bp_mul {x y i j : Nat} (hx : x < bp i) (hy : y < bp j) : x * y < bp (i + j) := by
  rw [bp_add]
  have := bp_pos i
  exact Nat.mul_lt_mul_of_lt_of_lt hx hy
theorem bpz_mul {x y : Int} {i j k : Nat} (hx : x.natAbs < bp i) (hy : y.natAbs < bp j) (hk : i + j ≤ k) : (x * y).natAbs < bp k := by
  rw [Int.natAbs_mul]
  exact Nat.lt_of_lt_of_le (bp_mul hx hy) (bp_mono hk)
theorem bpz_add {x y : Int} {i k : Nat} (hx : x.natAbs < bp i) (hy : y.natAbs < bp i) (hk : i + 1 ≤ k) : (x + y).natAbs < bp k := by
  refine Nat.lt_of_lt_of_le ?_ (bp_mono hk)
  rw [bp_succ]
  have := Int.natAbs_add_le x y
  omega
set_option maxRecDepth 100000 in
set_option maxHeartbeats 4000000 in
theorem FTimes_c (b1 : Bool) (a1 : Option Addr) (k1 c1 : Nat) (d1 : Bool) (e1 : Option Addr) (m1 q1 : Nat) (b2 : Bool) (a2 : Option Addr) (k2 c2 : Nat) (d2 : Bool) (e2 : Option Addr) (m2 q2 : Nat) (z1 y1 z2 y2 : Int) (w : World) (h1 : Zn w b1 a1 k1 c1 z1) (g1 : Zn w d1 e1 m1 q1 y1) (h2 : Zn w b2 a2 k2 c2 z2) (g2 : Zn w d2 e2 m2 q2 y2) (n1 : z1.natAbs < bp 400) (o1 : y1.natAbs < bp 400) (n2 : z2.natAbs < bp 400) (o2 : y2.natAbs < bp 400) (hy1 : y1 ≠ 0) (hy2 : y2 ≠ 0) :
    Calls Tryd.prog 19 #[.agg #[.bool b1, .slice a1 k1 c1, .bool d1, .slice e1 m1 q1], .agg #[.bool b2, .slice a2 k2 c2, .bool d2, .slice e2 m2 q2]] w (FrPost ((z1 * z2).tdiv (ovG (z1 * z2) (y1 * y2))) ((y1 * y2).tdiv (ovG (z1 * z2) (y1 * y2))) w) := by
  obtain ⟨W0, hW0⟩ : ∃ W0, ((w.alloc (.cells #[.bool b1, .slice a1 k1 c1, .bool d1, .slice e1 m1 q1] 39)).alloc (.cells #[.bool b2, .slice a2 k2 c2, .bool d2, .slice e2 m2 q2] 39)).alloc (.cells #[.bool false, .slice none 0 0, .bool false, .slice none 0 0] 39) = W0 := ⟨_, rfl⟩
  have J0 : Hid (F3 w b1 a1 k1 c1 d1 e1 m1 q1 b2 a2 k2 c2 d2 e2 m2 q2 W0) := by rw [← hW0]; exact F3.made _ _ _ _ _ _ _ _ _ _ _ _ _ _ _ _ _ _ _ _
  have M1 := Lib.hid (fun W (h : F3 w b1 a1 k1 c1 d1 e1 m1 q1 b2 a2 k2 c2 d2 e2 m2 q2 W) => h1.below h.bel)
  have M2 := Lib.hid (fun W (h : F3 w b1 a1 k1 c1 d1 e1 m1 q1 b2 a2 k2 c2 d2 e2 m2 q2 W) => h2.below h.bel)
  have D1 := Lib.hid (fun W (h : F3 w b1 a1 k1 c1 d1 e1 m1 q1 b2 a2 k2 c2 d2 e2 m2 q2 W) => g1.below h.bel)
  have D2 := Lib.hid (fun W (h : F3 w b1 a1 k1 c1 d1 e1 m1 q1 b2 a2 k2 c2 d2 e2 m2 q2 W) => g2.below h.bel)
  have P1 := Lib.hid (Nat.lt_of_lt_of_le n1 (bp_mono (show 400 ≤ 2000 by decide)))
  have P2 := Lib.hid (Nat.lt_of_lt_of_le n2 (bp_mono (show 400 ≤ 2000 by decide)))
  have Q1 := Lib.hid (Nat.lt_of_lt_of_le o1 (bp_mono (show 400 ≤ 2000 by decide)))
  have Q2 := Lib.hid (Nat.lt_of_lt_of_le o2 (bp_mono (show 400 ≤ 2000 by decide)))
  have NN := Lib.hid (bpz_mul n1 n2 (show 400 + 400 ≤ 2000 by decide))
  have DD := Lib.hid (bpz_mul o1 o2 (show 400 + 400 ≤ 2000 by decide))
  have NE : Hid (y1 * y2 ≠ 0) := Int.mul_ne_zero hy1 hy2
  clear h1 h2 g1 g2 n1 n2 o1 o2 hy1 hy2
  go_enter Tryd.func19, Tryd.ntmps19
  go_wp2_with fail
  clear hW0
  refine wp_region_noPanic ?_
  refine wp_region_held_drew (S := SF w.heap.size b1 a1 k1 c1 d1 e1 m1 q1 b2 a2 k2 c2 d2 e2 m2 q2) (by kernel_rfl) (J0.out.keep (Below.refl _ _).drew).si (fun hS => ?_)
  have J1 := Lib.hid (J0.out.keep (Below.refl _ _).drew)
  clear J0
  refine wpAnyH_take (i := 0) (v := ?v0z29) rfl (by kernel_rfl) (by kernel_rfl) (by kernel_rfl) (fun _ _ _ h => h) (Or.inl ⟨by rfl, ?hy0z29⟩) (by assumption) ?rest0z29
  case hy0z29 =>
    intro w hSw
    dsimp only [SF] at hSw
    go_simp
    try with_reducible rfl
  simp only [Act.put, List.getElem_toArray, List.getElem_cons_succ, List.getElem_cons_zero, List.setIfInBounds_toArray, List.set_cons_zero, List.set_cons_succ]
  refine wpAnyH_take (i := 1) (v := ?v1z30) rfl (by kernel_rfl) (by kernel_rfl) (by kernel_rfl) (fun _ _ _ h => h) (Or.inl ⟨by rfl, ?hy1z30⟩) (by assumption) ?rest1z30
  case hy1z30 =>
    intro w hSw
    dsimp only [SF] at hSw
    go_simp
    try with_reducible rfl
  simp only [Act.put, List.getElem_toArray, List.getElem_cons_succ, List.getElem_cons_zero, List.setIfInBounds_toArray, List.set_cons_zero, List.set_cons_succ]
  refine wpAnyH_take (i := 2) (v := ?v2z31) rfl (by kernel_rfl) (by kernel_rfl) (by kernel_rfl) (fun _ _ _ h => h) (Or.inl ⟨by rfl, ?hy2z31⟩) (by assumption) ?rest2z31
  case hy2z31 =>
    intro w hSw
    dsimp only [SF] at hSw
    go_simp
    try with_reducible rfl
  simp only [Act.put, List.getElem_toArray, List.getElem_cons_succ, List.getElem_cons_zero, List.setIfInBounds_toArray, List.set_cons_zero, List.set_cons_succ]
  refine wpAnyH_take (i := 3) (v := ?v3z32) rfl (by kernel_rfl) (by kernel_rfl) (by kernel_rfl) (fun _ _ _ h => h) (Or.inl ⟨by rfl, ?hy3z32⟩) (by assumption) ?rest3z32
  case hy3z32 =>
    intro w hSw
    dsimp only [SF] at hSw
    go_simp
    try with_reducible rfl
  simp only [Act.put, List.getElem_toArray, List.getElem_cons_succ, List.getElem_cons_zero, List.setIfInBounds_toArray, List.set_cons_zero, List.set_cons_succ]
  refine wpAnyH_take (i := 5) (v := ?v5z33) rfl (by kernel_rfl) (by kernel_rfl) (by kernel_rfl) (fun _ _ _ h => h) (Or.inl ⟨by rfl, ?hy5z33⟩) (by assumption) ?rest5z33
  case hy5z33 =>
    intro w hSw
    dsimp only [SF] at hSw
    go_simp
    try with_reducible rfl
  simp only [Act.put, List.getElem_toArray, List.getElem_cons_succ, List.getElem_cons_zero, List.setIfInBounds_toArray, List.set_cons_zero, List.set_cons_succ]
  refine wpAnyH_take (i := 6) (v := ?v6z34) rfl (by kernel_rfl) (by kernel_rfl) (by kernel_rfl) (fun _ _ _ h => h) (Or.inl ⟨by rfl, ?hy6z34⟩) (by assumption) ?rest6z34
  case hy6z34 =>
    intro w hSw
    dsimp only [SF] at hSw
    go_simp
    try with_reducible rfl
  simp only [Act.put, List.getElem_toArray, List.getElem_cons_succ, List.getElem_cons_zero, List.setIfInBounds_toArray, List.set_cons_zero, List.set_cons_succ]
  refine wpAnyH_take (i := 7) (v := ?v7z35) rfl (by kernel_rfl) (by kernel_rfl) (by kernel_rfl) (fun _ _ _ h => h) (Or.inl ⟨by rfl, ?hy7z35⟩) (by assumption) ?rest7z35
  case hy7z35 =>
    intro w hSw
    dsimp only [SF] at hSw
    go_simp
    try with_reducible rfl
  simp only [Act.put, List.getElem_toArray, List.getElem_cons_succ, List.getElem_cons_zero, List.setIfInBounds_toArray, List.set_cons_zero, List.set_cons_succ]
  refine wpAnyH_take (i := 8) (v := ?v8z36) rfl (by kernel_rfl) (by kernel_rfl) (by kernel_rfl) (fun _ _ _ h => h) (Or.inl ⟨by rfl, ?hy8z36⟩) (by assumption) ?rest8z36
  case hy8z36 =>
    intro w hSw
    dsimp only [SF] at hSw
    go_simp
    try with_reducible rfl
  simp only [Act.put, List.getElem_toArray, List.getElem_cons_succ, List.getElem_cons_zero, List.setIfInBounds_toArray, List.set_cons_zero, List.set_cons_succ]
  refine wpAnyH_ready (rs := [4]) (by kernel_rfl) (by simp) ?_
  refine AllReadyH.cons rfl (fun K hK => ?_) AllReadyH.nil
  go_simp
  refine (Times_c b1 b2 a1 a2 k1 k2 c1 c2 z1 z2 _ (M1.out _ J1.out) (M2.out _ J1.out) P1.out P2.out).mono ?_
  rintro e W3 ⟨nb, na, nk, nc, rfl, hn, bc⟩
  try go_simp
  have J3 := Lib.hid (J1.out.keep bc)
  have hT := J3.out.si
  have HN := Lib.hid hn
  refine hK.out _ _ hT (fun _ => ?_)
  clear hK K hS bc J1 hn
  have hS := hT
  clear hT
  try simp only [Act.put, List.setIfInBounds_toArray, List.set_cons_zero, List.set_cons_succ]
  refine wpAnyH_ready (rs := [9]) (by kernel_rfl) (by simp) ?_
  refine AllReadyH.cons rfl (fun K hK => ?_) AllReadyH.nil
  go_simp
  refine (Times_c d1 d2 e1 e2 m1 m2 q1 q2 y1 y2 _ (D1.out _ J3.out) (D2.out _ J3.out) Q1.out Q2.out).mono ?_
  rintro e W4 ⟨tb, ta, tk, tc, rfl, hn, bc⟩
  try go_simp
  have J4 := Lib.hid (J3.out.keep bc)
  have hT := J4.out.si
  have HD := Lib.hid hn
  have HN4 := Lib.hid (HN.out.below bc)
  refine hK.out _ _ hT (fun _ => ?_)
  clear hK K hS bc J3 hn HN
  have hS := hT
  clear hT
  try simp only [Act.put, List.setIfInBounds_toArray, List.set_cons_zero, List.set_cons_succ]
  refine wpAnyH_ready (rs := [10]) (by kernel_rfl) (by simp) ?_
  refine AllReadyH.cons rfl (fun K hK => ?_) AllReadyH.nil
  go_simp
  refine (Over_c nb tb na ta nk tk nc tc (z1 * z2) (y1 * y2) _ HN4.out HD.out NE.out NN.out DD.out).mono ?_
  rintro e W8 ⟨ob, oa, ok, oc, ob', oa', ok', oc', rfl, hn, hd, bc⟩
  try go_simp
  have J8 := Lib.hid (J4.out.keep bc)
  have hT := J8.out.si
  have ON := Lib.hid hn
  have OD := Lib.hid hd
  refine hK.out _ _ hT (fun _ => ?_)
  clear hK K hS bc J4 hn hd HN4 HD
  have hS := hT
  clear hT
  try simp only [Act.put, List.setIfInBounds_toArray, List.set_cons_zero, List.set_cons_succ]
  refine wpAnyH_ready (rs := [11]) (by kernel_rfl) (by simp) ?_
  refine AllReadyH.cons rfl (fun K hK => ?_) AllReadyH.nil
  have q0' := J8.out.r.c0
  have q1' := J8.out.r.c1
  have q2' := J8.out.r.c2
  have q3' := J8.out.r.c3
  have g0' := J8.out.r.fr 0
  have g1' := J8.out.r.fr 1
  have g2' := J8.out.r.fr 2
  have g3' := J8.out.r.fr 3
  go_simp
  clear q0' q1' q2' q3' g0' g1' g2' g3'
  have hT := J8.out.done (.bool ob) (.slice oa ok oc) (.bool ob') (.slice oa' ok' oc')
  have R9 := J8.out.r.set (.bool ob) (.slice oa ok oc) (.bool ob') (.slice oa' ok' oc')
  have PP : Hid (FrPost ((z1 * z2).tdiv (ovG (z1 * z2) (y1 * y2))) ((y1 * y2).tdiv (ovG (z1 * z2) (y1 * y2))) w (.returned (.agg #[.bool ob, .slice oa ok oc, .bool ob', .slice oa' ok' oc'])) (four W8 (w.heap.size + 1 + 1) (.bool ob) (.slice oa ok oc) (.bool ob') (.slice oa' ok' oc'))) :=
    ⟨_, _, _, _, _, _, _, _, rfl, ON.out.set4 J8.out.r (NL.b _) (NL.s _ _ _) (NL.b _) (NL.s _ _ _) _ _ _ _, OD.out.set4 J8.out.r (NL.b _) (NL.s _ _ _) (NL.b _) (NL.s _ _ _) _ _ _ _, below_four J8.out.bel (by omega) _ _ _ _⟩
  unfold four at hT R9 PP
  refine hK.out _ _ hT (fun _ => ?_)
  clear hK K hS
  try simp only [Act.put, List.setIfInBounds_toArray, List.set_cons_zero, List.set_cons_succ]
  refine wpAnyH_done (by kernel_rfl) ?_ _
  refine NoPanic.normal ?_
  obtain ⟨r0, r1, r2, r3, _, _⟩ := id R9
  clear hT R9
  go_wp2_with fail
  exact bodyPost_ret (v := .agg #[.bool ob, .slice oa ok oc, .bool ob', .slice oa' ok' oc']) (by simp [results, Tryd.results19, go_sem, r0, r1, r2, r3]) rfl PP.out
set_option maxRecDepth 100000 in
set_option maxHeartbeats 4000000 in
theorem FPlus_c (b1 : Bool) (a1 : Option Addr) (k1 c1 : Nat) (d1 : Bool) (e1 : Option Addr) (m1 q1 : Nat) (b2 : Bool) (a2 : Option Addr) (k2 c2 : Nat) (d2 : Bool) (e2 : Option Addr) (m2 q2 : Nat) (z1 y1 z2 y2 : Int) (w : World) (h1 : Zn w b1 a1 k1 c1 z1) (g1 : Zn w d1 e1 m1 q1 y1) (h2 : Zn w b2 a2 k2 c2 z2) (g2 : Zn w d2 e2 m2 q2 y2) (n1 : z1.natAbs < bp 400) (o1 : y1.natAbs < bp 400) (n2 : z2.natAbs < bp 400) (o2 : y2.natAbs < bp 400) (hy1 : y1 ≠ 0) (hy2 : y2 ≠ 0) :
    Calls Tryd.prog 18 #[.agg #[.bool b1, .slice a1 k1 c1, .bool d1, .slice e1 m1 q1], .agg #[.bool b2, .slice a2 k2 c2, .bool d2, .slice e2 m2 q2]] w (FrPost ((z1 * y2 + z2 * y1).tdiv (ovG (z1 * y2 + z2 * y1) (y1 * y2))) ((y1 * y2).tdiv (ovG (z1 * y2 + z2 * y1) (y1 * y2))) w) := by
  obtain ⟨W0, hW0⟩ : ∃ W0, ((w.alloc (.cells #[.bool b1, .slice a1 k1 c1, .bool d1, .slice e1 m1 q1] 39)).alloc (.cells #[.bool b2, .slice a2 k2 c2, .bool d2, .slice e2 m2 q2] 39)).alloc (.cells #[.bool false, .slice none 0 0, .bool false, .slice none 0 0] 39) = W0 := ⟨_, rfl⟩
  have J0 : Hid (F3 w b1 a1 k1 c1 d1 e1 m1 q1 b2 a2 k2 c2 d2 e2 m2 q2 W0) := by rw [← hW0]; exact F3.made _ _ _ _ _ _ _ _ _ _ _ _ _ _ _ _ _ _ _ _
  have M1 := Lib.hid (fun W (h : F3 w b1 a1 k1 c1 d1 e1 m1 q1 b2 a2 k2 c2 d2 e2 m2 q2 W) => h1.below h.bel)
  have M2 := Lib.hid (fun W (h : F3 w b1 a1 k1 c1 d1 e1 m1 q1 b2 a2 k2 c2 d2 e2 m2 q2 W) => h2.below h.bel)
  have D1 := Lib.hid (fun W (h : F3 w b1 a1 k1 c1 d1 e1 m1 q1 b2 a2 k2 c2 d2 e2 m2 q2 W) => g1.below h.bel)
  have D2 := Lib.hid (fun W (h : F3 w b1 a1 k1 c1 d1 e1 m1 q1 b2 a2 k2 c2 d2 e2 m2 q2 W) => g2.below h.bel)
  have P1 := Lib.hid (Nat.lt_of_lt_of_le n1 (bp_mono (show 400 ≤ 2000 by decide)))
  have P2 := Lib.hid (Nat.lt_of_lt_of_le n2 (bp_mono (show 400 ≤ 2000 by decide)))
  have Q1 := Lib.hid (Nat.lt_of_lt_of_le o1 (bp_mono (show 400 ≤ 2000 by decide)))
  have Q2 := Lib.hid (Nat.lt_of_lt_of_le o2 (bp_mono (show 400 ≤ 2000 by decide)))
  have NA := Lib.hid (bpz_mul n1 o2 (show 400 + 400 ≤ 2000 by decide))
  have NB := Lib.hid (bpz_mul n2 o1 (show 400 + 400 ≤ 2000 by decide))
  have NN := Lib.hid (bpz_add (bpz_mul n1 o2 (show 400 + 400 ≤ 800 by decide)) (bpz_mul n2 o1 (show 400 + 400 ≤ 800 by decide)) (show 800 + 1 ≤ 2000 by decide))
  have DD := Lib.hid (bpz_mul o1 o2 (show 400 + 400 ≤ 2000 by decide))
  have NE : Hid (y1 * y2 ≠ 0) := Int.mul_ne_zero hy1 hy2
  clear h1 h2 g1 g2 n1 n2 o1 o2 hy1 hy2
  go_enter Tryd.func18, Tryd.ntmps18
  go_wp2_with fail
  clear hW0
  refine wp_region_noPanic ?_
  refine wp_region_held_drew (S := SF w.heap.size b1 a1 k1 c1 d1 e1 m1 q1 b2 a2 k2 c2 d2 e2 m2 q2) (by kernel_rfl) (J0.out.keep (Below.refl _ _).drew).si (fun hS => ?_)
  have J1 := Lib.hid (J0.out.keep (Below.refl _ _).drew)
  clear J0
  refine wpAnyH_take (i := 0) (v := ?v0z37) rfl (by kernel_rfl) (by kernel_rfl) (by kernel_rfl) (fun _ _ _ h => h) (Or.inl ⟨by rfl, ?hy0z37⟩) (by assumption) ?rest0z37
  case hy0z37 =>
    intro w hSw
    dsimp only [SF] at hSw
    go_simp
    try with_reducible rfl
  simp only [Act.put, List.getElem_toArray, List.getElem_cons_succ, List.getElem_cons_zero, List.setIfInBounds_toArray, List.set_cons_zero, List.set_cons_succ]
  refine wpAnyH_take (i := 1) (v := ?v1z38) rfl (by kernel_rfl) (by kernel_rfl) (by kernel_rfl) (fun _ _ _ h => h) (Or.inl ⟨by rfl, ?hy1z38⟩) (by assumption) ?rest1z38
  case hy1z38 =>
    intro w hSw
    dsimp only [SF] at hSw
    go_simp
    try with_reducible rfl
  simp only [Act.put, List.getElem_toArray, List.getElem_cons_succ, List.getElem_cons_zero, List.setIfInBounds_toArray, List.set_cons_zero, List.set_cons_succ]
  refine wpAnyH_take (i := 2) (v := ?v2z39) rfl (by kernel_rfl) (by kernel_rfl) (by kernel_rfl) (fun _ _ _ h => h) (Or.inl ⟨by rfl, ?hy2z39⟩) (by assumption) ?rest2z39
  case hy2z39 =>
    intro w hSw
    dsimp only [SF] at hSw
    go_simp
    try with_reducible rfl
  simp only [Act.put, List.getElem_toArray, List.getElem_cons_succ, List.getElem_cons_zero, List.setIfInBounds_toArray, List.set_cons_zero, List.set_cons_succ]
  refine wpAnyH_take (i := 3) (v := ?v3z40) rfl (by kernel_rfl) (by kernel_rfl) (by kernel_rfl) (fun _ _ _ h => h) (Or.inl ⟨by rfl, ?hy3z40⟩) (by assumption) ?rest3z40
  case hy3z40 =>
    intro w hSw
    dsimp only [SF] at hSw
    go_simp
    try with_reducible rfl
  simp only [Act.put, List.getElem_toArray, List.getElem_cons_succ, List.getElem_cons_zero, List.setIfInBounds_toArray, List.set_cons_zero, List.set_cons_succ]
  refine wpAnyH_take (i := 5) (v := ?v5z41) rfl (by kernel_rfl) (by kernel_rfl) (by kernel_rfl) (fun _ _ _ h => h) (Or.inl ⟨by rfl, ?hy5z41⟩) (by assumption) ?rest5z41
  case hy5z41 =>
    intro w hSw
    dsimp only [SF] at hSw
    go_simp
    try with_reducible rfl
  simp only [Act.put, List.getElem_toArray, List.getElem_cons_succ, List.getElem_cons_zero, List.setIfInBounds_toArray, List.set_cons_zero, List.set_cons_succ]
  refine wpAnyH_take (i := 6) (v := ?v6z42) rfl (by kernel_rfl) (by kernel_rfl) (by kernel_rfl) (fun _ _ _ h => h) (Or.inl ⟨by rfl, ?hy6z42⟩) (by assumption) ?rest6z42
  case hy6z42 =>
    intro w hSw
    dsimp only [SF] at hSw
    go_simp
    try with_reducible rfl
  simp only [Act.put, List.getElem_toArray, List.getElem_cons_succ, List.getElem_cons_zero, List.setIfInBounds_toArray, List.set_cons_zero, List.set_cons_succ]
  refine wpAnyH_take (i := 7) (v := ?v7z43) rfl (by kernel_rfl) (by kernel_rfl) (by kernel_rfl) (fun _ _ _ h => h) (Or.inl ⟨by rfl, ?hy7z43⟩) (by assumption) ?rest7z43
  case hy7z43 =>
    intro w hSw
    dsimp only [SF] at hSw
    go_simp
    try with_reducible rfl
  simp only [Act.put, List.getElem_toArray, List.getElem_cons_succ, List.getElem_cons_zero, List.setIfInBounds_toArray, List.set_cons_zero, List.set_cons_succ]
  refine wpAnyH_take (i := 8) (v := ?v8z44) rfl (by kernel_rfl) (by kernel_rfl) (by kernel_rfl) (fun _ _ _ h => h) (Or.inl ⟨by rfl, ?hy8z44⟩) (by assumption) ?rest8z44
  case hy8z44 =>
    intro w hSw
    dsimp only [SF] at hSw
    go_simp
    try with_reducible rfl
  simp only [Act.put, List.getElem_toArray, List.getElem_cons_succ, List.getElem_cons_zero, List.setIfInBounds_toArray, List.set_cons_zero, List.set_cons_succ]
  refine wpAnyH_take (i := 11) (v := ?v11z45) rfl (by kernel_rfl) (by kernel_rfl) (by kernel_rfl) (fun _ _ _ h => h) (Or.inl ⟨by rfl, ?hy11z45⟩) (by assumption) ?rest11z45
  case hy11z45 =>
    intro w hSw
    dsimp only [SF] at hSw
    go_simp
    try with_reducible rfl
  simp only [Act.put, List.getElem_toArray, List.getElem_cons_succ, List.getElem_cons_zero, List.setIfInBounds_toArray, List.set_cons_zero, List.set_cons_succ]
  refine wpAnyH_take (i := 12) (v := ?v12z46) rfl (by kernel_rfl) (by kernel_rfl) (by kernel_rfl) (fun _ _ _ h => h) (Or.inl ⟨by rfl, ?hy12z46⟩) (by assumption) ?rest12z46
  case hy12z46 =>
    intro w hSw
    dsimp only [SF] at hSw
    go_simp
    try with_reducible rfl
  simp only [Act.put, List.getElem_toArray, List.getElem_cons_succ, List.getElem_cons_zero, List.setIfInBounds_toArray, List.set_cons_zero, List.set_cons_succ]
  refine wpAnyH_take (i := 13) (v := ?v13z47) rfl (by kernel_rfl) (by kernel_rfl) (by kernel_rfl) (fun _ _ _ h => h) (Or.inl ⟨by rfl, ?hy13z47⟩) (by assumption) ?rest13z47
  case hy13z47 =>
    intro w hSw
    dsimp only [SF] at hSw
    go_simp
    try with_reducible rfl
  simp only [Act.put, List.getElem_toArray, List.getElem_cons_succ, List.getElem_cons_zero, List.setIfInBounds_toArray, List.set_cons_zero, List.set_cons_succ]
  refine wpAnyH_take (i := 14) (v := ?v14z48) rfl (by kernel_rfl) (by kernel_rfl) (by kernel_rfl) (fun _ _ _ h => h) (Or.inl ⟨by rfl, ?hy14z48⟩) (by assumption) ?rest14z48
  case hy14z48 =>
    intro w hSw
    dsimp only [SF] at hSw
    go_simp
    try with_reducible rfl
  simp only [Act.put, List.getElem_toArray, List.getElem_cons_succ, List.getElem_cons_zero, List.setIfInBounds_toArray, List.set_cons_zero, List.set_cons_succ]
  refine wpAnyH_ready (rs := [4]) (by kernel_rfl) (by simp) ?_
  refine AllReadyH.cons rfl (fun K hK => ?_) AllReadyH.nil
  go_simp
  refine (Times_c b1 d2 a1 e2 k1 m2 c1 q2 z1 y2 _ (M1.out _ J1.out) (D2.out _ J1.out) P1.out Q2.out).mono ?_
  rintro e W3 ⟨nb, na, nk, nc, rfl, hn, bc⟩
  try go_simp
  have J3 := Lib.hid (J1.out.keep bc)
  have hT := J3.out.si
  have HN := Lib.hid hn
  refine hK.out _ _ hT (fun _ => ?_)
  clear hK K hS bc J1 hn
  have hS := hT
  clear hT
  try simp only [Act.put, List.setIfInBounds_toArray, List.set_cons_zero, List.set_cons_succ]
  refine wpAnyH_ready (rs := [9]) (by kernel_rfl) (by simp) ?_
  refine AllReadyH.cons rfl (fun K hK => ?_) AllReadyH.nil
  go_simp
  refine (Times_c b2 d1 a2 e1 k2 m1 c2 q1 z2 y1 _ (M2.out _ J3.out) (D1.out _ J3.out) P2.out Q1.out).mono ?_
  rintro e W4 ⟨tb, ta, tk, tc, rfl, hn, bc⟩
  try go_simp
  have J4 := Lib.hid (J3.out.keep bc)
  have hT := J4.out.si
  have HD := Lib.hid hn
  have HN4 := Lib.hid (HN.out.below bc)
  refine hK.out _ _ hT (fun _ => ?_)
  clear hK K hS bc J3 hn HN
  have hS := hT
  clear hT
  try simp only [Act.put, List.setIfInBounds_toArray, List.set_cons_zero, List.set_cons_succ]
  refine wpAnyH_ready (rs := [10]) (by kernel_rfl) (by simp) ?_
  refine AllReadyH.cons rfl (fun K hK => ?_) AllReadyH.nil
  go_simp
  refine (Plus_c nb tb na ta nk tk nc tc (z1 * y2) (z2 * y1) _ HN4.out HD.out NA.out NB.out).mono ?_
  rintro e W5 ⟨sb, sa, sk, sc, rfl, hn, bc⟩
  try go_simp
  have J5 := Lib.hid (J4.out.keep bc)
  have hT := J5.out.si
  have HS5 := Lib.hid hn
  refine hK.out _ _ hT (fun _ => ?_)
  clear hK K hS bc J4 hn HN4 HD
  have hS := hT
  clear hT
  try simp only [Act.put, List.setIfInBounds_toArray, List.set_cons_zero, List.set_cons_succ]
  refine wpAnyH_ready (rs := [15]) (by kernel_rfl) (by simp) ?_
  refine AllReadyH.cons rfl (fun K hK => ?_) AllReadyH.nil
  go_simp
  refine (Times_c d1 d2 e1 e2 m1 m2 q1 q2 y1 y2 _ (D1.out _ J5.out) (D2.out _ J5.out) Q1.out Q2.out).mono ?_
  rintro e W6 ⟨ub, ua, uk, uc, rfl, hn, bc⟩
  try go_simp
  have J6 := Lib.hid (J5.out.keep bc)
  have hT := J6.out.si
  have HU := Lib.hid hn
  have HS6 := Lib.hid (HS5.out.below bc)
  refine hK.out _ _ hT (fun _ => ?_)
  clear hK K hS bc J5 hn HS5
  have hS := hT
  clear hT
  try simp only [Act.put, List.setIfInBounds_toArray, List.set_cons_zero, List.set_cons_succ]
  refine wpAnyH_ready (rs := [16]) (by kernel_rfl) (by simp) ?_
  refine AllReadyH.cons rfl (fun K hK => ?_) AllReadyH.nil
  go_simp
  refine (Over_c sb ub sa ua sk uk sc uc (z1 * y2 + z2 * y1) (y1 * y2) _ HS6.out HU.out NE.out NN.out DD.out).mono ?_
  rintro e W8 ⟨ob, oa, ok, oc, ob', oa', ok', oc', rfl, hn, hd, bc⟩
  try go_simp
  have J8 := Lib.hid (J6.out.keep bc)
  have hT := J8.out.si
  have ON := Lib.hid hn
  have OD := Lib.hid hd
  refine hK.out _ _ hT (fun _ => ?_)
  clear hK K hS bc J6 hn hd HS6 HU
  have hS := hT
  clear hT
  try simp only [Act.put, List.setIfInBounds_toArray, List.set_cons_zero, List.set_cons_succ]
  refine wpAnyH_ready (rs := [17]) (by kernel_rfl) (by simp) ?_
  refine AllReadyH.cons rfl (fun K hK => ?_) AllReadyH.nil
  have q0' := J8.out.r.c0
  have q1' := J8.out.r.c1
  have q2' := J8.out.r.c2
  have q3' := J8.out.r.c3
  have g0' := J8.out.r.fr 0
  have g1' := J8.out.r.fr 1
  have g2' := J8.out.r.fr 2
  have g3' := J8.out.r.fr 3
  go_simp
  clear q0' q1' q2' q3' g0' g1' g2' g3'
  have hT := J8.out.done (.bool ob) (.slice oa ok oc) (.bool ob') (.slice oa' ok' oc')
  have R9 := J8.out.r.set (.bool ob) (.slice oa ok oc) (.bool ob') (.slice oa' ok' oc')
  have PP : Hid (FrPost ((z1 * y2 + z2 * y1).tdiv (ovG (z1 * y2 + z2 * y1) (y1 * y2))) ((y1 * y2).tdiv (ovG (z1 * y2 + z2 * y1) (y1 * y2))) w (.returned (.agg #[.bool ob, .slice oa ok oc, .bool ob', .slice oa' ok' oc'])) (four W8 (w.heap.size + 1 + 1) (.bool ob) (.slice oa ok oc) (.bool ob') (.slice oa' ok' oc'))) :=
    ⟨_, _, _, _, _, _, _, _, rfl, ON.out.set4 J8.out.r (NL.b _) (NL.s _ _ _) (NL.b _) (NL.s _ _ _) _ _ _ _, OD.out.set4 J8.out.r (NL.b _) (NL.s _ _ _) (NL.b _) (NL.s _ _ _) _ _ _ _, below_four J8.out.bel (by omega) _ _ _ _⟩
  unfold four at hT R9 PP
  refine hK.out _ _ hT (fun _ => ?_)
  clear hK K hS
  try simp only [Act.put, List.setIfInBounds_toArray, List.set_cons_zero, List.set_cons_succ]
  refine wpAnyH_done (by kernel_rfl) ?_ _
  refine NoPanic.normal ?_
  obtain ⟨r0, r1, r2, r3, _, _⟩ := id R9
  clear hT R9
  go_wp2_with fail
  exact bodyPost_ret (v := .agg #[.bool ob, .slice oa ok oc, .bool ob', .slice oa' ok' oc']) (by simp [results, Tryd.results18, go_sem, r0, r1, r2, r3]) rfl PP.out
/-- Two boxes of fractions. -/
structure F2 (w : World) (b1 : Bool) (a1 : Option Addr) (k1 c1 : Nat) (d1 : Bool) (e1 : Option Addr) (m1 q1 : Nat) (b2 : Bool) (a2 : Option Addr) (k2 c2 : Nat) (d2 : Bool) (e2 : Option Addr) (m2 q2 : Nat) (W : World) : Prop where
  x : B4 W w.heap.size (.bool b1) (.slice a1 k1 c1) (.bool d1) (.slice e1 m1 q1)
  y : B4 W (w.heap.size + 1) (.bool b2) (.slice a2 k2 c2) (.bool d2) (.slice e2 m2 q2)
  bel : Below w.heap.size w W
theorem F2.keep {w : World} {b1 : Bool} {a1 : Option Addr} {k1 c1 : Nat} {d1 : Bool} {e1 : Option Addr} {m1 q1 : Nat} {b2 : Bool} {a2 : Option Addr} {k2 c2 : Nat} {d2 : Bool} {e2 : Option Addr} {m2 q2 : Nat} {W W' : World} (h : F2 w b1 a1 k1 c1 d1 e1 m1 q1 b2 a2 k2 c2 d2 e2 m2 q2 W) (hb : Below W.heap.size W W') : F2 w b1 a1 k1 c1 d1 e1 m1 q1 b2 a2 k2 c2 d2 e2 m2 q2 W' :=
  ⟨h.x.keep hb, h.y.keep hb, h.bel.trans (hb.mono h.bel.size)⟩
theorem F2.made (w : World) (b1 : Bool) (a1 : Option Addr) (k1 c1 : Nat) (d1 : Bool) (e1 : Option Addr) (m1 q1 : Nat) (b2 : Bool) (a2 : Option Addr) (k2 c2 : Nat) (d2 : Bool) (e2 : Option Addr) (m2 q2 : Nat) (T1 T2 : TypeId) :
    F2 w b1 a1 k1 c1 d1 e1 m1 q1 b2 a2 k2 c2 d2 e2 m2 q2 ((w.alloc (.cells #[.bool b1, .slice a1 k1 c1, .bool d1, .slice e1 m1 q1] T1)).alloc (.cells #[.bool b2, .slice a2 k2 c2, .bool d2, .slice e2 m2 q2] T2)) := by
  have s1 : (w.alloc (.cells #[.bool b1, .slice a1 k1 c1, .bool d1, .slice e1 m1 q1] T1)).heap.size = w.heap.size + 1 := by simp
  refine ⟨(B4.made w _ _ _ _ T1).keep (bel_one _ _), ?_, ?_⟩
  · rw [← s1]; exact B4.made _ _ _ _ _ T2
  · exact ((Below.refl _ _).alloc (Nat.le_refl _) _).alloc (by simp) _
theorem F2.si {w : World} {b1 : Bool} {a1 : Option Addr} {k1 c1 : Nat} {d1 : Bool} {e1 : Option Addr} {m1 q1 : Nat} {b2 : Bool} {a2 : Option Addr} {k2 c2 : Nat} {d2 : Bool} {e2 : Option Addr} {m2 q2 : Nat} {W : World} (h : F2 w b1 a1 k1 c1 d1 e1 m1 q1 b2 a2 k2 c2 d2 e2 m2 q2 W) : SF w.heap.size b1 a1 k1 c1 d1 e1 m1 q1 b2 a2 k2 c2 d2 e2 m2 q2 W := ⟨h.x.c0, h.x.c1, h.x.c2, h.x.c3, h.y.c0, h.y.c1, h.y.c2, h.y.c3⟩
set_option maxRecDepth 100000 in
set_option maxHeartbeats 4000000 in
theorem FCompare_c (b1 : Bool) (a1 : Option Addr) (k1 c1 : Nat) (d1 : Bool) (e1 : Option Addr) (m1 q1 : Nat) (b2 : Bool) (a2 : Option Addr) (k2 c2 : Nat) (d2 : Bool) (e2 : Option Addr) (m2 q2 : Nat) (z1 y1 z2 y2 : Int) (w : World) (h1 : Zn w b1 a1 k1 c1 z1) (g1 : Zn w d1 e1 m1 q1 y1) (h2 : Zn w b2 a2 k2 c2 z2) (g2 : Zn w d2 e2 m2 q2 y2) (n1 : z1.natAbs < bp 400) (o1 : y1.natAbs < bp 400) (n2 : z2.natAbs < bp 400) (o2 : y2.natAbs < bp 400) :
    Calls Tryd.prog 17 #[.agg #[.bool b1, .slice a1 k1 c1, .bool d1, .slice e1 m1 q1], .agg #[.bool b2, .slice a2 k2 c2, .bool d2, .slice e2 m2 q2]] w fun e w' => e = .returned (.int .i64 (zcmp (z1 * y2) (z2 * y1))) ∧ Below w.heap.size w w' := by
  obtain ⟨W0, hW0⟩ : ∃ W0, (w.alloc (.cells #[.bool b1, .slice a1 k1 c1, .bool d1, .slice e1 m1 q1] 39)).alloc (.cells #[.bool b2, .slice a2 k2 c2, .bool d2, .slice e2 m2 q2] 39) = W0 := ⟨_, rfl⟩
  have J0 : Hid (F2 w b1 a1 k1 c1 d1 e1 m1 q1 b2 a2 k2 c2 d2 e2 m2 q2 W0) := by rw [← hW0]; exact F2.made _ _ _ _ _ _ _ _ _ _ _ _ _ _ _ _ _ _ _
  have M1 := Lib.hid (fun W (h : F2 w b1 a1 k1 c1 d1 e1 m1 q1 b2 a2 k2 c2 d2 e2 m2 q2 W) => h1.below h.bel)
  have M2 := Lib.hid (fun W (h : F2 w b1 a1 k1 c1 d1 e1 m1 q1 b2 a2 k2 c2 d2 e2 m2 q2 W) => h2.below h.bel)
  have D1 := Lib.hid (fun W (h : F2 w b1 a1 k1 c1 d1 e1 m1 q1 b2 a2 k2 c2 d2 e2 m2 q2 W) => g1.below h.bel)
  have D2 := Lib.hid (fun W (h : F2 w b1 a1 k1 c1 d1 e1 m1 q1 b2 a2 k2 c2 d2 e2 m2 q2 W) => g2.below h.bel)
  have P1 := Lib.hid (Nat.lt_of_lt_of_le n1 (bp_mono (show 400 ≤ 2000 by decide)))
  have P2 := Lib.hid (Nat.lt_of_lt_of_le n2 (bp_mono (show 400 ≤ 2000 by decide)))
  have Q1 := Lib.hid (Nat.lt_of_lt_of_le o1 (bp_mono (show 400 ≤ 2000 by decide)))
  have Q2 := Lib.hid (Nat.lt_of_lt_of_le o2 (bp_mono (show 400 ≤ 2000 by decide)))
  clear h1 h2 g1 g2 n1 n2 o1 o2
  go_enter Tryd.func17, Tryd.ntmps17
  go_wp2_with fail
  clear hW0
  refine wp_region_noPanic ?_
  refine wp_region_held_drew (S := SF w.heap.size b1 a1 k1 c1 d1 e1 m1 q1 b2 a2 k2 c2 d2 e2 m2 q2) (by kernel_rfl) (J0.out.keep (Below.refl _ _).drew).si (fun hS => ?_)
  have J1 := Lib.hid (J0.out.keep (Below.refl _ _).drew)
  clear J0
  refine wpAnyH_take (i := 0) (v := ?v0z49) rfl (by kernel_rfl) (by kernel_rfl) (by kernel_rfl) (fun _ _ _ h => h) (Or.inl ⟨by rfl, ?hy0z49⟩) (by assumption) ?rest0z49
  case hy0z49 =>
    intro w hSw
    dsimp only [SF] at hSw
    go_simp
    try with_reducible rfl
  simp only [Act.put, List.getElem_toArray, List.getElem_cons_succ, List.getElem_cons_zero, List.setIfInBounds_toArray, List.set_cons_zero, List.set_cons_succ]
  refine wpAnyH_take (i := 1) (v := ?v1z50) rfl (by kernel_rfl) (by kernel_rfl) (by kernel_rfl) (fun _ _ _ h => h) (Or.inl ⟨by rfl, ?hy1z50⟩) (by assumption) ?rest1z50
  case hy1z50 =>
    intro w hSw
    dsimp only [SF] at hSw
    go_simp
    try with_reducible rfl
  simp only [Act.put, List.getElem_toArray, List.getElem_cons_succ, List.getElem_cons_zero, List.setIfInBounds_toArray, List.set_cons_zero, List.set_cons_succ]
  refine wpAnyH_take (i := 2) (v := ?v2z51) rfl (by kernel_rfl) (by kernel_rfl) (by kernel_rfl) (fun _ _ _ h => h) (Or.inl ⟨by rfl, ?hy2z51⟩) (by assumption) ?rest2z51
  case hy2z51 =>
    intro w hSw
    dsimp only [SF] at hSw
    go_simp
    try with_reducible rfl
  simp only [Act.put, List.getElem_toArray, List.getElem_cons_succ, List.getElem_cons_zero, List.setIfInBounds_toArray, List.set_cons_zero, List.set_cons_succ]
  refine wpAnyH_take (i := 3) (v := ?v3z52) rfl (by kernel_rfl) (by kernel_rfl) (by kernel_rfl) (fun _ _ _ h => h) (Or.inl ⟨by rfl, ?hy3z52⟩) (by assumption) ?rest3z52
  case hy3z52 =>
    intro w hSw
    dsimp only [SF] at hSw
    go_simp
    try with_reducible rfl
  simp only [Act.put, List.getElem_toArray, List.getElem_cons_succ, List.getElem_cons_zero, List.setIfInBounds_toArray, List.set_cons_zero, List.set_cons_succ]
  refine wpAnyH_take (i := 5) (v := ?v5z53) rfl (by kernel_rfl) (by kernel_rfl) (by kernel_rfl) (fun _ _ _ h => h) (Or.inl ⟨by rfl, ?hy5z53⟩) (by assumption) ?rest5z53
  case hy5z53 =>
    intro w hSw
    dsimp only [SF] at hSw
    go_simp
    try with_reducible rfl
  simp only [Act.put, List.getElem_toArray, List.getElem_cons_succ, List.getElem_cons_zero, List.setIfInBounds_toArray, List.set_cons_zero, List.set_cons_succ]
  refine wpAnyH_take (i := 6) (v := ?v6z54) rfl (by kernel_rfl) (by kernel_rfl) (by kernel_rfl) (fun _ _ _ h => h) (Or.inl ⟨by rfl, ?hy6z54⟩) (by assumption) ?rest6z54
  case hy6z54 =>
    intro w hSw
    dsimp only [SF] at hSw
    go_simp
    try with_reducible rfl
  simp only [Act.put, List.getElem_toArray, List.getElem_cons_succ, List.getElem_cons_zero, List.setIfInBounds_toArray, List.set_cons_zero, List.set_cons_succ]
  refine wpAnyH_take (i := 7) (v := ?v7z55) rfl (by kernel_rfl) (by kernel_rfl) (by kernel_rfl) (fun _ _ _ h => h) (Or.inl ⟨by rfl, ?hy7z55⟩) (by assumption) ?rest7z55
  case hy7z55 =>
    intro w hSw
    dsimp only [SF] at hSw
    go_simp
    try with_reducible rfl
  simp only [Act.put, List.getElem_toArray, List.getElem_cons_succ, List.getElem_cons_zero, List.setIfInBounds_toArray, List.set_cons_zero, List.set_cons_succ]
  refine wpAnyH_take (i := 8) (v := ?v8z56) rfl (by kernel_rfl) (by kernel_rfl) (by kernel_rfl) (fun _ _ _ h => h) (Or.inl ⟨by rfl, ?hy8z56⟩) (by assumption) ?rest8z56
  case hy8z56 =>
    intro w hSw
    dsimp only [SF] at hSw
    go_simp
    try with_reducible rfl
  simp only [Act.put, List.getElem_toArray, List.getElem_cons_succ, List.getElem_cons_zero, List.setIfInBounds_toArray, List.set_cons_zero, List.set_cons_succ]
  refine wpAnyH_ready (rs := [4]) (by kernel_rfl) (by simp) ?_
  refine AllReadyH.cons rfl (fun K hK => ?_) AllReadyH.nil
  go_simp
  refine (Times_c b1 d2 a1 e2 k1 m2 c1 q2 z1 y2 _ (M1.out _ J1.out) (D2.out _ J1.out) P1.out Q2.out).mono ?_
  rintro e W3 ⟨nb, na, nk, nc, rfl, hn, bc⟩
  try go_simp
  have J3 := Lib.hid (J1.out.keep bc)
  have hT := J3.out.si
  have HN := Lib.hid hn
  refine hK.out _ _ hT (fun _ => ?_)
  clear hK K hS bc J1 hn
  have hS := hT
  clear hT
  try simp only [Act.put, List.setIfInBounds_toArray, List.set_cons_zero, List.set_cons_succ]
  refine wpAnyH_ready (rs := [9]) (by kernel_rfl) (by simp) ?_
  refine AllReadyH.cons rfl (fun K hK => ?_) AllReadyH.nil
  go_simp
  refine (Times_c b2 d1 a2 e1 k2 m1 c2 q1 z2 y1 _ (M2.out _ J3.out) (D1.out _ J3.out) P2.out Q1.out).mono ?_
  rintro e W4 ⟨tb, ta, tk, tc, rfl, hn, bc⟩
  try go_simp
  have J4 := Lib.hid (J3.out.keep bc)
  have hT := J4.out.si
  have HD := Lib.hid hn
  have HN4 := Lib.hid (HN.out.below bc)
  refine hK.out _ _ hT (fun _ => ?_)
  clear hK K hS bc J3 hn HN
  have hS := hT
  clear hT
  try simp only [Act.put, List.setIfInBounds_toArray, List.set_cons_zero, List.set_cons_succ]
  refine wpAnyH_ready (rs := [10]) (by kernel_rfl) (by simp) ?_
  refine AllReadyH.cons rfl (fun K hK => ?_) AllReadyH.nil
  go_simp
  refine (Compare_c nb tb na ta nk tk nc tc (z1 * y2) (z2 * y1) _ HN4.out HD.out).mono ?_
  rintro e W5 ⟨rfl, bc⟩
  try go_simp
  have J5 := Lib.hid (J4.out.keep bc)
  have hT := J5.out.si
  have BB := Lib.hid J5.out.bel
  refine hK.out _ _ hT (fun _ => ?_)
  clear hK K hS bc J4 HN4 HD
  have hS := hT
  clear hT
  try simp only [Act.put, List.setIfInBounds_toArray, List.set_cons_zero, List.set_cons_succ]
  refine wpAnyH_take (i := 11) (v := ?v11z57) rfl (by kernel_rfl) (by kernel_rfl) (by kernel_rfl) (fun _ _ _ h => h) (Or.inl ⟨by rfl, ?hy11z57⟩) (by assumption) ?rest11z57
  case hy11z57 =>
    intro w hSw
    dsimp only [SF] at hSw
    go_simp
    try with_reducible rfl
  simp only [Act.put, List.getElem_toArray, List.getElem_cons_succ, List.getElem_cons_zero, List.setIfInBounds_toArray, List.set_cons_zero, List.set_cons_succ]
  refine wpAnyH_done (by kernel_rfl) ?_ _
  refine NoPanic.normal ?_
  clear hS J5
  go_wp2
  go_ret
  exact ⟨rfl, BB.out⟩
set_option maxRecDepth 100000 in
set_option maxHeartbeats 4000000 in
theorem FInverse_c (b1 : Bool) (a1 : Option Addr) (k1 c1 : Nat) (d1 : Bool) (e1 : Option Addr) (m1 q1 : Nat) (z1 y1 : Int) (w : World) (h1 : Zn w b1 a1 k1 c1 z1) (g1 : Zn w d1 e1 m1 q1 y1) (n1 : z1.natAbs < bp 400) (o1 : y1.natAbs < bp 400) (hz : z1 ≠ 0) :
    Calls Tryd.prog 15 #[.agg #[.bool b1, .slice a1 k1 c1, .bool d1, .slice e1 m1 q1]] w (FrPost (y1.tdiv (ovG y1 z1)) (z1.tdiv (ovG y1 z1)) w) := by
  obtain ⟨W0, hW0⟩ : ∃ W0, (w.alloc (.cells #[.bool b1, .slice a1 k1 c1, .bool d1, .slice e1 m1 q1] 39)).alloc (.cells #[.bool false, .slice none 0 0, .bool false, .slice none 0 0] 39) = W0 := ⟨_, rfl⟩
  have s1 : (w.alloc (.cells #[.bool b1, .slice a1 k1 c1, .bool d1, .slice e1 m1 q1] 39)).heap.size = w.heap.size + 1 := by simp
  have X0 : B4 W0 w.heap.size (.bool b1) (.slice a1 k1 c1) (.bool d1) (.slice e1 m1 q1) := by rw [← hW0]; exact (B4.made w _ _ _ _ _).keep (bel_one _ _)
  have R0 : B4 W0 (w.heap.size + 1) (.bool false) (.slice none 0 0) (.bool false) (.slice none 0 0) := by rw [← hW0, ← s1]; exact B4.made _ _ _ _ _ _
  have B0 : Below w.heap.size w W0 := by rw [← hW0]; exact ((Below.refl _ _).alloc (Nat.le_refl _) _).alloc (by simp) _
  have HO := Lib.hid (Over_c d1 b1 e1 a1 m1 k1 q1 c1 y1 z1 W0 (g1.below B0) (h1.below B0) hz (Nat.lt_of_lt_of_le o1 (bp_mono (show 400 ≤ 2000 by decide))) (Nat.lt_of_lt_of_le n1 (bp_mono (show 400 ≤ 2000 by decide))))
  have HR0 := Lib.hid R0
  have HB0 := Lib.hid B0
  obtain ⟨x0, x1, x2, x3, _, _⟩ := X0
  clear h1 g1 n1 o1 hz s1 R0 B0
  go_enter Tryd.func15, Tryd.ntmps15
  go_wp2_with fail
  clear hW0
  clear x0 x1 x2 x3
  refine HO.out.mono ?_
  rintro e W8 ⟨ob, oa, ok, oc, ob', oa', ok', oc', rfl, hn, hd, bc⟩
  have ON := Lib.hid hn
  have OD := Lib.hid hd
  have R8 := Lib.hid (HR0.out.keep bc)
  have B8 := Lib.hid (HB0.out.trans (bc.mono HB0.out.size))
  clear hn hd bc HO HR0 HB0
  obtain ⟨WX, hWX⟩ : ∃ WX, four W8 (w.heap.size + 1) (.bool ob) (.slice oa ok oc) (.bool ob') (.slice oa' ok' oc') = WX := ⟨_, rfl⟩
  have RX : B4 WX (w.heap.size + 1) (.bool ob) (.slice oa ok oc) (.bool ob') (.slice oa' ok' oc') := by rw [← hWX]; exact R8.out.set _ _ _ _
  have PP : Hid (FrPost (y1.tdiv (ovG y1 z1)) (z1.tdiv (ovG y1 z1)) w (.returned (.agg #[.bool ob, .slice oa ok oc, .bool ob', .slice oa' ok' oc'])) WX) := by
    rw [← hWX]
    exact ⟨_, _, _, _, _, _, _, _, rfl, ON.out.set4 R8.out (NL.b _) (NL.s _ _ _) (NL.b _) (NL.s _ _ _) _ _ _ _, OD.out.set4 R8.out (NL.b _) (NL.s _ _ _) (NL.b _) (NL.s _ _ _) _ _ _ _, below_four B8.out (by omega) _ _ _ _⟩
  have r0 := R8.out.c0
  have r1 := R8.out.c1
  have r2 := R8.out.c2
  have r3 := R8.out.c3
  have rf0 := R8.out.fr 0
  have rf1 := R8.out.fr 1
  have rf2 := R8.out.fr 2
  have rf3 := R8.out.fr 3
  obtain ⟨t0, t1, t2, t3, _, _⟩ := id RX
  clear ON OD R8 B8 RX
  unfold four at hWX
  go_wp2_with fail
  exact bodyPost_ret (v := .agg #[.bool ob, .slice oa ok oc, .bool ob', .slice oa' ok' oc']) (by simp [results, Tryd.results15, go_sem, t0, t1, t2, t3]) rfl PP.out
end Go.Proofs.YtaibpppobblnoaaDoor
