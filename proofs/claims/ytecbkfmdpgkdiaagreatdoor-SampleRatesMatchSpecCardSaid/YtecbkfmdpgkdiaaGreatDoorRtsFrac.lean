/-
  Fractions of the reference at numbers of one digit: Whole, reduced, Plus, Over, Zero.
-/
import Derived.Test.YtecbkfmdpgkdiaaGreatDoorRtsPlus
import Derived.Test.YtecbkfmdpgkdiaaGreatDoorRatRRat
namespace Go.Proofs.YtecbkfmdpgkdiaaGreatDoor
open Go.RowKit

set_option maxHeartbeats 1000000 in
theorem Whole_c (n : Nat) (w : World) (hn : n < 1000000000) : Calls Tryz.prog 23 #[.int .i64 n] w (FrPost n 1 w) := by
  have HN := Lib.hid hn
  have h0 : ¬ (n : Int) < 0 := by omega
  clear hn
  go_enter Tryz.func23, Tryz.ntmps23
  go_wp2_with fail
  have X0 := Lib.hid (Fx.make w)
  generalize w.alloc (.cells #[.bool false, .slice none 0 0, .slice none 0 0] 45) = W0 at X0 ⊢
  refine (small_c n W0 HN.out).mono ?_
  rintro e w1 ⟨a1, k1, c1, rfl, l1, b1⟩
  have X1 := Lib.hid (X0.out.keep b1)
  have L1 := Lib.hid l1
  clear l1 b1 X0
  go_wp2_with fail
  refine (small_c 1 w1 (by decide)).mono ?_
  rintro e w2 ⟨a2, k2, c2, rfl, l2, b2⟩
  have X2 := X1.out.keep b2
  have L12 := L1.out.below b2
  have FIN := Lib.hid (fin3 (v1 := .slice a1 k1 c1) (v2 := .slice a2 k2 c2) X2.1 X2.2.1 X2.2.2.1 X2.2.2.2.2.2.2.out.1 (Nat.le_refl _) L12 l2)
  clear L12 l2 b2 X1 L1
  dsimp only [Fx] at X2
  go_wp2
  obtain ⟨e0, e1, e2, m1, m2, hB⟩ := FIN.out
  unfold set3 at *
  exact bodyPost_ret (v := .agg #[.bool false, .slice a1 k1 c1, .slice a2 k2 c2]) (by simp [results, Tryz.results23, go_sem, e0, e1, e2]) rfl ⟨_, _, _, _, _, _, rfl, m1, m2, hB⟩
theorem Sm.small {w : World} {a : Option Addr} {k n : Nat} (h : Sm w a k n) : k ≤ 1 := by
  rcases h with ⟨h, _⟩ | ⟨h, _⟩ <;> omega
theorem bel_one' (w : World) (o : Obj) : Below w.heap.size w (w.alloc o) := (Below.refl _ _).alloc (Nat.le_refl _) _
theorem reduced_c (a1 a2 : Option Addr) (c1 c2 k1 k2 n d : Nat) (w : World) (h1 : Sm w a1 k1 n) (h2 : Sm w a2 k2 d) :
    Calls Tryz.prog 32 #[.agg #[.bool false, .slice a1 k1 c1, .slice a2 k2 c2]] w (FrPost n d w) := by
  have s1 := h1.small
  have s2 := h2.small
  have H1 := Lib.hid h1
  have H2 := Lib.hid h2
  clear h1 h2
  go_enter Tryz.func32, Tryz.ntmps32
  go_wp2_with fail
  have hb : Below w.heap.size w ((w.alloc (.cells #[.bool false, .slice a1 k1 c1, .slice a2 k2 c2] 45)).alloc (.cells #[.bool false, .slice a1 k1 c1, .slice a2 k2 c2] 45)) := ((Below.refl _ _).alloc (Nat.le_refl _) _).alloc (by simp) _
  exact bodyPost_ret (v := .agg #[.bool false, .slice a1 k1 c1, .slice a2 k2 c2]) (by simp [results, Tryz.results32, go_sem, World.cell?_alloc_past]) rfl ⟨_, _, _, _, _, _, rfl, H1.out.below hb, H2.out.below hb, hb⟩
theorem Zero_c (a1 a2 : Option Addr) (c1 c2 k1 k2 n : Nat) (w : World) (h1 : Sm w a1 k1 n) :
    Calls Tryz.prog 35 #[.agg #[.bool false, .slice a1 k1 c1, .slice a2 k2 c2]] w fun e w' => e = .returned (.bool (decide (n = 0))) ∧ Below w.heap.size w w' := by
  rcases h1 with ⟨rfl, rfl⟩ | ⟨rfl, p1, _⟩
  · go_enter Tryz.func35, Tryz.ntmps35
    go_wp2
    go_ret
    exact ⟨rfl, (Below.refl _ _).alloc (Nat.le_refl _) _⟩
  · have e : decide (n = 0) = false := by rw [decide_eq_false_iff_not]; omega
    rw [e]
    clear p1 e
    go_enter Tryz.func35, Tryz.ntmps35
    go_wp2
    go_ret
    exact ⟨rfl, (Below.refl _ _).alloc (Nat.le_refl _) _⟩
/-- The boxes of two fractions and of a third one, to be returned. -/
def Pw (g : Nat) (v1 v2 v3 v4 : Value) (W : World) : Prop :=
  W.cell? ⟨g, 0, none⟩ = some (.bool false) ∧ W.cell? ⟨g, 1, none⟩ = some v1 ∧ W.cell? ⟨g, 2, none⟩ = some v2 ∧
  W.cell? ⟨g + 1, 0, none⟩ = some (.bool false) ∧ W.cell? ⟨g + 1, 1, none⟩ = some v3 ∧ W.cell? ⟨g + 1, 2, none⟩ = some v4 ∧
  W.cell? ⟨g + 2, 0, none⟩ = some (.bool false) ∧ W.cell? ⟨g + 2, 1, none⟩ = some (.slice none 0 0) ∧ W.cell? ⟨g + 2, 2, none⟩ = some (.slice none 0 0) ∧
  W.frozen? ⟨g + 2, 0, none⟩ = false ∧ W.frozen? ⟨g + 2, 1, none⟩ = false ∧ W.frozen? ⟨g + 2, 2, none⟩ = false ∧ Hid (g + 3 ≤ W.heap.size)
theorem Pw.keep {g : Nat} {v1 v2 v3 v4 : Value} {W W' : World} (h : Pw g v1 v2 v3 v4 W) (hb : Below W.heap.size W W') : Pw g v1 v2 v3 v4 W' := by
  obtain ⟨a0, a1, a2, a3, a4, a5, a6, a7, a8, f0, f1, f2, s⟩ := h
  have s' := s.out
  have c := fun (b o : Nat) (hg : b < W.heap.size) => hb.cell (p := ⟨b, o, none⟩) hg
  have f := fun (b o : Nat) (hg : b < W.heap.size) => hb.frozen (p := ⟨b, o, none⟩) hg
  have d0 : g < W.heap.size := by omega
  have d1 : g + 1 < W.heap.size := by omega
  have d2 : g + 2 < W.heap.size := by omega
  exact ⟨(c _ _ d0).trans a0, (c _ _ d0).trans a1, (c _ _ d0).trans a2, (c _ _ d1).trans a3, (c _ _ d1).trans a4, (c _ _ d1).trans a5, (c _ _ d2).trans a6, (c _ _ d2).trans a7, (c _ _ d2).trans a8, (f _ _ d2).trans f0, (f _ _ d2).trans f1, (f _ _ d2).trans f2, Nat.le_trans s' hb.size⟩
theorem Pw.make (w : World) (v1 v2 v3 v4 : Value) :
    Pw w.heap.size v1 v2 v3 v4 (((w.alloc (.cells #[.bool false, v1, v2] 45)).alloc (.cells #[.bool false, v3, v4] 45)).alloc (.cells #[.bool false, .slice none 0 0, .slice none 0 0] 45)) ∧
    Below w.heap.size w (((w.alloc (.cells #[.bool false, v1, v2] 45)).alloc (.cells #[.bool false, v3, v4] 45)).alloc (.cells #[.bool false, .slice none 0 0, .slice none 0 0] 45)) := by
  refine ⟨⟨?_, ?_, ?_, ?_, ?_, ?_, ?_, ?_, ?_, ?_, ?_, ?_, by simp [Hid]⟩, (((Below.refl _ _).alloc (Nat.le_refl _) _).alloc (by simp) _).alloc (by simp; omega) _⟩
  all_goals simp [go_sem, World.cell?_alloc_past]
/-- The boxes of two fractions. -/
def Pa (g : Nat) (v1 v2 v3 v4 : Value) (W : World) : Prop :=
  W.cell? ⟨g, 0, none⟩ = some (.bool false) ∧ W.cell? ⟨g, 1, none⟩ = some v1 ∧ W.cell? ⟨g, 2, none⟩ = some v2 ∧
  W.cell? ⟨g + 1, 0, none⟩ = some (.bool false) ∧ W.cell? ⟨g + 1, 1, none⟩ = some v3 ∧ W.cell? ⟨g + 1, 2, none⟩ = some v4
theorem Pw.pa {g : Nat} {v1 v2 v3 v4 : Value} {W : World} (h : Pw g v1 v2 v3 v4 W) : Pa g v1 v2 v3 v4 W := ⟨h.1, h.2.1, h.2.2.1, h.2.2.2.1, h.2.2.2.2.1, h.2.2.2.2.2.1⟩
theorem Pw.res {g : Nat} {v1 v2 v3 v4 : Value} {W : World} (h : Pw g v1 v2 v3 v4 W) : W.cell? ⟨g + 2, 0, none⟩ = some (.bool false) ∧ W.cell? ⟨g + 2, 1, none⟩ = some (.slice none 0 0) ∧ W.cell? ⟨g + 2, 2, none⟩ = some (.slice none 0 0) ∧
    W.frozen? ⟨g + 2, 0, none⟩ = false ∧ W.frozen? ⟨g + 2, 1, none⟩ = false ∧ W.frozen? ⟨g + 2, 2, none⟩ = false := h.2.2.2.2.2.2 |> fun h => ⟨h.1, h.2.1, h.2.2.1, h.2.2.2.1, h.2.2.2.2.1, h.2.2.2.2.2.1⟩
theorem set3_other {W : World} {g b o : Nat} {x y z : Value} (h : b ≠ g) : (set3 W g x y z).cell? ⟨b, o, none⟩ = W.cell? ⟨b, o, none⟩ := by
  unfold set3
  rw [World.cell?_setCell_other _ _ _ _ (by intro e; injection e with e _; exact h e.symm), World.cell?_setCell_other _ _ _ _ (by intro e; injection e with e _; exact h e.symm), World.cell?_setCell_other _ _ _ _ (by intro e; injection e with e _; exact h e.symm)]
theorem Pa.set {g : Nat} {v1 v2 v3 v4 x y z : Value} {W : World} (h : Pa g v1 v2 v3 v4 W) : Pa g v1 v2 v3 v4 (set3 W (g + 2) x y z) :=
  ⟨(set3_other (by omega)).trans h.1, (set3_other (by omega)).trans h.2.1, (set3_other (by omega)).trans h.2.2.1, (set3_other (by omega)).trans h.2.2.2.1, (set3_other (by omega)).trans h.2.2.2.2.1, (set3_other (by omega)).trans h.2.2.2.2.2⟩
/-- The boxes and what the fractions read as. -/
structure Bn (w : World) (a1 a2 a3 a4 : Option Addr) (c1 c2 c3 c4 k1 k2 k3 k4 n d m e : Nat) (W : World) : Prop where
  pw : Pw w.heap.size (.slice a1 k1 c1) (.slice a2 k2 c2) (.slice a3 k3 c3) (.slice a4 k4 c4) W
  s1 : Sm W a1 k1 n
  s2 : Sm W a2 k2 d
  s3 : Sm W a3 k3 m
  s4 : Sm W a4 k4 e
  bel : Below w.heap.size w W
theorem Bn.keep {w : World} {a1 a2 a3 a4 : Option Addr} {c1 c2 c3 c4 k1 k2 k3 k4 n d m e : Nat} {W W' : World} (h : Bn w a1 a2 a3 a4 c1 c2 c3 c4 k1 k2 k3 k4 n d m e W) (hb : Below W.heap.size W W') : Bn w a1 a2 a3 a4 c1 c2 c3 c4 k1 k2 k3 k4 n d m e W' :=
  ⟨h.pw.keep hb, h.s1.below hb, h.s2.below hb, h.s3.below hb, h.s4.below hb, h.bel.trans (hb.mono h.bel.size)⟩
set_option maxHeartbeats 4000000 in
theorem ROver_c (a1 a2 a3 a4 : Option Addr) (c1 c2 c3 c4 k1 k2 k3 k4 n d m e : Nat) (w : World) (h1 : Sm w a1 k1 n) (h2 : Sm w a2 k2 d) (h3 : Sm w a3 k3 m) (h4 : Sm w a4 k4 e) (p1 : n * e < 1000000000) (p2 : d * m < 1000000000) :
    Calls Tryz.prog 36 #[.agg #[.bool false, .slice a1 k1 c1, .slice a2 k2 c2], .agg #[.bool false, .slice a3 k3 c3, .slice a4 k4 c4]] w (FrPost (n * e) (d * m) w) := by
  have M := Pw.make w (.slice a1 k1 c1) (.slice a2 k2 c2) (.slice a3 k3 c3) (.slice a4 k4 c4)
  generalize hW0 : World.alloc _ _ = W0 at M
  have H0 : Hid (Bn w a1 a2 a3 a4 c1 c2 c3 c4 k1 k2 k3 k4 n d m e W0) := ⟨M.1, h1.below M.2, h2.below M.2, h3.below M.2, h4.below M.2, M.2⟩
  have P1 := Lib.hid p1
  have P2 := Lib.hid p2
  have O0 := M.1
  clear h1 h2 h3 h4 p1 p2 M
  dsimp only [Pw] at O0
  go_enter Tryz.func36, Tryz.ntmps36
  go_wp2_with fail
  clear hW0
  clear O0
  have HD := Lib.hid (H0.out.keep (Below.refl _ _).drew)
  have hS := HD.out.pw.pa
  clear H0
  refine wp_region_noPanic ?_
  refine wp_region_held_drew (S := Pa w.heap.size (.slice a1 k1 c1) (.slice a2 k2 c2) (.slice a3 k3 c3) (.slice a4 k4 c4)) (by kernel_rfl) hS (fun hHeld => ?_)
  clear hHeld
  generalize W0.drew = WD at HD hS ⊢
  refine wpAnyH_take (i := 0) (v := ?v0z1) rfl (by kernel_rfl) (by kernel_rfl) (by kernel_rfl) (fun _ _ _ h => h) (Or.inl ⟨by rfl, ?hy0z1⟩) (by assumption) ?rest0z1
  case hy0z1 =>
    intro w hSw
    dsimp only [Pa] at hSw
    go_simp
    try with_reducible rfl
  simp only [Act.put, List.getElem_toArray, List.getElem_cons_succ, List.getElem_cons_zero, List.setIfInBounds_toArray, List.set_cons_zero, List.set_cons_succ]
  refine wpAnyH_take (i := 1) (v := ?v1z2) rfl (by kernel_rfl) (by kernel_rfl) (by kernel_rfl) (fun _ _ _ h => h) (Or.inl ⟨by rfl, ?hy1z2⟩) (by assumption) ?rest1z2
  case hy1z2 =>
    intro w hSw
    dsimp only [Pa] at hSw
    go_simp
    try with_reducible rfl
  simp only [Act.put, List.getElem_toArray, List.getElem_cons_succ, List.getElem_cons_zero, List.setIfInBounds_toArray, List.set_cons_zero, List.set_cons_succ]
  refine wpAnyH_take (i := 2) (v := ?v2z3) rfl (by kernel_rfl) (by kernel_rfl) (by kernel_rfl) (fun _ _ _ h => h) (Or.inl ⟨by rfl, ?hy2z3⟩) (by assumption) ?rest2z3
  case hy2z3 =>
    intro w hSw
    dsimp only [Pa] at hSw
    go_simp
    try with_reducible rfl
  simp only [Act.put, List.getElem_toArray, List.getElem_cons_succ, List.getElem_cons_zero, List.setIfInBounds_toArray, List.set_cons_zero, List.set_cons_succ]
  refine wpAnyH_take (i := 3) (v := ?v3z4) rfl (by kernel_rfl) (by kernel_rfl) (by kernel_rfl) (fun _ _ _ h => h) (Or.inl ⟨by rfl, ?hy3z4⟩) (by assumption) ?rest3z4
  case hy3z4 =>
    intro w hSw
    dsimp only [Pa] at hSw
    go_simp
    try with_reducible rfl
  simp only [Act.put, List.getElem_toArray, List.getElem_cons_succ, List.getElem_cons_zero, List.setIfInBounds_toArray, List.set_cons_zero, List.set_cons_succ]
  refine wpAnyH_take (i := 4) (v := ?v4z5) rfl (by kernel_rfl) (by kernel_rfl) (by kernel_rfl) (fun _ _ _ h => h) (Or.inl ⟨by rfl, ?hy4z5⟩) (by assumption) ?rest4z5
  case hy4z5 =>
    intro w hSw
    dsimp only [Pa] at hSw
    go_simp
    try with_reducible rfl
  simp only [Act.put, List.getElem_toArray, List.getElem_cons_succ, List.getElem_cons_zero, List.setIfInBounds_toArray, List.set_cons_zero, List.set_cons_succ]
  refine wpAnyH_take (i := 5) (v := ?v5z6) rfl (by kernel_rfl) (by kernel_rfl) (by kernel_rfl) (fun _ _ _ h => h) (Or.inl ⟨by rfl, ?hy5z6⟩) (by assumption) ?rest5z6
  case hy5z6 =>
    intro w hSw
    dsimp only [Pa] at hSw
    go_simp
    try with_reducible rfl
  simp only [Act.put, List.getElem_toArray, List.getElem_cons_succ, List.getElem_cons_zero, List.setIfInBounds_toArray, List.set_cons_zero, List.set_cons_succ]
  refine wpAnyH_take (i := 6) (v := ?v6z7) rfl (by kernel_rfl) (by kernel_rfl) (by kernel_rfl) (fun _ _ _ h => h) (Or.inl ⟨by rfl, ?hy6z7⟩) (by assumption) ?rest6z7
  case hy6z7 =>
    intro w hSw
    dsimp only [Pa] at hSw
    go_simp
    try with_reducible rfl
  simp only [Act.put, List.getElem_toArray, List.getElem_cons_succ, List.getElem_cons_zero, List.setIfInBounds_toArray, List.set_cons_zero, List.set_cons_succ]
  refine wpAnyH_take (i := 7) (v := ?v7z8) rfl (by kernel_rfl) (by kernel_rfl) (by kernel_rfl) (fun _ _ _ h => h) (Or.inl ⟨by rfl, ?hy7z8⟩) (by assumption) ?rest7z8
  case hy7z8 =>
    intro w hSw
    dsimp only [Pa] at hSw
    go_simp
    try with_reducible rfl
  simp only [Act.put, List.getElem_toArray, List.getElem_cons_succ, List.getElem_cons_zero, List.setIfInBounds_toArray, List.set_cons_zero, List.set_cons_succ]
  refine wpAnyH_take (i := 8) (v := ?v8z9) rfl (by kernel_rfl) (by kernel_rfl) (by kernel_rfl) (fun _ _ _ h => h) (Or.inl ⟨by rfl, ?hy8z9⟩) (by assumption) ?rest8z9
  case hy8z9 =>
    intro w hSw
    dsimp only [Pa] at hSw
    go_simp
    try with_reducible rfl
  simp only [Act.put, List.getElem_toArray, List.getElem_cons_succ, List.getElem_cons_zero, List.setIfInBounds_toArray, List.set_cons_zero, List.set_cons_succ]
  refine wpAnyH_take (i := 10) (v := ?v10z10) rfl (by kernel_rfl) (by kernel_rfl) (by kernel_rfl) (fun _ _ _ h => h) (Or.inl ⟨by rfl, ?hy10z10⟩) (by assumption) ?rest10z10
  case hy10z10 =>
    intro w hSw
    dsimp only [Pa] at hSw
    go_simp
    try with_reducible rfl
  simp only [Act.put, List.getElem_toArray, List.getElem_cons_succ, List.getElem_cons_zero, List.setIfInBounds_toArray, List.set_cons_zero, List.set_cons_succ]
  refine wpAnyH_take (i := 11) (v := ?v11z11) rfl (by kernel_rfl) (by kernel_rfl) (by kernel_rfl) (fun _ _ _ h => h) (Or.inl ⟨by rfl, ?hy11z11⟩) (by assumption) ?rest11z11
  case hy11z11 =>
    intro w hSw
    dsimp only [Pa] at hSw
    go_simp
    try with_reducible rfl
  simp only [Act.put, List.getElem_toArray, List.getElem_cons_succ, List.getElem_cons_zero, List.setIfInBounds_toArray, List.set_cons_zero, List.set_cons_succ]
  refine wpAnyH_take (i := 12) (v := ?v12z12) rfl (by kernel_rfl) (by kernel_rfl) (by kernel_rfl) (fun _ _ _ h => h) (Or.inl ⟨by rfl, ?hy12z12⟩) (by assumption) ?rest12z12
  case hy12z12 =>
    intro w hSw
    dsimp only [Pa] at hSw
    go_simp
    try with_reducible rfl
  simp only [Act.put, List.getElem_toArray, List.getElem_cons_succ, List.getElem_cons_zero, List.setIfInBounds_toArray, List.set_cons_zero, List.set_cons_succ]
  refine wpAnyH_take (i := 13) (v := ?v13z13) rfl (by kernel_rfl) (by kernel_rfl) (by kernel_rfl) (fun _ _ _ h => h) (Or.inl ⟨by rfl, ?hy13z13⟩) (by assumption) ?rest13z13
  case hy13z13 =>
    intro w hSw
    dsimp only [Pa] at hSw
    go_simp
    try with_reducible rfl
  simp only [Act.put, List.getElem_toArray, List.getElem_cons_succ, List.getElem_cons_zero, List.setIfInBounds_toArray, List.set_cons_zero, List.set_cons_succ]
  refine wpAnyH_ready (rs := [9]) (by kernel_rfl) (by simp) ?_
  refine AllReadyH.cons rfl (fun K hK => ?_) AllReadyH.nil
  go_simp
  refine (rtimes_c a1 a4 c1 c4 k1 k4 n e _ HD.out.s1 HD.out.s4 P1.out).mono ?_
  rintro e w5 ⟨a5, k5, c5, rfl, l5, b5⟩
  try go_simp
  have H5 := Lib.hid (HD.out.keep b5)
  refine hK.out _ _ H5.out.pw.pa (fun _ => ?_)
  clear hK K hS
  have hS := H5.out.pw.pa
  try simp only [Act.put, List.setIfInBounds_toArray, List.set_cons_zero, List.set_cons_succ]
  have L5 := Lib.hid l5
  clear l5 b5 HD
  refine wpAnyH_ready (rs := [14]) (by kernel_rfl) (by simp) ?_
  refine AllReadyH.cons rfl (fun K hK => ?_) AllReadyH.nil
  go_simp
  refine (rtimes_c a2 a3 c2 c3 k2 k3 d m _ H5.out.s2 H5.out.s3 P2.out).mono ?_
  rintro e w6 ⟨a6, k6, c6, rfl, l6, b6⟩
  try go_simp
  have H6 := Lib.hid (H5.out.keep b6)
  refine hK.out _ _ H6.out.pw.pa (fun _ => ?_)
  clear hK K hS
  have hS := H6.out.pw.pa
  try simp only [Act.put, List.setIfInBounds_toArray, List.set_cons_zero, List.set_cons_succ]
  have L5 := Lib.hid (L5.out.below b6)
  have L6 := Lib.hid l6
  clear l6 b6 H5
  refine wpAnyH_take (i := 15) (v := ?v15z14) rfl (by kernel_rfl) (by kernel_rfl) (by kernel_rfl) (fun _ _ _ h => h) (Or.inl ⟨by rfl, ?hy15z14⟩) (by assumption) ?rest15z14
  case hy15z14 =>
    intro w hSw
    dsimp only [Pa] at hSw
    go_simp
    try with_reducible rfl
  simp only [Act.put, List.getElem_toArray, List.getElem_cons_succ, List.getElem_cons_zero, List.setIfInBounds_toArray, List.set_cons_zero, List.set_cons_succ]
  refine wpAnyH_ready (rs := [16]) (by kernel_rfl) (by simp) ?_
  refine AllReadyH.cons rfl (fun K hK => ?_) AllReadyH.nil
  go_simp
  refine (reduced_c a5 a6 c5 c6 k5 k6 (n * e) (d * m) _ L5.out L6.out).mono ?_
  rintro e w7 ⟨a7, k7, c7, a8, k8, c8, rfl, l7, l8, b7⟩
  try go_simp
  have H7 := Lib.hid (H6.out.keep b7)
  refine hK.out _ _ H7.out.pw.pa (fun _ => ?_)
  clear hK K hS
  have hS := H7.out.pw.pa
  have R7 := H7.out.pw.res
  have FIN := Lib.hid (fin3 (v1 := .slice a7 k7 c7) (v2 := .slice a8 k8 c8) R7.1 R7.2.1 R7.2.2.1 H7.out.bel (by omega) l7 l8)
  have PF := Lib.hid (hS.set (x := .bool false) (y := .slice a7 k7 c7) (z := .slice a8 k8 c8))
  clear l7 l8 b7 L5 L6 H6 H7
  try simp only [Act.put, List.setIfInBounds_toArray, List.set_cons_zero, List.set_cons_succ]
  refine wpAnyH_ready (rs := [17]) (by kernel_rfl) (by simp) ?_
  refine AllReadyH.cons rfl (fun K hK => ?_) AllReadyH.nil
  go_simp
  refine hK.out _ _ PF.out (fun _ => ?_)
  clear hK K hS R7
  try simp only [Act.put, List.setIfInBounds_toArray, List.set_cons_zero, List.set_cons_succ]
  refine wpAnyH_done (by kernel_rfl) ?_ _
  refine NoPanic.normal ?_
  go_wp2
  obtain ⟨e0, e1, e2, m1, m2, hB⟩ := FIN.out
  unfold set3 at *
  exact bodyPost_ret (v := .agg #[.bool false, .slice a7 k7 c7, .slice a8 k8 c8]) (by simp [results, Tryz.results36, go_sem, e0, e1, e2]) rfl ⟨_, _, _, _, _, _, rfl, m1, m2, hB⟩
end Go.Proofs.YtecbkfmdpgkdiaaGreatDoor
