/-
  rate of the reference: a number over a fraction.
-/
import Derived.Test.YtecbkfmdpgkdiaaGreatDoorRtsPl
namespace Go.Proofs.YtecbkfmdpgkdiaaGreatDoor
open Go.RowKit

theorem rate_zero (i : Nat) (a1 a2 : Option Addr) (c1 c2 k1 k2 d : Nat) (w : World) (h1 : Sm w a1 k1 0) :
    Calls Tryz.prog 25 #[.int .i64 i, .agg #[.bool false, .slice a1 k1 c1, .slice a2 k2 c2]] w (RtPost (i * d) 0 w) := by
  have e1 : Hid ((⟨#[48]⟩ : ByteArray) = decB (rtN (i * d) 0)) := by unfold Hid decB rtN; rw [if_pos rfl, Lib.decDigits_one (by decide)]; rfl
  have e2 : Hid ((⟨#[49]⟩ : ByteArray) = decB (rtD (i * d) 0)) := by unfold Hid decB rtD; rw [if_pos rfl, Lib.decDigits_one (by decide)]; rfl
  obtain ⟨W0, hW0⟩ : ∃ W0, (w.alloc (.cells #[.bool false, .slice a1 k1 c1, .slice a2 k2 c2] 45)).alloc (.cells #[.string ⟨#[]⟩, .string ⟨#[]⟩] 31) = W0 := ⟨_, rfl⟩
  have B0 : Below w.heap.size w W0 := by rw [← hW0]; exact ((Below.refl _ _).alloc (Nat.le_refl _) _).alloc (by simp) _
  have x : W0.cell? ⟨w.heap.size, 0, none⟩ = some (.bool false) ∧ W0.cell? ⟨w.heap.size, 1, none⟩ = some (.slice a1 k1 c1) ∧ W0.cell? ⟨w.heap.size, 2, none⟩ = some (.slice a2 k2 c2) ∧
      W0.cell? ⟨w.heap.size + 1, 0, none⟩ = some (.string ⟨#[]⟩) ∧ W0.cell? ⟨w.heap.size + 1, 1, none⟩ = some (.string ⟨#[]⟩) ∧ W0.frozen? ⟨w.heap.size + 1, 0, none⟩ = false ∧ W0.frozen? ⟨w.heap.size + 1, 1, none⟩ = false ∧ w.heap.size + 2 ≤ W0.heap.size := by
    rw [← hW0]
    refine ⟨?_, ?_, ?_, ?_, ?_, ?_, ?_, by simp⟩
    all_goals simp [go_sem, World.cell?_alloc_past]
  obtain ⟨x0, x1, x2, y0, y1, f0, f1, sz⟩ := x
  have HB := Lib.hid B0
  have L1 := Lib.hid (h1.below B0)
  have SZ := Lib.hid sz
  clear h1 B0 sz
  go_enter Tryz.func25, Tryz.ntmps25
  go_wp2_with fail
  clear hW0
  refine (Zero_c a1 a2 c1 c2 k1 k2 0 W0 L1.out).mono ?_
  rintro e w1 ⟨rfl, b1⟩
  have s := SZ.out
  have z0 : w1.cell? ⟨w.heap.size + 1, 0, none⟩ = some (.string ⟨#[]⟩) := by rw [b1.cell (p := ⟨w.heap.size + 1, 0, none⟩) (by show w.heap.size + 1 < _; omega)]; exact y0
  have z1 : w1.cell? ⟨w.heap.size + 1, 1, none⟩ = some (.string ⟨#[]⟩) := by rw [b1.cell (p := ⟨w.heap.size + 1, 1, none⟩) (by show w.heap.size + 1 < _; omega)]; exact y1
  have g0 : w1.frozen? ⟨w.heap.size + 1, 0, none⟩ = false := by rw [b1.frozen (p := ⟨w.heap.size + 1, 0, none⟩) (by show w.heap.size + 1 < _; omega)]; exact f0
  have g1 : w1.frozen? ⟨w.heap.size + 1, 1, none⟩ = false := by rw [b1.frozen (p := ⟨w.heap.size + 1, 1, none⟩) (by show w.heap.size + 1 < _; omega)]; exact f1
  have FIN := Lib.hid (two_cells (x := .string ⟨#[48]⟩) (y := .string ⟨#[49]⟩) z0 z1)
  have B1 := Lib.hid (HB.out.trans (b1.mono HB.out.size))
  clear x0 x1 x2 y0 y1 f0 f1 s SZ b1 HB L1
  go_wp2
  have FB := (B1.out.setCell (p := ⟨w.heap.size + 1, 0, none⟩) (Nat.le_succ _) (.string ⟨#[48]⟩)).setCell (p := ⟨w.heap.size + 1, 1, none⟩) (Nat.le_succ _) (.string ⟨#[49]⟩)
  obtain ⟨q0, q1⟩ := FIN.out
  exact bodyPost_ret (v := .agg #[.string ⟨#[48]⟩, .string ⟨#[49]⟩]) (by simp [results, Tryz.results25, go_sem, q0, q1]) rfl ⟨by rw [← e1.out, ← e2.out], FB⟩
set_option maxHeartbeats 8000000 in
theorem rate_pos (i : Nat) (a1 a2 : Option Addr) (c1 c2 k1 k2 n d : Nat) (w : World) (hi : i < 1000000000) (h0 : 0 < n) (h1 : Sm w a1 k1 n) (h2 : Sm w a2 k2 d) (p1 : i * d < 1000000000) (hE : Pow w) :
    Calls Tryz.prog 25 #[.int .i64 i, .agg #[.bool false, .slice a1 k1 c1, .slice a2 k2 c2]] w (RtPost (i * d) n w) := by
  have E1 : Hid ((i * d) / Nat.gcd (i * d) n = rtN (i * d) n) := by unfold Hid rtN; rw [if_neg (by omega)]
  have E2 : Hid (n / Nat.gcd (i * d) n = rtD (i * d) n) := by unfold Hid rtD; rw [if_neg (by omega)]
  have HI := Lib.hid hi
  have H0 := Lib.hid h0
  have HE := Lib.hid hE
  have P1 := Lib.hid p1
  have P2 : Hid (1 * n < 1000000000) := by unfold Hid; rw [Nat.one_mul]; exact h1.lt
  have EZ : Hid (decide (n = 0) = false) := by unfold Hid; rw [decide_eq_false_iff_not]; omega
  obtain ⟨W0, hW0⟩ : ∃ W0, (w.alloc (.cells #[.bool false, .slice a1 k1 c1, .slice a2 k2 c2] 45)).alloc (.cells #[.string ⟨#[]⟩, .string ⟨#[]⟩] 31) = W0 := ⟨_, rfl⟩
  have R0 : RS w w.heap.size a1 a2 k1 c1 k2 c2 n d W0 := by
    have hb : Below w.heap.size w W0 := by rw [← hW0]; exact ((Below.refl _ _).alloc (Nat.le_refl _) _).alloc (by simp) _
    have x : W0.cell? ⟨w.heap.size, 0, none⟩ = some (.bool false) ∧ W0.cell? ⟨w.heap.size, 1, none⟩ = some (.slice a1 k1 c1) ∧ W0.cell? ⟨w.heap.size, 2, none⟩ = some (.slice a2 k2 c2) ∧
        W0.cell? ⟨w.heap.size + 1, 0, none⟩ = some (.string ⟨#[]⟩) ∧ W0.cell? ⟨w.heap.size + 1, 1, none⟩ = some (.string ⟨#[]⟩) ∧ W0.frozen? ⟨w.heap.size + 1, 0, none⟩ = false ∧ W0.frozen? ⟨w.heap.size + 1, 1, none⟩ = false ∧ w.heap.size + 2 ≤ W0.heap.size := by
      rw [← hW0]
      refine ⟨?_, ?_, ?_, ?_, ?_, ?_, ?_, by simp⟩
      all_goals simp [go_sem, World.cell?_alloc_past]
    obtain ⟨x0, x1, x2, y0, y1, f0, f1, sz⟩ := x
    exact ⟨x0, x1, x2, y0, y1, f0, f1, h1.below hb, h2.below hb, hb, by omega, by omega⟩
  have HR := Lib.hid R0
  clear h1 h2 hi h0 p1 hE
  dsimp only [RS] at R0
  go_enter Tryz.func25, Tryz.ntmps25
  go_wp2_with fail
  clear hW0 R0
  refine (Zero_c a1 a2 c1 c2 k1 k2 n W0 HR.out.2.2.2.2.2.2.2.out.1).mono ?_
  rw [EZ.out]
  rintro e w1 ⟨rfl, b1⟩
  have HR1 := Lib.hid (HR.out.keep b1)
  clear b1 HR
  have R1 := HR1.out
  dsimp only [RS] at R1
  obtain ⟨s1, hs1⟩ : ∃ s, rtN (i * d) n = s := ⟨_, rfl⟩
  obtain ⟨s2, hs2⟩ : ∃ s, rtD (i * d) n = s := ⟨_, rfl⟩
  rw [hs1] at E1
  rw [hs2] at E2
  have ES1 := Lib.hid hs1
  have ES2 := Lib.hid hs2
  clear hs1 hs2
  go_wp2_with fail
  clear R1
  have hS := HR1.out.keep (Below.refl _ _).drew
  clear HR1
  refine wp_region_noPanic ?_
  refine wp_region_held_drew (S := RS w w.heap.size a1 a2 k1 c1 k2 c2 n d) (by kernel_rfl) hS (fun hHeld => ?_)
  clear hHeld
  generalize w1.drew = WD at hS ⊢
  refine wpAnyH_take (i := 0) (v := ?v0z1) rfl (by kernel_rfl) (by kernel_rfl) (by kernel_rfl) (fun _ _ _ h => h) (Or.inl ⟨by rfl, ?hy0z1⟩) (by assumption) ?rest0z1
  case hy0z1 =>
    intro w hSw
    dsimp only [RS] at hSw
    go_simp
    try with_reducible rfl
  simp only [Act.put, List.getElem_toArray, List.getElem_cons_succ, List.getElem_cons_zero, List.setIfInBounds_toArray, List.set_cons_zero, List.set_cons_succ]
  refine wpAnyH_take (i := 2) (v := ?v2z2) rfl (by kernel_rfl) (by kernel_rfl) (by kernel_rfl) (fun _ _ _ h => h) (Or.inl ⟨by rfl, ?hy2z2⟩) (by assumption) ?rest2z2
  case hy2z2 =>
    intro w hSw
    dsimp only [RS] at hSw
    go_simp
    try with_reducible rfl
  simp only [Act.put, List.getElem_toArray, List.getElem_cons_succ, List.getElem_cons_zero, List.setIfInBounds_toArray, List.set_cons_zero, List.set_cons_succ]
  refine wpAnyH_ready (rs := [1, 8]) (by kernel_rfl) (by simp) ?_
  refine AllReadyH.cons rfl (fun K hK => ?_) (AllReadyH.cons rfl (fun K hK => ?_) AllReadyH.nil)
  · go_simp
    refine (Whole_c i _ HI.out).mono ?_
    rintro e wc ⟨a5, k5, c5, a6, k6, c6, rfl, l5, l6, bc⟩
    try go_simp
    have hT := hS.keep bc
    have L5 := Lib.hid l5
    have L6 := Lib.hid l6
    refine hK.out _ _ hT (fun _ => ?_)
    clear hK K hS bc l5 l6
    have hS := hT
    clear hT
    try simp only [Act.put, List.setIfInBounds_toArray, List.set_cons_zero, List.set_cons_succ]
    refine wpAnyH_ready (rs := [3, 8]) (by kernel_rfl) (by simp) ?_
    refine AllReadyH.cons rfl (fun K hK => ?_) (AllReadyH.cons rfl (fun K hK => ?_) AllReadyH.nil)
    · go_simp
      refine (ROver_c a5 a6 a1 a2 c5 c6 c1 c2 k5 k6 k1 k2 i 1 n d _ L5.out L6.out hS.2.2.2.2.2.2.2.out.1 hS.2.2.2.2.2.2.2.out.2.1 P1.out P2.out).mono ?_
      rintro e wo ⟨a7, k7, c7, a8, k8, c8, rfl, l7, l8, bc⟩
      try go_simp
      rw [Nat.one_mul] at l8
      have hT := hS.keep bc
      have L7 := Lib.hid l7
      have L8 := Lib.hid l8
      refine hK.out _ _ hT (fun _ => ?_)
      clear hK K hS bc l7 l8 L5 L6
      have hS := hT
      clear hT
      try simp only [Act.put, List.setIfInBounds_toArray, List.set_cons_zero, List.set_cons_succ]
      refine wpAnyH_ready (rs := [4, 8]) (by kernel_rfl) (by simp) ?_
      refine AllReadyH.cons rfl (fun K hK => ?_) (AllReadyH.cons rfl (fun K hK => ?_) AllReadyH.nil)
      · go_simp
        refine (RRatio_c a7 a8 c7 c8 k7 k8 (i * d) n _ L7.out L8.out H0.out (Go.Joins.tab_stays gPow HE.out hS.2.2.2.2.2.2.2.out.2.2.1 (Nat.le_refl _))).mono ?_
        rintro e wt ⟨rfl, bc⟩
        rw [E1.out, E2.out]
        try go_simp
        have hT := hS.keep bc
        refine hK.out _ _ hT (fun _ => ?_)
        clear hK K hS bc L7 L8
        have hS := hT
        clear hT
        try simp only [Act.put, List.setIfInBounds_toArray, List.set_cons_zero, List.set_cons_succ]
        refine wpAnyH_take (i := 5) (v := ?v5z3) rfl (by kernel_rfl) (by kernel_rfl) (by kernel_rfl) (fun _ _ _ h => h) (Or.inl ⟨by rfl, ?hy5z3⟩) (by assumption) ?rest5z3
        case hy5z3 =>
          intro w hSw
          dsimp only [RS] at hSw
          go_simp
          try with_reducible rfl
        simp only [Act.put, List.getElem_toArray, List.getElem_cons_succ, List.getElem_cons_zero, List.setIfInBounds_toArray, List.set_cons_zero, List.set_cons_succ]
        refine wpAnyH_take (i := 6) (v := ?v6z4) rfl (by kernel_rfl) (by kernel_rfl) (by kernel_rfl) (fun _ _ _ h => h) (Or.inl ⟨by rfl, ?hy6z4⟩) (by assumption) ?rest6z4
        case hy6z4 =>
          intro w hSw
          dsimp only [RS] at hSw
          go_simp
          try with_reducible rfl
        simp only [Act.put, List.getElem_toArray, List.getElem_cons_succ, List.getElem_cons_zero, List.setIfInBounds_toArray, List.set_cons_zero, List.set_cons_succ]
        refine wpAnyH_take (i := 7) (v := ?v7z5) rfl (by kernel_rfl) (by kernel_rfl) (by kernel_rfl) (fun _ _ _ h => h) (Or.inl ⟨by rfl, ?hy7z5⟩) (by assumption) ?rest7z5
        case hy7z5 =>
          intro w hSw
          dsimp only [RS] at hSw
          go_simp
          try with_reducible rfl
        simp only [Act.put, List.getElem_toArray, List.getElem_cons_succ, List.getElem_cons_zero, List.setIfInBounds_toArray, List.set_cons_zero, List.set_cons_succ]
        refine wpAnyH_ready (rs := [8]) (by kernel_rfl) (by simp) ?_
        refine AllReadyH.cons rfl (fun K hK => ?_) AllReadyH.nil
        go_simp
        have hQ := RQ.make hS
        have hT := hS.made (.cells #[.string ⟨#[]⟩, .string ⟨#[]⟩] 31)
        refine hK.out _ _ hT (fun _ => ?_)
        clear hK K hS
        have hS := hT
        clear hT
        try simp only [Act.put, List.setIfInBounds_toArray, List.set_cons_zero, List.set_cons_succ]
        generalize (wt).alloc (.cells #[.string ⟨#[]⟩, .string ⟨#[]⟩] 31) = WA at hQ hS  ⊢
        generalize World.heap (wt) = HH at hQ ⊢
        generalize HH.size = q at hQ ⊢
        refine wpAnyH_ready (rs := [9]) (by kernel_rfl) (by simp) ?_
        refine AllReadyH.cons rfl (fun K hK => ?_) AllReadyH.nil
        have e := hQ
        dsimp only [RQ] at e
        go_simp
        clear e
        have hT := hS.stored (u' := decB s1) (v' := decB s2) hQ
        have hP := hQ.stored (u' := decB s1) (v' := decB s2)
        refine hK.out _ _ hT (fun _ => ?_)
        clear hK K hS hQ
        have hS := hT
        try simp only [Act.put, List.setIfInBounds_toArray, List.set_cons_zero, List.set_cons_succ]
        refine wpAnyH_take (i := 10) (v := ?v10z6) rfl (by kernel_rfl) (by kernel_rfl) (by kernel_rfl) (fun _ _ _ h => h) (Or.inl ⟨by rfl, ?hy10z6⟩) (by assumption) ?rest10z6
        case hy10z6 =>
          intro w hSw
          dsimp only [RS] at hSw
          go_simp
          try with_reducible rfl
        simp only [Act.put, List.getElem_toArray, List.getElem_cons_succ, List.getElem_cons_zero, List.setIfInBounds_toArray, List.set_cons_zero, List.set_cons_succ]
        refine wpAnyH_done (by kernel_rfl) ?_ _
        refine NoPanic.normal ?_
        clear hS
        generalize World.setCell _ _ _ = W9 at hT hP ⊢
        have e := hT
        dsimp only [RS] at e
        have e' := hP
        dsimp only [RQ] at e'
        have FIN := Lib.hid (two_cells (x := .string (decB s1)) (y := .string (decB s2)) hT.2.2.2.1 hT.2.2.2.2.1)
        have FB := Lib.hid ((hT.2.2.2.2.2.2.2.out.2.2.1.setCell (p := ⟨w.heap.size + 1, 0, none⟩) (Nat.le_succ _) (.string (decB s1))).setCell (p := ⟨w.heap.size + 1, 1, none⟩) (Nat.le_succ _) (.string (decB s2)))
        clear hT hP
        go_wp2
        obtain ⟨e0, e1⟩ := FIN.out
        exact bodyPost_ret (v := .agg #[.string (decB s1), .string (decB s2)]) (by simp [results, Tryz.results25, go_sem, e0, e1]) rfl ⟨by rw [← ES1.out, ← ES2.out], FB.out⟩
      · go_simp
        have hQ := RQ.make hS
        have hT := hS.made (.cells #[.string ⟨#[]⟩, .string ⟨#[]⟩] 31)
        have L7 := Lib.hid (L7.out.below (bel_one' _ (.cells #[.string ⟨#[]⟩, .string ⟨#[]⟩] 31)))
        have L8 := Lib.hid (L8.out.below (bel_one' _ (.cells #[.string ⟨#[]⟩, .string ⟨#[]⟩] 31)))
        refine hK.out _ _ hT (fun _ => ?_)
        clear hK K hS
        have hS := hT
        clear hT
        try simp only [Act.put, List.setIfInBounds_toArray, List.set_cons_zero, List.set_cons_succ]
        generalize (wo).alloc (.cells #[.string ⟨#[]⟩, .string ⟨#[]⟩] 31) = WA at hQ hS L7 L8 ⊢
        generalize World.heap (wo) = HH at hQ ⊢
        generalize HH.size = q at hQ ⊢
        refine wpAnyH_ready (rs := [4]) (by kernel_rfl) (by simp) ?_
        refine AllReadyH.cons rfl (fun K hK => ?_) AllReadyH.nil
        go_simp
        refine (RRatio_c a7 a8 c7 c8 k7 k8 (i * d) n _ L7.out L8.out H0.out (Go.Joins.tab_stays gPow HE.out hS.2.2.2.2.2.2.2.out.2.2.1 (Nat.le_refl _))).mono ?_
        rintro e wt ⟨rfl, bc⟩
        rw [E1.out, E2.out]
        try go_simp
        have hT := hS.keep bc
        have hP := hQ.keep bc
        refine hK.out _ _ hT (fun _ => ?_)
        clear hK K hS bc L7 L8
        clear hQ
        have hQ := hP
        clear hP
        have hS := hT
        clear hT
        try simp only [Act.put, List.setIfInBounds_toArray, List.set_cons_zero, List.set_cons_succ]
        refine wpAnyH_take (i := 5) (v := ?v5z7) rfl (by kernel_rfl) (by kernel_rfl) (by kernel_rfl) (fun _ _ _ h => h) (Or.inl ⟨by rfl, ?hy5z7⟩) (by assumption) ?rest5z7
        case hy5z7 =>
          intro w hSw
          dsimp only [RS] at hSw
          go_simp
          try with_reducible rfl
        simp only [Act.put, List.getElem_toArray, List.getElem_cons_succ, List.getElem_cons_zero, List.setIfInBounds_toArray, List.set_cons_zero, List.set_cons_succ]
        refine wpAnyH_take (i := 6) (v := ?v6z8) rfl (by kernel_rfl) (by kernel_rfl) (by kernel_rfl) (fun _ _ _ h => h) (Or.inl ⟨by rfl, ?hy6z8⟩) (by assumption) ?rest6z8
        case hy6z8 =>
          intro w hSw
          dsimp only [RS] at hSw
          go_simp
          try with_reducible rfl
        simp only [Act.put, List.getElem_toArray, List.getElem_cons_succ, List.getElem_cons_zero, List.setIfInBounds_toArray, List.set_cons_zero, List.set_cons_succ]
        refine wpAnyH_take (i := 7) (v := ?v7z9) rfl (by kernel_rfl) (by kernel_rfl) (by kernel_rfl) (fun _ _ _ h => h) (Or.inl ⟨by rfl, ?hy7z9⟩) (by assumption) ?rest7z9
        case hy7z9 =>
          intro w hSw
          dsimp only [RS] at hSw
          go_simp
          try with_reducible rfl
        simp only [Act.put, List.getElem_toArray, List.getElem_cons_succ, List.getElem_cons_zero, List.setIfInBounds_toArray, List.set_cons_zero, List.set_cons_succ]
        refine wpAnyH_ready (rs := [9]) (by kernel_rfl) (by simp) ?_
        refine AllReadyH.cons rfl (fun K hK => ?_) AllReadyH.nil
        have e := hQ
        dsimp only [RQ] at e
        go_simp
        clear e
        have hT := hS.stored (u' := decB s1) (v' := decB s2) hQ
        have hP := hQ.stored (u' := decB s1) (v' := decB s2)
        refine hK.out _ _ hT (fun _ => ?_)
        clear hK K hS hQ
        have hS := hT
        try simp only [Act.put, List.setIfInBounds_toArray, List.set_cons_zero, List.set_cons_succ]
        refine wpAnyH_take (i := 10) (v := ?v10z10) rfl (by kernel_rfl) (by kernel_rfl) (by kernel_rfl) (fun _ _ _ h => h) (Or.inl ⟨by rfl, ?hy10z10⟩) (by assumption) ?rest10z10
        case hy10z10 =>
          intro w hSw
          dsimp only [RS] at hSw
          go_simp
          try with_reducible rfl
        simp only [Act.put, List.getElem_toArray, List.getElem_cons_succ, List.getElem_cons_zero, List.setIfInBounds_toArray, List.set_cons_zero, List.set_cons_succ]
        refine wpAnyH_done (by kernel_rfl) ?_ _
        refine NoPanic.normal ?_
        clear hS
        generalize World.setCell _ _ _ = W9 at hT hP ⊢
        have e := hT
        dsimp only [RS] at e
        have e' := hP
        dsimp only [RQ] at e'
        have FIN := Lib.hid (two_cells (x := .string (decB s1)) (y := .string (decB s2)) hT.2.2.2.1 hT.2.2.2.2.1)
        have FB := Lib.hid ((hT.2.2.2.2.2.2.2.out.2.2.1.setCell (p := ⟨w.heap.size + 1, 0, none⟩) (Nat.le_succ _) (.string (decB s1))).setCell (p := ⟨w.heap.size + 1, 1, none⟩) (Nat.le_succ _) (.string (decB s2)))
        clear hT hP
        go_wp2
        obtain ⟨e0, e1⟩ := FIN.out
        exact bodyPost_ret (v := .agg #[.string (decB s1), .string (decB s2)]) (by simp [results, Tryz.results25, go_sem, e0, e1]) rfl ⟨by rw [← ES1.out, ← ES2.out], FB.out⟩
    · go_simp
      have hQ := RQ.make hS
      have hT := hS.made (.cells #[.string ⟨#[]⟩, .string ⟨#[]⟩] 31)
      have L5 := Lib.hid (L5.out.below (bel_one' _ (.cells #[.string ⟨#[]⟩, .string ⟨#[]⟩] 31)))
      have L6 := Lib.hid (L6.out.below (bel_one' _ (.cells #[.string ⟨#[]⟩, .string ⟨#[]⟩] 31)))
      refine hK.out _ _ hT (fun _ => ?_)
      clear hK K hS
      have hS := hT
      clear hT
      try simp only [Act.put, List.setIfInBounds_toArray, List.set_cons_zero, List.set_cons_succ]
      generalize (wc).alloc (.cells #[.string ⟨#[]⟩, .string ⟨#[]⟩] 31) = WA at hQ hS L5 L6 ⊢
      generalize World.heap (wc) = HH at hQ ⊢
      generalize HH.size = q at hQ ⊢
      refine wpAnyH_ready (rs := [3]) (by kernel_rfl) (by simp) ?_
      refine AllReadyH.cons rfl (fun K hK => ?_) AllReadyH.nil
      go_simp
      refine (ROver_c a5 a6 a1 a2 c5 c6 c1 c2 k5 k6 k1 k2 i 1 n d _ L5.out L6.out hS.2.2.2.2.2.2.2.out.1 hS.2.2.2.2.2.2.2.out.2.1 P1.out P2.out).mono ?_
      rintro e wo ⟨a7, k7, c7, a8, k8, c8, rfl, l7, l8, bc⟩
      try go_simp
      rw [Nat.one_mul] at l8
      have hT := hS.keep bc
      have hP := hQ.keep bc
      have L7 := Lib.hid l7
      have L8 := Lib.hid l8
      refine hK.out _ _ hT (fun _ => ?_)
      clear hK K hS bc l7 l8 L5 L6
      clear hQ
      have hQ := hP
      clear hP
      have hS := hT
      clear hT
      try simp only [Act.put, List.setIfInBounds_toArray, List.set_cons_zero, List.set_cons_succ]
      refine wpAnyH_ready (rs := [4]) (by kernel_rfl) (by simp) ?_
      refine AllReadyH.cons rfl (fun K hK => ?_) AllReadyH.nil
      go_simp
      refine (RRatio_c a7 a8 c7 c8 k7 k8 (i * d) n _ L7.out L8.out H0.out (Go.Joins.tab_stays gPow HE.out hS.2.2.2.2.2.2.2.out.2.2.1 (Nat.le_refl _))).mono ?_
      rintro e wt ⟨rfl, bc⟩
      rw [E1.out, E2.out]
      try go_simp
      have hT := hS.keep bc
      have hP := hQ.keep bc
      refine hK.out _ _ hT (fun _ => ?_)
      clear hK K hS bc L7 L8
      clear hQ
      have hQ := hP
      clear hP
      have hS := hT
      clear hT
      try simp only [Act.put, List.setIfInBounds_toArray, List.set_cons_zero, List.set_cons_succ]
      refine wpAnyH_take (i := 5) (v := ?v5z11) rfl (by kernel_rfl) (by kernel_rfl) (by kernel_rfl) (fun _ _ _ h => h) (Or.inl ⟨by rfl, ?hy5z11⟩) (by assumption) ?rest5z11
      case hy5z11 =>
        intro w hSw
        dsimp only [RS] at hSw
        go_simp
        try with_reducible rfl
      simp only [Act.put, List.getElem_toArray, List.getElem_cons_succ, List.getElem_cons_zero, List.setIfInBounds_toArray, List.set_cons_zero, List.set_cons_succ]
      refine wpAnyH_take (i := 6) (v := ?v6z12) rfl (by kernel_rfl) (by kernel_rfl) (by kernel_rfl) (fun _ _ _ h => h) (Or.inl ⟨by rfl, ?hy6z12⟩) (by assumption) ?rest6z12
      case hy6z12 =>
        intro w hSw
        dsimp only [RS] at hSw
        go_simp
        try with_reducible rfl
      simp only [Act.put, List.getElem_toArray, List.getElem_cons_succ, List.getElem_cons_zero, List.setIfInBounds_toArray, List.set_cons_zero, List.set_cons_succ]
      refine wpAnyH_take (i := 7) (v := ?v7z13) rfl (by kernel_rfl) (by kernel_rfl) (by kernel_rfl) (fun _ _ _ h => h) (Or.inl ⟨by rfl, ?hy7z13⟩) (by assumption) ?rest7z13
      case hy7z13 =>
        intro w hSw
        dsimp only [RS] at hSw
        go_simp
        try with_reducible rfl
      simp only [Act.put, List.getElem_toArray, List.getElem_cons_succ, List.getElem_cons_zero, List.setIfInBounds_toArray, List.set_cons_zero, List.set_cons_succ]
      refine wpAnyH_ready (rs := [9]) (by kernel_rfl) (by simp) ?_
      refine AllReadyH.cons rfl (fun K hK => ?_) AllReadyH.nil
      have e := hQ
      dsimp only [RQ] at e
      go_simp
      clear e
      have hT := hS.stored (u' := decB s1) (v' := decB s2) hQ
      have hP := hQ.stored (u' := decB s1) (v' := decB s2)
      refine hK.out _ _ hT (fun _ => ?_)
      clear hK K hS hQ
      have hS := hT
      try simp only [Act.put, List.setIfInBounds_toArray, List.set_cons_zero, List.set_cons_succ]
      refine wpAnyH_take (i := 10) (v := ?v10z14) rfl (by kernel_rfl) (by kernel_rfl) (by kernel_rfl) (fun _ _ _ h => h) (Or.inl ⟨by rfl, ?hy10z14⟩) (by assumption) ?rest10z14
      case hy10z14 =>
        intro w hSw
        dsimp only [RS] at hSw
        go_simp
        try with_reducible rfl
      simp only [Act.put, List.getElem_toArray, List.getElem_cons_succ, List.getElem_cons_zero, List.setIfInBounds_toArray, List.set_cons_zero, List.set_cons_succ]
      refine wpAnyH_done (by kernel_rfl) ?_ _
      refine NoPanic.normal ?_
      clear hS
      generalize World.setCell _ _ _ = W9 at hT hP ⊢
      have e := hT
      dsimp only [RS] at e
      have e' := hP
      dsimp only [RQ] at e'
      have FIN := Lib.hid (two_cells (x := .string (decB s1)) (y := .string (decB s2)) hT.2.2.2.1 hT.2.2.2.2.1)
      have FB := Lib.hid ((hT.2.2.2.2.2.2.2.out.2.2.1.setCell (p := ⟨w.heap.size + 1, 0, none⟩) (Nat.le_succ _) (.string (decB s1))).setCell (p := ⟨w.heap.size + 1, 1, none⟩) (Nat.le_succ _) (.string (decB s2)))
      clear hT hP
      go_wp2
      obtain ⟨e0, e1⟩ := FIN.out
      exact bodyPost_ret (v := .agg #[.string (decB s1), .string (decB s2)]) (by simp [results, Tryz.results25, go_sem, e0, e1]) rfl ⟨by rw [← ES1.out, ← ES2.out], FB.out⟩
  · go_simp
    have hQ := RQ.make hS
    have hT := hS.made (.cells #[.string ⟨#[]⟩, .string ⟨#[]⟩] 31)
    refine hK.out _ _ hT (fun _ => ?_)
    clear hK K hS
    have hS := hT
    clear hT
    try simp only [Act.put, List.setIfInBounds_toArray, List.set_cons_zero, List.set_cons_succ]
    generalize (WD).alloc (.cells #[.string ⟨#[]⟩, .string ⟨#[]⟩] 31) = WA at hQ hS  ⊢
    generalize World.heap (WD) = HH at hQ ⊢
    generalize HH.size = q at hQ ⊢
    refine wpAnyH_ready (rs := [1]) (by kernel_rfl) (by simp) ?_
    refine AllReadyH.cons rfl (fun K hK => ?_) AllReadyH.nil
    go_simp
    refine (Whole_c i _ HI.out).mono ?_
    rintro e wc ⟨a5, k5, c5, a6, k6, c6, rfl, l5, l6, bc⟩
    try go_simp
    have hT := hS.keep bc
    have hP := hQ.keep bc
    have L5 := Lib.hid l5
    have L6 := Lib.hid l6
    refine hK.out _ _ hT (fun _ => ?_)
    clear hK K hS bc l5 l6
    clear hQ
    have hQ := hP
    clear hP
    have hS := hT
    clear hT
    try simp only [Act.put, List.setIfInBounds_toArray, List.set_cons_zero, List.set_cons_succ]
    refine wpAnyH_ready (rs := [3]) (by kernel_rfl) (by simp) ?_
    refine AllReadyH.cons rfl (fun K hK => ?_) AllReadyH.nil
    go_simp
    refine (ROver_c a5 a6 a1 a2 c5 c6 c1 c2 k5 k6 k1 k2 i 1 n d _ L5.out L6.out hS.2.2.2.2.2.2.2.out.1 hS.2.2.2.2.2.2.2.out.2.1 P1.out P2.out).mono ?_
    rintro e wo ⟨a7, k7, c7, a8, k8, c8, rfl, l7, l8, bc⟩
    try go_simp
    rw [Nat.one_mul] at l8
    have hT := hS.keep bc
    have hP := hQ.keep bc
    have L7 := Lib.hid l7
    have L8 := Lib.hid l8
    refine hK.out _ _ hT (fun _ => ?_)
    clear hK K hS bc l7 l8 L5 L6
    clear hQ
    have hQ := hP
    clear hP
    have hS := hT
    clear hT
    try simp only [Act.put, List.setIfInBounds_toArray, List.set_cons_zero, List.set_cons_succ]
    refine wpAnyH_ready (rs := [4]) (by kernel_rfl) (by simp) ?_
    refine AllReadyH.cons rfl (fun K hK => ?_) AllReadyH.nil
    go_simp
    refine (RRatio_c a7 a8 c7 c8 k7 k8 (i * d) n _ L7.out L8.out H0.out (Go.Joins.tab_stays gPow HE.out hS.2.2.2.2.2.2.2.out.2.2.1 (Nat.le_refl _))).mono ?_
    rintro e wt ⟨rfl, bc⟩
    rw [E1.out, E2.out]
    try go_simp
    have hT := hS.keep bc
    have hP := hQ.keep bc
    refine hK.out _ _ hT (fun _ => ?_)
    clear hK K hS bc L7 L8
    clear hQ
    have hQ := hP
    clear hP
    have hS := hT
    clear hT
    try simp only [Act.put, List.setIfInBounds_toArray, List.set_cons_zero, List.set_cons_succ]
    refine wpAnyH_take (i := 5) (v := ?v5z15) rfl (by kernel_rfl) (by kernel_rfl) (by kernel_rfl) (fun _ _ _ h => h) (Or.inl ⟨by rfl, ?hy5z15⟩) (by assumption) ?rest5z15
    case hy5z15 =>
      intro w hSw
      dsimp only [RS] at hSw
      go_simp
      try with_reducible rfl
    simp only [Act.put, List.getElem_toArray, List.getElem_cons_succ, List.getElem_cons_zero, List.setIfInBounds_toArray, List.set_cons_zero, List.set_cons_succ]
    refine wpAnyH_take (i := 6) (v := ?v6z16) rfl (by kernel_rfl) (by kernel_rfl) (by kernel_rfl) (fun _ _ _ h => h) (Or.inl ⟨by rfl, ?hy6z16⟩) (by assumption) ?rest6z16
    case hy6z16 =>
      intro w hSw
      dsimp only [RS] at hSw
      go_simp
      try with_reducible rfl
    simp only [Act.put, List.getElem_toArray, List.getElem_cons_succ, List.getElem_cons_zero, List.setIfInBounds_toArray, List.set_cons_zero, List.set_cons_succ]
    refine wpAnyH_take (i := 7) (v := ?v7z17) rfl (by kernel_rfl) (by kernel_rfl) (by kernel_rfl) (fun _ _ _ h => h) (Or.inl ⟨by rfl, ?hy7z17⟩) (by assumption) ?rest7z17
    case hy7z17 =>
      intro w hSw
      dsimp only [RS] at hSw
      go_simp
      try with_reducible rfl
    simp only [Act.put, List.getElem_toArray, List.getElem_cons_succ, List.getElem_cons_zero, List.setIfInBounds_toArray, List.set_cons_zero, List.set_cons_succ]
    refine wpAnyH_ready (rs := [9]) (by kernel_rfl) (by simp) ?_
    refine AllReadyH.cons rfl (fun K hK => ?_) AllReadyH.nil
    have e := hQ
    dsimp only [RQ] at e
    go_simp
    clear e
    have hT := hS.stored (u' := decB s1) (v' := decB s2) hQ
    have hP := hQ.stored (u' := decB s1) (v' := decB s2)
    refine hK.out _ _ hT (fun _ => ?_)
    clear hK K hS hQ
    have hS := hT
    try simp only [Act.put, List.setIfInBounds_toArray, List.set_cons_zero, List.set_cons_succ]
    refine wpAnyH_take (i := 10) (v := ?v10z18) rfl (by kernel_rfl) (by kernel_rfl) (by kernel_rfl) (fun _ _ _ h => h) (Or.inl ⟨by rfl, ?hy10z18⟩) (by assumption) ?rest10z18
    case hy10z18 =>
      intro w hSw
      dsimp only [RS] at hSw
      go_simp
      try with_reducible rfl
    simp only [Act.put, List.getElem_toArray, List.getElem_cons_succ, List.getElem_cons_zero, List.setIfInBounds_toArray, List.set_cons_zero, List.set_cons_succ]
    refine wpAnyH_done (by kernel_rfl) ?_ _
    refine NoPanic.normal ?_
    clear hS
    generalize World.setCell _ _ _ = W9 at hT hP ⊢
    have e := hT
    dsimp only [RS] at e
    have e' := hP
    dsimp only [RQ] at e'
    have FIN := Lib.hid (two_cells (x := .string (decB s1)) (y := .string (decB s2)) hT.2.2.2.1 hT.2.2.2.2.1)
    have FB := Lib.hid ((hT.2.2.2.2.2.2.2.out.2.2.1.setCell (p := ⟨w.heap.size + 1, 0, none⟩) (Nat.le_succ _) (.string (decB s1))).setCell (p := ⟨w.heap.size + 1, 1, none⟩) (Nat.le_succ _) (.string (decB s2)))
    clear hT hP
    go_wp2
    obtain ⟨e0, e1⟩ := FIN.out
    exact bodyPost_ret (v := .agg #[.string (decB s1), .string (decB s2)]) (by simp [results, Tryz.results25, go_sem, e0, e1]) rfl ⟨by rw [← ES1.out, ← ES2.out], FB.out⟩
theorem rate_c (i : Nat) (a1 a2 : Option Addr) (c1 c2 k1 k2 n d : Nat) (w : World) (hi : i < 1000000000) (h1 : Sm w a1 k1 n) (h2 : Sm w a2 k2 d) (p1 : i * d < 1000000000) (hE : Pow w) :
    Calls Tryz.prog 25 #[.int .i64 i, .agg #[.bool false, .slice a1 k1 c1, .slice a2 k2 c2]] w (RtPost (i * d) n w) := by
  rcases Nat.eq_zero_or_pos n with h | h
  · subst h
    exact rate_zero i a1 a2 c1 c2 k1 k2 d w h1
  · exact rate_pos i a1 a2 c1 c2 k1 k2 n d w hi h h1 h2 p1 hE
end Go.Proofs.YtecbkfmdpgkdiaaGreatDoor
