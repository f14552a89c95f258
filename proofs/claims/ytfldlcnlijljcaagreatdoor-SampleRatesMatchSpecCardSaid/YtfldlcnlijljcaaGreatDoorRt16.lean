/-
  rate of the reference: a number over a fraction.
  Rates of the reference: its boxes.
  Rates of the reference: no case is eligible or not eligible.
-/
import Derived.Test.YtfldlcnlijljcaaGreatDoorRt15
import Derived.Test.YtfldlcnlijljcaaGreatDoorRt12
namespace Go.Proofs.YtfldlcnlijljcaaGreatDoor
open Go.RowKit

theorem rate_zero (i : Nat) (a1 a2 : Option Addr) (c1 c2 k1 k2 d : Nat) (w : World) (h1 : Sm w a1 k1 0) :
    Calls Tryz.prog 25 #[.int .i64 i, .agg #[.bool false, .slice a1 k1 c1, .slice a2 k2 c2]] w (RtPost (i * d) 0 w) := by
  have e1 : Hid ((⟨#[48]⟩ : ByteArray) = decB (rtN (i * d) 0)) := by unfold Hid decB rtN; rw [if_pos rfl, Lib.decDigits_one (by decide)]; rfl
  have e2 : Hid ((⟨#[49]⟩ : ByteArray) = decB (rtD (i * d) 0)) := by unfold Hid decB rtD; rw [if_pos rfl, Lib.decDigits_one (by decide)]; rfl
  obtain ⟨W0, hW0⟩ : ∃ W0, (w.alloc (.cells #[.bool false, .slice a1 k1 c1, .slice a2 k2 c2] 45)).alloc (.cells #[.string ⟨#[]⟩, .string ⟨#[]⟩] 31) = W0 := ⟨_, rfl⟩
  have B0 : Below w.heap.size w W0 := by rw [← hW0]; exact ((Below.refl _ _).alloc (Nat.le_refl _) _).alloc (by simp) _
  have x : W0.cell? ⟨w.heap.size, 0, none⟩ = some (.bool false) ∧ W0.cell? ⟨w.heap.size, 1, none⟩ = some (.slice a1 k1 c1) ∧ W0.cell? ⟨w.heap.size, 2, none⟩ = some (.slice a2 k2 c2) ∧
      W0.cell? ⟨w.heap.size + 1, 0, none⟩ = some (.string ⟨#[]⟩) ∧ W0.cell? ⟨w.heap.size + 1, 1, none⟩ = some (.string ⟨#[]⟩) ∧ W0.frozen? ⟨w.heap.size + 1, 0, none⟩ = false ∧ W0.frozen? ⟨w.heap.size + 1, 1, none⟩ = false ∧ w.heap.size + 2 ≤ W0.heap.size := by
    rw [← hW0]
    refine ⟨?_, ?_, ?_, ?_, ?_, ?_, ?_, by simp⟩
    all_goals simp [go_sem, World.cell?_alloc_past]
  obtain ⟨x0, x1, x2, y0, y1, f0, f1, sz⟩ := x
  have HB := Lib.hid B0
  have L1 := Lib.hid (h1.below B0)
  have SZ := Lib.hid sz
  clear h1 B0 sz
  go_enter Tryz.func25, Tryz.ntmps25
  go_wp2_with fail
  clear hW0
  refine (Zero_c a1 a2 c1 c2 k1 k2 0 W0 L1.out).mono ?_
  rintro e w1 ⟨rfl, b1⟩
  have s := SZ.out
  have z0 : w1.cell? ⟨w.heap.size + 1, 0, none⟩ = some (.string ⟨#[]⟩) := by rw [b1.cell (p := ⟨w.heap.size + 1, 0, none⟩) (by show w.heap.size + 1 < _; omega)]; exact y0
  have z1 : w1.cell? ⟨w.heap.size + 1, 1, none⟩ = some (.string ⟨#[]⟩) := by rw [b1.cell (p := ⟨w.heap.size + 1, 1, none⟩) (by show w.heap.size + 1 < _; omega)]; exact y1
  have g0 : w1.frozen? ⟨w.heap.size + 1, 0, none⟩ = false := by rw [b1.frozen (p := ⟨w.heap.size + 1, 0, none⟩) (by show w.heap.size + 1 < _; omega)]; exact f0
  have g1 : w1.frozen? ⟨w.heap.size + 1, 1, none⟩ = false := by rw [b1.frozen (p := ⟨w.heap.size + 1, 1, none⟩) (by show w.heap.size + 1 < _; omega)]; exact f1
  have FIN := Lib.hid (two_cells (x := .string ⟨#[48]⟩) (y := .string ⟨#[49]⟩) z0 z1)
  have B1 := Lib.hid (HB.out.trans (b1.mono HB.out.size))
  clear x0 x1 x2 y0 y1 f0 f1 s SZ b1 HB L1
  go_wp2
  have FB := (B1.out.setCell (p := ⟨w.heap.size + 1, 0, none⟩) (Nat.le_succ _) (.string ⟨#[48]⟩)).setCell (p := ⟨w.heap.size + 1, 1, none⟩) (Nat.le_succ _) (.string ⟨#[49]⟩)
  obtain ⟨q0, q1⟩ := FIN.out
  exact bodyPost_ret (v := .agg #[.string ⟨#[48]⟩, .string ⟨#[49]⟩]) (by simp [results, Tryz.results25, go_sem, q0, q1]) rfl ⟨by rw [← e1.out, ← e2.out], FB⟩
set_option maxHeartbeats 8000000 in
theorem rate_pos (i : Nat) (a1 a2 : Option Addr) (c1 c2 k1 k2 n d : Nat) (w : World) (hi : i < 1000000000) (h0 : 0 < n) (h1 : Sm w a1 k1 n) (h2 : Sm w a2 k2 d) (p1 : i * d < 1000000000) (hE : Pow w) :
    Calls Tryz.prog 25 #[.int .i64 i, .agg #[.bool false, .slice a1 k1 c1, .slice a2 k2 c2]] w (RtPost (i * d) n w) := by
  have E1 : Hid ((i * d) / Nat.gcd (i * d) n = rtN (i * d) n) := by unfold Hid rtN; rw [if_neg (by omega)]
  have E2 : Hid (n / Nat.gcd (i * d) n = rtD (i * d) n) := by unfold Hid rtD; rw [if_neg (by omega)]
  have HI := Lib.hid hi
  have H0 := Lib.hid h0
  have HE := Lib.hid hE
  have P1 := Lib.hid p1
  have P2 : Hid (1 * n < 1000000000) := by unfold Hid; rw [Nat.one_mul]; exact h1.lt
  have EZ : Hid (decide (n = 0) = false) := by unfold Hid; rw [decide_eq_false_iff_not]; omega
  obtain ⟨W0, hW0⟩ : ∃ W0, (w.alloc (.cells #[.bool false, .slice a1 k1 c1, .slice a2 k2 c2] 45)).alloc (.cells #[.string ⟨#[]⟩, .string ⟨#[]⟩] 31) = W0 := ⟨_, rfl⟩
  have R0 : RS w w.heap.size a1 a2 k1 c1 k2 c2 n d W0 := by
    have hb : Below w.heap.size w W0 := by rw [← hW0]; exact ((Below.refl _ _).alloc (Nat.le_refl _) _).alloc (by simp) _
    have x : W0.cell? ⟨w.heap.size, 0, none⟩ = some (.bool false) ∧ W0.cell? ⟨w.heap.size, 1, none⟩ = some (.slice a1 k1 c1) ∧ W0.cell? ⟨w.heap.size, 2, none⟩ = some (.slice a2 k2 c2) ∧
        W0.cell? ⟨w.heap.size + 1, 0, none⟩ = some (.string ⟨#[]⟩) ∧ W0.cell? ⟨w.heap.size + 1, 1, none⟩ = some (.string ⟨#[]⟩) ∧ W0.frozen? ⟨w.heap.size + 1, 0, none⟩ = false ∧ W0.frozen? ⟨w.heap.size + 1, 1, none⟩ = false ∧ w.heap.size + 2 ≤ W0.heap.size := by
      rw [← hW0]
      refine ⟨?_, ?_, ?_, ?_, ?_, ?_, ?_, by simp⟩
      all_goals simp [go_sem, World.cell?_alloc_past]
    obtain ⟨x0, x1, x2, y0, y1, f0, f1, sz⟩ := x
    exact ⟨x0, x1, x2, y0, y1, f0, f1, h1.below hb, h2.below hb, hb, by omega, by omega⟩
  have HR := Lib.hid R0
  clear h1 h2 hi h0 p1 hE
  dsimp only [RS] at R0
  go_enter Tryz.func25, Tryz.ntmps25
  go_wp2_with fail
  clear hW0 R0
  refine (Zero_c a1 a2 c1 c2 k1 k2 n W0 HR.out.2.2.2.2.2.2.2.out.1).mono ?_
  rw [EZ.out]
  rintro e w1 ⟨rfl, b1⟩
  have HR1 := Lib.hid (HR.out.keep b1)
  clear b1 HR
  have R1 := HR1.out
  dsimp only [RS] at R1
  obtain ⟨s1, hs1⟩ : ∃ s, rtN (i * d) n = s := ⟨_, rfl⟩
  obtain ⟨s2, hs2⟩ : ∃ s, rtD (i * d) n = s := ⟨_, rfl⟩
  rw [hs1] at E1
  rw [hs2] at E2
  have ES1 := Lib.hid hs1
  have ES2 := Lib.hid hs2
  clear hs1 hs2
  go_wp2_with fail
  clear R1
  have hS := HR1.out.keep (Below.refl _ _).drew
  clear HR1
  refine wp_region_noPanic ?_
  refine wp_region_held_drew (S := RS w w.heap.size a1 a2 k1 c1 k2 c2 n d) (by kernel_rfl) hS (fun hHeld => ?_)
  clear hHeld
  generalize w1.drew = WD at hS ⊢
  refine wpAnyH_take (i := 0) (v := ?v0z1) rfl (by kernel_rfl) (by kernel_rfl) (by kernel_rfl) (fun _ _ _ h => h) (Or.inl ⟨by rfl, ?hy0z1⟩) (by assumption) ?rest0z1
  case hy0z1 =>
    intro w hSw
    dsimp only [RS] at hSw
    go_simp
    try with_reducible rfl
  simp only [Act.put, List.getElem_toArray, List.getElem_cons_succ, List.getElem_cons_zero, List.setIfInBounds_toArray, List.set_cons_zero, List.set_cons_succ]
  refine wpAnyH_take (i := 2) (v := ?v2z2) rfl (by kernel_rfl) (by kernel_rfl) (by kernel_rfl) (fun _ _ _ h => h) (Or.inl ⟨by rfl, ?hy2z2⟩) (by assumption) ?rest2z2
  case hy2z2 =>
    intro w hSw
    dsimp only [RS] at hSw
    go_simp
    try with_reducible rfl
  simp only [Act.put, List.getElem_toArray, List.getElem_cons_succ, List.getElem_cons_zero, List.setIfInBounds_toArray, List.set_cons_zero, List.set_cons_succ]
  refine wpAnyH_ready (rs := [1, 8]) (by kernel_rfl) (by simp) ?_
  refine AllReadyH.cons rfl (fun K hK => ?_) (AllReadyH.cons rfl (fun K hK => ?_) AllReadyH.nil)
  · go_simp
    refine (Whole_c i _ HI.out).mono ?_
    rintro e wc ⟨a5, k5, c5, a6, k6, c6, rfl, l5, l6, bc⟩
    try go_simp
    have hT := hS.keep bc
    have L5 := Lib.hid l5
    have L6 := Lib.hid l6
    refine hK.out _ _ hT (fun _ => ?_)
    clear hK K hS bc l5 l6
    have hS := hT
    clear hT
    try simp only [Act.put, List.setIfInBounds_toArray, List.set_cons_zero, List.set_cons_succ]
    refine wpAnyH_ready (rs := [3, 8]) (by kernel_rfl) (by simp) ?_
    refine AllReadyH.cons rfl (fun K hK => ?_) (AllReadyH.cons rfl (fun K hK => ?_) AllReadyH.nil)
    · go_simp
      refine (ROver_c a5 a6 a1 a2 c5 c6 c1 c2 k5 k6 k1 k2 i 1 n d _ L5.out L6.out hS.2.2.2.2.2.2.2.out.1 hS.2.2.2.2.2.2.2.out.2.1 P1.out P2.out).mono ?_
      rintro e wo ⟨a7, k7, c7, a8, k8, c8, rfl, l7, l8, bc⟩
      try go_simp
      rw [Nat.one_mul] at l8
      have hT := hS.keep bc
      have L7 := Lib.hid l7
      have L8 := Lib.hid l8
      refine hK.out _ _ hT (fun _ => ?_)
      clear hK K hS bc l7 l8 L5 L6
      have hS := hT
      clear hT
      try simp only [Act.put, List.setIfInBounds_toArray, List.set_cons_zero, List.set_cons_succ]
      refine wpAnyH_ready (rs := [4, 8]) (by kernel_rfl) (by simp) ?_
      refine AllReadyH.cons rfl (fun K hK => ?_) (AllReadyH.cons rfl (fun K hK => ?_) AllReadyH.nil)
      · go_simp
        refine (RRatio_c a7 a8 c7 c8 k7 k8 (i * d) n _ L7.out L8.out H0.out (Go.Joins.tab_stays gPow HE.out hS.2.2.2.2.2.2.2.out.2.2.1 (Nat.le_refl _))).mono ?_
        rintro e wt ⟨rfl, bc⟩
        rw [E1.out, E2.out]
        try go_simp
        have hT := hS.keep bc
        refine hK.out _ _ hT (fun _ => ?_)
        clear hK K hS bc L7 L8
        have hS := hT
        clear hT
        try simp only [Act.put, List.setIfInBounds_toArray, List.set_cons_zero, List.set_cons_succ]
        refine wpAnyH_take (i := 5) (v := ?v5z3) rfl (by kernel_rfl) (by kernel_rfl) (by kernel_rfl) (fun _ _ _ h => h) (Or.inl ⟨by rfl, ?hy5z3⟩) (by assumption) ?rest5z3
        case hy5z3 =>
          intro w hSw
          dsimp only [RS] at hSw
          go_simp
          try with_reducible rfl
        simp only [Act.put, List.getElem_toArray, List.getElem_cons_succ, List.getElem_cons_zero, List.setIfInBounds_toArray, List.set_cons_zero, List.set_cons_succ]
        refine wpAnyH_take (i := 6) (v := ?v6z4) rfl (by kernel_rfl) (by kernel_rfl) (by kernel_rfl) (fun _ _ _ h => h) (Or.inl ⟨by rfl, ?hy6z4⟩) (by assumption) ?rest6z4
        case hy6z4 =>
          intro w hSw
          dsimp only [RS] at hSw
          go_simp
          try with_reducible rfl
        simp only [Act.put, List.getElem_toArray, List.getElem_cons_succ, List.getElem_cons_zero, List.setIfInBounds_toArray, List.set_cons_zero, List.set_cons_succ]
        refine wpAnyH_take (i := 7) (v := ?v7z5) rfl (by kernel_rfl) (by kernel_rfl) (by kernel_rfl) (fun _ _ _ h => h) (Or.inl ⟨by rfl, ?hy7z5⟩) (by assumption) ?rest7z5
        case hy7z5 =>
          intro w hSw
          dsimp only [RS] at hSw
          go_simp
          try with_reducible rfl
        simp only [Act.put, List.getElem_toArray, List.getElem_cons_succ, List.getElem_cons_zero, List.setIfInBounds_toArray, List.set_cons_zero, List.set_cons_succ]
        refine wpAnyH_ready (rs := [8]) (by kernel_rfl) (by simp) ?_
        refine AllReadyH.cons rfl (fun K hK => ?_) AllReadyH.nil
        go_simp
        have hQ := RQ.make hS
        have hT := hS.made (.cells #[.string ⟨#[]⟩, .string ⟨#[]⟩] 31)
        refine hK.out _ _ hT (fun _ => ?_)
        clear hK K hS
        have hS := hT
        clear hT
        try simp only [Act.put, List.setIfInBounds_toArray, List.set_cons_zero, List.set_cons_succ]
        generalize (wt).alloc (.cells #[.string ⟨#[]⟩, .string ⟨#[]⟩] 31) = WA at hQ hS  ⊢
        generalize World.heap (wt) = HH at hQ ⊢
        generalize HH.size = q at hQ ⊢
        refine wpAnyH_ready (rs := [9]) (by kernel_rfl) (by simp) ?_
        refine AllReadyH.cons rfl (fun K hK => ?_) AllReadyH.nil
        have e := hQ
        dsimp only [RQ] at e
        go_simp
        clear e
        have hT := hS.stored (u' := decB s1) (v' := decB s2) hQ
        have hP := hQ.stored (u' := decB s1) (v' := decB s2)
        refine hK.out _ _ hT (fun _ => ?_)
        clear hK K hS hQ
        have hS := hT
        try simp only [Act.put, List.setIfInBounds_toArray, List.set_cons_zero, List.set_cons_succ]
        refine wpAnyH_take (i := 10) (v := ?v10z6) rfl (by kernel_rfl) (by kernel_rfl) (by kernel_rfl) (fun _ _ _ h => h) (Or.inl ⟨by rfl, ?hy10z6⟩) (by assumption) ?rest10z6
        case hy10z6 =>
          intro w hSw
          dsimp only [RS] at hSw
          go_simp
          try with_reducible rfl
        simp only [Act.put, List.getElem_toArray, List.getElem_cons_succ, List.getElem_cons_zero, List.setIfInBounds_toArray, List.set_cons_zero, List.set_cons_succ]
        refine wpAnyH_done (by kernel_rfl) ?_ _
        refine NoPanic.normal ?_
        clear hS
        generalize World.setCell _ _ _ = W9 at hT hP ⊢
        have e := hT
        dsimp only [RS] at e
        have e' := hP
        dsimp only [RQ] at e'
        have FIN := Lib.hid (two_cells (x := .string (decB s1)) (y := .string (decB s2)) hT.2.2.2.1 hT.2.2.2.2.1)
        have FB := Lib.hid ((hT.2.2.2.2.2.2.2.out.2.2.1.setCell (p := ⟨w.heap.size + 1, 0, none⟩) (Nat.le_succ _) (.string (decB s1))).setCell (p := ⟨w.heap.size + 1, 1, none⟩) (Nat.le_succ _) (.string (decB s2)))
        clear hT hP
        go_wp2
        obtain ⟨e0, e1⟩ := FIN.out
        exact bodyPost_ret (v := .agg #[.string (decB s1), .string (decB s2)]) (by simp [results, Tryz.results25, go_sem, e0, e1]) rfl ⟨by rw [← ES1.out, ← ES2.out], FB.out⟩
      · go_simp
        have hQ := RQ.make hS
        have hT := hS.made (.cells #[.string ⟨#[]⟩, .string ⟨#[]⟩] 31)
        have L7 := Lib.hid (L7.out.below (bel_one' _ (.cells #[.string ⟨#[]⟩, .string ⟨#[]⟩] 31)))
        have L8 := Lib.hid (L8.out.below (bel_one' _ (.cells #[.string ⟨#[]⟩, .string ⟨#[]⟩] 31)))
        refine hK.out _ _ hT (fun _ => ?_)
        clear hK K hS
        have hS := hT
        clear hT
        try simp only [Act.put, List.setIfInBounds_toArray, List.set_cons_zero, List.set_cons_succ]
        generalize (wo).alloc (.cells #[.string ⟨#[]⟩, .string ⟨#[]⟩] 31) = WA at hQ hS L7 L8 ⊢
        generalize World.heap (wo) = HH at hQ ⊢
        generalize HH.size = q at hQ ⊢
        refine wpAnyH_ready (rs := [4]) (by kernel_rfl) (by simp) ?_
        refine AllReadyH.cons rfl (fun K hK => ?_) AllReadyH.nil
        go_simp
        refine (RRatio_c a7 a8 c7 c8 k7 k8 (i * d) n _ L7.out L8.out H0.out (Go.Joins.tab_stays gPow HE.out hS.2.2.2.2.2.2.2.out.2.2.1 (Nat.le_refl _))).mono ?_
        rintro e wt ⟨rfl, bc⟩
        rw [E1.out, E2.out]
        try go_simp
        have hT := hS.keep bc
        have hP := hQ.keep bc
        refine hK.out _ _ hT (fun _ => ?_)
        clear hK K hS bc L7 L8
        clear hQ
        have hQ := hP
        clear hP
        have hS := hT
        clear hT
        try simp only [Act.put, List.setIfInBounds_toArray, List.set_cons_zero, List.set_cons_succ]
        refine wpAnyH_take (i := 5) (v := ?v5z7) rfl (by kernel_rfl) (by kernel_rfl) (by kernel_rfl) (fun _ _ _ h => h) (Or.inl ⟨by rfl, ?hy5z7⟩) (by assumption) ?rest5z7
        case hy5z7 =>
          intro w hSw
          dsimp only [RS] at hSw
          go_simp
          try with_reducible rfl
        simp only [Act.put, List.getElem_toArray, List.getElem_cons_succ, List.getElem_cons_zero, List.setIfInBounds_toArray, List.set_cons_zero, List.set_cons_succ]
        refine wpAnyH_take (i := 6) (v := ?v6z8) rfl (by kernel_rfl) (by kernel_rfl) (by kernel_rfl) (fun _ _ _ h => h) (Or.inl ⟨by rfl, ?hy6z8⟩) (by assumption) ?rest6z8
        case hy6z8 =>
          intro w hSw
          dsimp only [RS] at hSw
          go_simp
          try with_reducible rfl
        simp only [Act.put, List.getElem_toArray, List.getElem_cons_succ, List.getElem_cons_zero, List.setIfInBounds_toArray, List.set_cons_zero, List.set_cons_succ]
        refine wpAnyH_take (i := 7) (v := ?v7z9) rfl (by kernel_rfl) (by kernel_rfl) (by kernel_rfl) (fun _ _ _ h => h) (Or.inl ⟨by rfl, ?hy7z9⟩) (by assumption) ?rest7z9
        case hy7z9 =>
          intro w hSw
          dsimp only [RS] at hSw
          go_simp
          try with_reducible rfl
        simp only [Act.put, List.getElem_toArray, List.getElem_cons_succ, List.getElem_cons_zero, List.setIfInBounds_toArray, List.set_cons_zero, List.set_cons_succ]
        refine wpAnyH_ready (rs := [9]) (by kernel_rfl) (by simp) ?_
        refine AllReadyH.cons rfl (fun K hK => ?_) AllReadyH.nil
        have e := hQ
        dsimp only [RQ] at e
        go_simp
        clear e
        have hT := hS.stored (u' := decB s1) (v' := decB s2) hQ
        have hP := hQ.stored (u' := decB s1) (v' := decB s2)
        refine hK.out _ _ hT (fun _ => ?_)
        clear hK K hS hQ
        have hS := hT
        try simp only [Act.put, List.setIfInBounds_toArray, List.set_cons_zero, List.set_cons_succ]
        refine wpAnyH_take (i := 10) (v := ?v10z10) rfl (by kernel_rfl) (by kernel_rfl) (by kernel_rfl) (fun _ _ _ h => h) (Or.inl ⟨by rfl, ?hy10z10⟩) (by assumption) ?rest10z10
        case hy10z10 =>
          intro w hSw
          dsimp only [RS] at hSw
          go_simp
          try with_reducible rfl
        simp only [Act.put, List.getElem_toArray, List.getElem_cons_succ, List.getElem_cons_zero, List.setIfInBounds_toArray, List.set_cons_zero, List.set_cons_succ]
        refine wpAnyH_done (by kernel_rfl) ?_ _
        refine NoPanic.normal ?_
        clear hS
        generalize World.setCell _ _ _ = W9 at hT hP ⊢
        have e := hT
        dsimp only [RS] at e
        have e' := hP
        dsimp only [RQ] at e'
        have FIN := Lib.hid (two_cells (x := .string (decB s1)) (y := .string (decB s2)) hT.2.2.2.1 hT.2.2.2.2.1)
        have FB := Lib.hid ((hT.2.2.2.2.2.2.2.out.2.2.1.setCell (p := ⟨w.heap.size + 1, 0, none⟩) (Nat.le_succ _) (.string (decB s1))).setCell (p := ⟨w.heap.size + 1, 1, none⟩) (Nat.le_succ _) (.string (decB s2)))
        clear hT hP
        go_wp2
        obtain ⟨e0, e1⟩ := FIN.out
        exact bodyPost_ret (v := .agg #[.string (decB s1), .string (decB s2)]) (by simp [results, Tryz.results25, go_sem, e0, e1]) rfl ⟨by rw [← ES1.out, ← ES2.out], FB.out⟩
    · go_simp
      have hQ := RQ.make hS
      have hT := hS.made (.cells #[.string ⟨#[]⟩, .string ⟨#[]⟩] 31)
      have L5 := Lib.hid (L5.out.below (bel_one' _ (.cells #[.string ⟨#[]⟩, .string ⟨#[]⟩] 31)))
      have L6 := Lib.hid (L6.out.below (bel_one' _ (.cells #[.string ⟨#[]⟩, .string ⟨#[]⟩] 31)))
      refine hK.out _ _ hT (fun _ => ?_)
      clear hK K hS
      have hS := hT
      clear hT
      try simp only [Act.put, List.setIfInBounds_toArray, List.set_cons_zero, List.set_cons_succ]
      generalize (wc).alloc (.cells #[.string ⟨#[]⟩, .string ⟨#[]⟩] 31) = WA at hQ hS L5 L6 ⊢
      generalize World.heap (wc) = HH at hQ ⊢
      generalize HH.size = q at hQ ⊢
      refine wpAnyH_ready (rs := [3]) (by kernel_rfl) (by simp) ?_
      refine AllReadyH.cons rfl (fun K hK => ?_) AllReadyH.nil
      go_simp
      refine (ROver_c a5 a6 a1 a2 c5 c6 c1 c2 k5 k6 k1 k2 i 1 n d _ L5.out L6.out hS.2.2.2.2.2.2.2.out.1 hS.2.2.2.2.2.2.2.out.2.1 P1.out P2.out).mono ?_
      rintro e wo ⟨a7, k7, c7, a8, k8, c8, rfl, l7, l8, bc⟩
      try go_simp
      rw [Nat.one_mul] at l8
      have hT := hS.keep bc
      have hP := hQ.keep bc
      have L7 := Lib.hid l7
      have L8 := Lib.hid l8
      refine hK.out _ _ hT (fun _ => ?_)
      clear hK K hS bc l7 l8 L5 L6
      clear hQ
      have hQ := hP
      clear hP
      have hS := hT
      clear hT
      try simp only [Act.put, List.setIfInBounds_toArray, List.set_cons_zero, List.set_cons_succ]
      refine wpAnyH_ready (rs := [4]) (by kernel_rfl) (by simp) ?_
      refine AllReadyH.cons rfl (fun K hK => ?_) AllReadyH.nil
      go_simp
      refine (RRatio_c a7 a8 c7 c8 k7 k8 (i * d) n _ L7.out L8.out H0.out (Go.Joins.tab_stays gPow HE.out hS.2.2.2.2.2.2.2.out.2.2.1 (Nat.le_refl _))).mono ?_
      rintro e wt ⟨rfl, bc⟩
      rw [E1.out, E2.out]
      try go_simp
      have hT := hS.keep bc
      have hP := hQ.keep bc
      refine hK.out _ _ hT (fun _ => ?_)
      clear hK K hS bc L7 L8
      clear hQ
      have hQ := hP
      clear hP
      have hS := hT
      clear hT
      try simp only [Act.put, List.setIfInBounds_toArray, List.set_cons_zero, List.set_cons_succ]
      refine wpAnyH_take (i := 5) (v := ?v5z11) rfl (by kernel_rfl) (by kernel_rfl) (by kernel_rfl) (fun _ _ _ h => h) (Or.inl ⟨by rfl, ?hy5z11⟩) (by assumption) ?rest5z11
      case hy5z11 =>
        intro w hSw
        dsimp only [RS] at hSw
        go_simp
        try with_reducible rfl
      simp only [Act.put, List.getElem_toArray, List.getElem_cons_succ, List.getElem_cons_zero, List.setIfInBounds_toArray, List.set_cons_zero, List.set_cons_succ]
      refine wpAnyH_take (i := 6) (v := ?v6z12) rfl (by kernel_rfl) (by kernel_rfl) (by kernel_rfl) (fun _ _ _ h => h) (Or.inl ⟨by rfl, ?hy6z12⟩) (by assumption) ?rest6z12
      case hy6z12 =>
        intro w hSw
        dsimp only [RS] at hSw
        go_simp
        try with_reducible rfl
      simp only [Act.put, List.getElem_toArray, List.getElem_cons_succ, List.getElem_cons_zero, List.setIfInBounds_toArray, List.set_cons_zero, List.set_cons_succ]
      refine wpAnyH_take (i := 7) (v := ?v7z13) rfl (by kernel_rfl) (by kernel_rfl) (by kernel_rfl) (fun _ _ _ h => h) (Or.inl ⟨by rfl, ?hy7z13⟩) (by assumption) ?rest7z13
      case hy7z13 =>
        intro w hSw
        dsimp only [RS] at hSw
        go_simp
        try with_reducible rfl
      simp only [Act.put, List.getElem_toArray, List.getElem_cons_succ, List.getElem_cons_zero, List.setIfInBounds_toArray, List.set_cons_zero, List.set_cons_succ]
      refine wpAnyH_ready (rs := [9]) (by kernel_rfl) (by simp) ?_
      refine AllReadyH.cons rfl (fun K hK => ?_) AllReadyH.nil
      have e := hQ
      dsimp only [RQ] at e
      go_simp
      clear e
      have hT := hS.stored (u' := decB s1) (v' := decB s2) hQ
      have hP := hQ.stored (u' := decB s1) (v' := decB s2)
      refine hK.out _ _ hT (fun _ => ?_)
      clear hK K hS hQ
      have hS := hT
      try simp only [Act.put, List.setIfInBounds_toArray, List.set_cons_zero, List.set_cons_succ]
      refine wpAnyH_take (i := 10) (v := ?v10z14) rfl (by kernel_rfl) (by kernel_rfl) (by kernel_rfl) (fun _ _ _ h => h) (Or.inl ⟨by rfl, ?hy10z14⟩) (by assumption) ?rest10z14
      case hy10z14 =>
        intro w hSw
        dsimp only [RS] at hSw
        go_simp
        try with_reducible rfl
      simp only [Act.put, List.getElem_toArray, List.getElem_cons_succ, List.getElem_cons_zero, List.setIfInBounds_toArray, List.set_cons_zero, List.set_cons_succ]
      refine wpAnyH_done (by kernel_rfl) ?_ _
      refine NoPanic.normal ?_
      clear hS
      generalize World.setCell _ _ _ = W9 at hT hP ⊢
      have e := hT
      dsimp only [RS] at e
      have e' := hP
      dsimp only [RQ] at e'
      have FIN := Lib.hid (two_cells (x := .string (decB s1)) (y := .string (decB s2)) hT.2.2.2.1 hT.2.2.2.2.1)
      have FB := Lib.hid ((hT.2.2.2.2.2.2.2.out.2.2.1.setCell (p := ⟨w.heap.size + 1, 0, none⟩) (Nat.le_succ _) (.string (decB s1))).setCell (p := ⟨w.heap.size + 1, 1, none⟩) (Nat.le_succ _) (.string (decB s2)))
      clear hT hP
      go_wp2
      obtain ⟨e0, e1⟩ := FIN.out
      exact bodyPost_ret (v := .agg #[.string (decB s1), .string (decB s2)]) (by simp [results, Tryz.results25, go_sem, e0, e1]) rfl ⟨by rw [← ES1.out, ← ES2.out], FB.out⟩
  · go_simp
    have hQ := RQ.make hS
    have hT := hS.made (.cells #[.string ⟨#[]⟩, .string ⟨#[]⟩] 31)
    refine hK.out _ _ hT (fun _ => ?_)
    clear hK K hS
    have hS := hT
    clear hT
    try simp only [Act.put, List.setIfInBounds_toArray, List.set_cons_zero, List.set_cons_succ]
    generalize (WD).alloc (.cells #[.string ⟨#[]⟩, .string ⟨#[]⟩] 31) = WA at hQ hS  ⊢
    generalize World.heap (WD) = HH at hQ ⊢
    generalize HH.size = q at hQ ⊢
    refine wpAnyH_ready (rs := [1]) (by kernel_rfl) (by simp) ?_
    refine AllReadyH.cons rfl (fun K hK => ?_) AllReadyH.nil
    go_simp
    refine (Whole_c i _ HI.out).mono ?_
    rintro e wc ⟨a5, k5, c5, a6, k6, c6, rfl, l5, l6, bc⟩
    try go_simp
    have hT := hS.keep bc
    have hP := hQ.keep bc
    have L5 := Lib.hid l5
    have L6 := Lib.hid l6
    refine hK.out _ _ hT (fun _ => ?_)
    clear hK K hS bc l5 l6
    clear hQ
    have hQ := hP
    clear hP
    have hS := hT
    clear hT
    try simp only [Act.put, List.setIfInBounds_toArray, List.set_cons_zero, List.set_cons_succ]
    refine wpAnyH_ready (rs := [3]) (by kernel_rfl) (by simp) ?_
    refine AllReadyH.cons rfl (fun K hK => ?_) AllReadyH.nil
    go_simp
    refine (ROver_c a5 a6 a1 a2 c5 c6 c1 c2 k5 k6 k1 k2 i 1 n d _ L5.out L6.out hS.2.2.2.2.2.2.2.out.1 hS.2.2.2.2.2.2.2.out.2.1 P1.out P2.out).mono ?_
    rintro e wo ⟨a7, k7, c7, a8, k8, c8, rfl, l7, l8, bc⟩
    try go_simp
    rw [Nat.one_mul] at l8
    have hT := hS.keep bc
    have hP := hQ.keep bc
    have L7 := Lib.hid l7
    have L8 := Lib.hid l8
    refine hK.out _ _ hT (fun _ => ?_)
    clear hK K hS bc l7 l8 L5 L6
    clear hQ
    have hQ := hP
    clear hP
    have hS := hT
    clear hT
    try simp only [Act.put, List.setIfInBounds_toArray, List.set_cons_zero, List.set_cons_succ]
    refine wpAnyH_ready (rs := [4]) (by kernel_rfl) (by simp) ?_
    refine AllReadyH.cons rfl (fun K hK => ?_) AllReadyH.nil
    go_simp
    refine (RRatio_c a7 a8 c7 c8 k7 k8 (i * d) n _ L7.out L8.out H0.out (Go.Joins.tab_stays gPow HE.out hS.2.2.2.2.2.2.2.out.2.2.1 (Nat.le_refl _))).mono ?_
    rintro e wt ⟨rfl, bc⟩
    rw [E1.out, E2.out]
    try go_simp
    have hT := hS.keep bc
    have hP := hQ.keep bc
    refine hK.out _ _ hT (fun _ => ?_)
    clear hK K hS bc L7 L8
    clear hQ
    have hQ := hP
    clear hP
    have hS := hT
    clear hT
    try simp only [Act.put, List.setIfInBounds_toArray, List.set_cons_zero, List.set_cons_succ]
    refine wpAnyH_take (i := 5) (v := ?v5z15) rfl (by kernel_rfl) (by kernel_rfl) (by kernel_rfl) (fun _ _ _ h => h) (Or.inl ⟨by rfl, ?hy5z15⟩) (by assumption) ?rest5z15
    case hy5z15 =>
      intro w hSw
      dsimp only [RS] at hSw
      go_simp
      try with_reducible rfl
    simp only [Act.put, List.getElem_toArray, List.getElem_cons_succ, List.getElem_cons_zero, List.setIfInBounds_toArray, List.set_cons_zero, List.set_cons_succ]
    refine wpAnyH_take (i := 6) (v := ?v6z16) rfl (by kernel_rfl) (by kernel_rfl) (by kernel_rfl) (fun _ _ _ h => h) (Or.inl ⟨by rfl, ?hy6z16⟩) (by assumption) ?rest6z16
    case hy6z16 =>
      intro w hSw
      dsimp only [RS] at hSw
      go_simp
      try with_reducible rfl
    simp only [Act.put, List.getElem_toArray, List.getElem_cons_succ, List.getElem_cons_zero, List.setIfInBounds_toArray, List.set_cons_zero, List.set_cons_succ]
    refine wpAnyH_take (i := 7) (v := ?v7z17) rfl (by kernel_rfl) (by kernel_rfl) (by kernel_rfl) (fun _ _ _ h => h) (Or.inl ⟨by rfl, ?hy7z17⟩) (by assumption) ?rest7z17
    case hy7z17 =>
      intro w hSw
      dsimp only [RS] at hSw
      go_simp
      try with_reducible rfl
    simp only [Act.put, List.getElem_toArray, List.getElem_cons_succ, List.getElem_cons_zero, List.setIfInBounds_toArray, List.set_cons_zero, List.set_cons_succ]
    refine wpAnyH_ready (rs := [9]) (by kernel_rfl) (by simp) ?_
    refine AllReadyH.cons rfl (fun K hK => ?_) AllReadyH.nil
    have e := hQ
    dsimp only [RQ] at e
    go_simp
    clear e
    have hT := hS.stored (u' := decB s1) (v' := decB s2) hQ
    have hP := hQ.stored (u' := decB s1) (v' := decB s2)
    refine hK.out _ _ hT (fun _ => ?_)
    clear hK K hS hQ
    have hS := hT
    try simp only [Act.put, List.setIfInBounds_toArray, List.set_cons_zero, List.set_cons_succ]
    refine wpAnyH_take (i := 10) (v := ?v10z18) rfl (by kernel_rfl) (by kernel_rfl) (by kernel_rfl) (fun _ _ _ h => h) (Or.inl ⟨by rfl, ?hy10z18⟩) (by assumption) ?rest10z18
    case hy10z18 =>
      intro w hSw
      dsimp only [RS] at hSw
      go_simp
      try with_reducible rfl
    simp only [Act.put, List.getElem_toArray, List.getElem_cons_succ, List.getElem_cons_zero, List.setIfInBounds_toArray, List.set_cons_zero, List.set_cons_succ]
    refine wpAnyH_done (by kernel_rfl) ?_ _
    refine NoPanic.normal ?_
    clear hS
    generalize World.setCell _ _ _ = W9 at hT hP ⊢
    have e := hT
    dsimp only [RS] at e
    have e' := hP
    dsimp only [RQ] at e'
    have FIN := Lib.hid (two_cells (x := .string (decB s1)) (y := .string (decB s2)) hT.2.2.2.1 hT.2.2.2.2.1)
    have FB := Lib.hid ((hT.2.2.2.2.2.2.2.out.2.2.1.setCell (p := ⟨w.heap.size + 1, 0, none⟩) (Nat.le_succ _) (.string (decB s1))).setCell (p := ⟨w.heap.size + 1, 1, none⟩) (Nat.le_succ _) (.string (decB s2)))
    clear hT hP
    go_wp2
    obtain ⟨e0, e1⟩ := FIN.out
    exact bodyPost_ret (v := .agg #[.string (decB s1), .string (decB s2)]) (by simp [results, Tryz.results25, go_sem, e0, e1]) rfl ⟨by rw [← ES1.out, ← ES2.out], FB.out⟩
theorem rate_c (i : Nat) (a1 a2 : Option Addr) (c1 c2 k1 k2 n d : Nat) (w : World) (hi : i < 1000000000) (h1 : Sm w a1 k1 n) (h2 : Sm w a2 k2 d) (p1 : i * d < 1000000000) (hE : Pow w) :
    Calls Tryz.prog 25 #[.int .i64 i, .agg #[.bool false, .slice a1 k1 c1, .slice a2 k2 c2]] w (RtPost (i * d) n w) := by
  rcases Nat.eq_zero_or_pos n with h | h
  · subst h
    exact rate_zero i a1 a2 c1 c2 k1 k2 d w h1
  · exact rate_pos i a1 a2 c1 c2 k1 k2 n d w hi h h1 h2 p1 hE
end Go.Proofs.YtfldlcnlijljcaaGreatDoor
namespace Go.Proofs.YtfldlcnlijljcaaGreatDoor
open Go.RowKit

/-- The box of the estimated number. -/
def Eb (x : Nat) (v1 v2 : Value) (W : World) : Prop := W.cell? ⟨x, 0, none⟩ = some (.bool false) ∧ W.cell? ⟨x, 1, none⟩ = some v1 ∧ W.cell? ⟨x, 2, none⟩ = some v2
theorem Eb.keep {x : Nat} {v1 v2 : Value} {W W' : World} (h : Eb x v1 v2 W) (hb : Below W.heap.size W W') (hx : x < W.heap.size) : Eb x v1 v2 W' :=
  ⟨(hb.cell (p := ⟨x, 0, none⟩) hx).trans h.1, (hb.cell (p := ⟨x, 1, none⟩) hx).trans h.2.1, (hb.cell (p := ⟨x, 2, none⟩) hx).trans h.2.2⟩
/-- The boxes of Rates in the reference. -/
structure Rf (w : World) (l : List Int) (x : Nat) (a : Option Addr) (k c : Nat) (b : Option Addr) (m c2 n d : Nat) (W : World) : Prop where
  lp : Lp w l l.length W
  est : Eb x (.slice a k c) (.slice b m c2) W
  fz : W.frozen? ⟨x, 0, none⟩ = false ∧ W.frozen? ⟨x, 1, none⟩ = false ∧ W.frozen? ⟨x, 2, none⟩ = false
  lo : w.heap.size + 2 ≤ x
  hi : x < W.heap.size
  s1 : Sm W a k n
  s2 : Sm W b m d
theorem Rf.keep {w : World} {l : List Int} {x : Nat} {a : Option Addr} {k c : Nat} {b : Option Addr} {m c2 n d : Nat} {W W' : World} (h : Rf w l x a k c b m c2 n d W) (hb : Below W.heap.size W W') : Rf w l x a k c b m c2 n d W' :=
  ⟨h.lp.keep hb, h.est.keep hb h.hi, ⟨(hb.frozen (p := ⟨x, 0, none⟩) h.hi).trans h.fz.1, (hb.frozen (p := ⟨x, 1, none⟩) h.hi).trans h.fz.2.1, (hb.frozen (p := ⟨x, 2, none⟩) h.hi).trans h.fz.2.2⟩, h.lo, Nat.lt_of_lt_of_le h.hi hb.size, h.s1.below hb, h.s2.below hb⟩
/-- The box of the estimated number is stored anew. -/
theorem Rf.stored {w : World} {l : List Int} {x : Nat} {a : Option Addr} {k c : Nat} {b : Option Addr} {m c2 n d : Nat} {W : World} (h : Rf w l x a k c b m c2 n d W) {a' b' : Option Addr} {k' c' m' c2' n' d' : Nat} (l1 : Sm W a' k' n') (l2 : Sm W b' m' d') :
    Rf w l x a' k' c' b' m' c2' n' d' (set3 W x (.bool false) (.slice a' k' c') (.slice b' m' c2')) := by
  have lo := h.lo
  have t := set3_cells (x := .bool false) (y := .slice a' k' c') (z := .slice b' m' c2') h.est.1 h.est.2.1 h.est.2.2
  refine ⟨⟨fun j hj => ⟨(set3_other (by omega)).trans (h.lp.tl j hj).1, ?_⟩, fun j hj => ⟨(set3_other (by omega)).trans (h.lp.box j hj).1, ?_⟩, set3_below h.lp.bel (by omega) _ _ _, ?_⟩, ⟨t.1, t.2.1, t.2.2⟩, ?_, lo, ?_, ?_, ?_⟩
  · unfold set3; simpa using (h.lp.tl j hj).2
  · unfold set3; simpa using (h.lp.box j hj).2
  · unfold set3; simpa using h.lp.size
  · unfold set3; simpa using h.fz
  · unfold set3; simpa using h.hi
  · exact set3_sm h.est.1 h.est.2.1 h.est.2.2 (fun m e => by cases e) (fun m e => by cases e) (fun m e => by cases e) l1
  · exact set3_sm h.est.1 h.est.2.1 h.est.2.2 (fun m e => by cases e) (fun m e => by cases e) (fun m e => by cases e) l2
theorem rate1_c (i : Nat) (a1 a2 : Option Addr) (c1 c2 k1 k2 n : Nat) (w : World) (hi : i < 1000000000) (h1 : Sm w a1 k1 n) (h2 : Sm w a2 k2 1) (hE : Pow w) :
    Calls Tryz.prog 25 #[.int .i64 i, .agg #[.bool false, .slice a1 k1 c1, .slice a2 k2 c2]] w (RtPost i n w) := by
  have t := rate_c i a1 a2 c1 c2 k1 k2 n 1 w hi h1 h2 (by rw [Nat.mul_one]; exact hi) hE
  rw [Nat.mul_one] at t
  exact t
/-- The two counters that are read between the calls. -/
def Sq (g : Nat) (x y : Nat) (W : World) : Prop := W.cell? ⟨g + 1, 2, none⟩ = some (.int .i64 x) ∧ W.cell? ⟨g + 1, 7, none⟩ = some (.int .i64 y)
theorem Sq.keep {g x y : Nat} {W W' : World} (h : Sq g x y W) (hb : Below W.heap.size W W') (hg : g + 1 < W.heap.size) : Sq g x y W' :=
  ⟨(hb.cell (p := ⟨g + 1, 2, none⟩) hg).trans h.1, (hb.cell (p := ⟨g + 1, 7, none⟩) hg).trans h.2⟩
end Go.Proofs.YtfldlcnlijljcaaGreatDoor
namespace Go.Proofs.YtfldlcnlijljcaaGreatDoor
open Go.RowKit

set_option maxRecDepth 100000 in
set_option maxHeartbeats 5000000 in
theorem RRates_z (a : Option Addr) (c : Nat) (l : List Int) (w : World) (h : Rd w a l) (hE : Pow w) (hk0 : KN l = 0) : Calls Tryz.prog 13 #[.slice a l.length c] w (RtsPost l w) := by
  have h9 := h.1
  have HPW := Lib.hid hE
  clear hE
  by_cases hn : l.length ≤ 5000
  · obtain ⟨W0, hW0⟩ : ∃ W0, mk0 w = W0 := ⟨_, rfl⟩
    have H0 := Lib.hid (mk0_lp w l)
    rw [hW0] at H0
    unfold mk0 at hW0
    have H := Lib.hid h
    have HN := Lib.hid hn
    clear h
    go_enter Tryz.func13, Tryz.ntmps13
    go_wp2_with fail
    clear hW0
    go_loopw [21] (fun i wr => ∃ k : Nat, k ≤ l.length ∧ i = .int .i64 k ∧ Hid (Lp w l k wr ∧ ∀ j, j < k → isOc (fn l j))) (fun i _ => l.length - (intOf i).toNat)
    case atStart => exact ⟨0, Nat.zero_le _, rfl, H0.out, fun j hj => by omega⟩
    case round =>
      obtain ⟨k, hk, rfl, hL⟩ := hrel
      by_cases hlt : k < l.length
      · have hlt' : (k : Int) < (l.length : Int) := by omega
        obtain ⟨b, off, rfl, hc⟩ := (H.out.below hL.out.1.bel).at_ hlt
        by_cases hx : isOc (fn l k)
        · have dx : decide (isOc (fn l k)) = true := decide_eq_true hx
          obtain ⟨m, hm⟩ : ∃ m : Nat, fn l k = (m : Nat) := ⟨(fn l k).toNat, by unfold isOc at hx; omega⟩
          have hm8 : m < 8 := by unfold isOc at hx; omega
          have hm8' : (m : Int) < 8 := by omega
          have NX := Lib.hid (hL.out.1.next hm8 hm)
          obtain ⟨q1, q2⟩ := hL.out.1.tl m hm8
          have hcc := cn_le (fn l) (m : Nat) k
          rw [hm] at hc dx
          have HO := Lib.hid (show ∀ j, j < k + 1 → isOc (fn l j) from fun j hj => by rcases Nat.lt_succ_iff_lt_or_eq.1 hj with e | e; exact hL.out.2 j e; rw [e]; exact hx)
          clear hx hm
          generalize cn (fn l) (m : Nat) k = cc at q1 NX hcc
          have hcc' : (cc : Int) ≤ 5000 := by omega
          go_wp2_with (go_at_call 15; refine (withinOc_c _ _).mono ?_; rw [dx]; rintro e w' ⟨rfl, rfl⟩)
          go_roundw
          case rel => exact ⟨k + 1, by omega, by go_num, NX.out, HO.out⟩
          case measure => simp [intOf]; omega
        · have dx : decide (isOc (fn l k)) = false := decide_eq_false hx
          have E1 : Hid (ratesV l = _) := ratesV_no (fun h => hx (h.2 k hlt))
          have E2 := Lib.hid (rf_kind HN.out (fun h => hx (h k hlt)))
          have FIN := Lib.hid (set14_fin hL.out.1.box hL.out.1.bel (Nat.le_refl _) (.string ⟨#[]⟩) (.string ⟨#[]⟩) (.string ⟨#[]⟩) (.string ⟨#[]⟩) (.string ⟨#[]⟩) (.string ⟨#[]⟩) (.string ⟨#[]⟩) (.string ⟨#[]⟩) (.string ⟨#[]⟩) (.string ⟨#[]⟩) (.string ⟨#[]⟩) (.string ⟨#[]⟩) (.string ⟨#[]⟩) (.string ⟨#[]⟩))
          have R := hL.out.1.box.all
          clear hx
          go_wp2_with (go_at_call 15; refine (withinOc_c _ _).mono ?_; rw [dx]; rintro e w' ⟨rfl, rfl⟩)
          clear R
          obtain ⟨e0, e1, e2, e3, e4, e5, e6, e7, e8, e9, e10, e11, e12, e13, hB⟩ := FIN.out
          unfold set14 at *
          exact bodyPost_ret (v := .tuple #[.agg #[.string ⟨#[]⟩, .string ⟨#[]⟩, .string ⟨#[]⟩, .string ⟨#[]⟩, .string ⟨#[]⟩, .string ⟨#[]⟩, .string ⟨#[]⟩, .string ⟨#[]⟩, .string ⟨#[]⟩, .string ⟨#[]⟩, .string ⟨#[]⟩, .string ⟨#[]⟩, .string ⟨#[]⟩, .string ⟨#[]⟩], .int .i64 4]) (by simp [results, Tryz.results13, go_sem, e0, e1, e2, e3, e4, e5, e6, e7, e8, e9, e10, e11, e12, e13]) rfl ⟨by rw [E1.out, E2.out], hB⟩
      · obtain rfl : k = l.length := by omega
        have hok : l.length ≤ 5000 ∧ okL l := ⟨hn, hL.out.2⟩
        have E1 : Hid (ratesV l = _) := ratesV_ok hok
        have E2 := Lib.hid (rf_ok hn hok.2)
        obtain ⟨bk, bp, bq, be⟩ := bounds hn
        have T : ∀ j : Nat, j < 8 → wr.cell? ⟨w.heap.size + 1, j, none⟩ = some (.int .i64 (C l (j : Nat) : Nat)) := fun j hj => (hL.out.1.tl j hj).1
        have t1 : wr.cell? ⟨w.heap.size + 1, 1, none⟩ = some (.int .i64 (C l 1 : Nat)) := T 1 (by decide)
        have t2 : wr.cell? ⟨w.heap.size + 1, 2, none⟩ = some (.int .i64 (C l 2 : Nat)) := T 2 (by decide)
        have t3 : wr.cell? ⟨w.heap.size + 1, 3, none⟩ = some (.int .i64 (C l 3 : Nat)) := T 3 (by decide)
        have t4 : wr.cell? ⟨w.heap.size + 1, 4, none⟩ = some (.int .i64 (C l 4 : Nat)) := T 4 (by decide)
        have t5 : wr.cell? ⟨w.heap.size + 1, 5, none⟩ = some (.int .i64 (C l 5 : Nat)) := T 5 (by decide)
        have t6 : wr.cell? ⟨w.heap.size + 1, 6, none⟩ = some (.int .i64 (C l 6 : Nat)) := T 6 (by decide)
        have t7 : wr.cell? ⟨w.heap.size + 1, 7, none⟩ = some (.int .i64 (C l 7 : Nat)) := T 7 (by decide)
        clear T hok hlt
        have hIV : IV l = C l 1 + C l 3 := rfl
        have hRA : RA l = IV l + C l 4 := rfl
        have hRE : RE l = RA l + C l 5 := rfl
        have hEL : EL l = RE l + C l 6 := rfl
        have hKN : KN l = EL l + C l 2 := rfl
        have hAL : AL l = EL l + C l 7 := rfl
        have hKU : KU l = KN l + C l 7 := rfl
        have iP1 : (C l 1 : Int) * (KN l : Int) = (P1 l : Int) := (Int.natCast_mul _ _).symm
        have iQ : (EL l : Int) * (KU l : Int) = (Q l : Int) := (Int.natCast_mul _ _).symm
        have iEU : (EL l : Int) * (C l 7 : Int) = (EU l : Int) := (Int.natCast_mul _ _).symm
        have dP1 : Hid (C l 1 * KN l = P1 l) := rfl
        have dQ : Hid (EL l * KU l = Q l) := rfl
        have dEU : Hid (EL l * C l 7 = EU l) := rfl
        generalize C l 1 = c1 at *
        generalize C l 2 = c2 at *
        generalize C l 3 = c3 at *
        generalize C l 4 = c4 at *
        generalize C l 5 = c5 at *
        generalize C l 6 = c6 at *
        generalize C l 7 = c7 at *
        generalize IV l = iv at *
        generalize RA l = ra at *
        generalize RE l = re at *
        generalize EL l = el at *
        generalize KN l = kn at *
        generalize AL l = al at *
        generalize P1 l = p1 at *
        generalize KU l = ku at *
        generalize Q l = q at *
        generalize EU l = eu at *
        have B1 : Hid (c1 < 1000000000) := by unfold Hid; omega
        have B2 : Hid (iv < 1000000000) := by unfold Hid; omega
        have B3 : Hid (p1 < 1000000000) := by unfold Hid; omega
        have B4 : Hid (c4 < 1000000000) := by unfold Hid; omega
        have B5 : Hid (re < 1000000000) := by unfold Hid; omega
        have B6 : Hid (al < 1000000000) := by unfold Hid; omega
        have B7 : Hid (q < 1000000000) := by unfold Hid; omega
        have B8 : Hid (el < 1000000000) := by unfold Hid; omega
        have iIV : (c1 : Int) + (c3 : Int) = (iv : Int) := by omega
        have iRA : (iv : Int) + (c4 : Int) = (ra : Int) := by omega
        have iRE : (ra : Int) + (c5 : Int) = (re : Int) := by omega
        have iEL : (re : Int) + (c6 : Int) = (el : Int) := by omega
        have iKN : (el : Int) + (c2 : Int) = (kn : Int) := by omega
        have iAL : (el : Int) + (c7 : Int) = (al : Int) := by omega
        have iKU : (kn : Int) + (c7 : Int) = (ku : Int) := by omega
        have bIV : (iv : Int) ≤ 5000 := by omega
        have bRA : (ra : Int) ≤ 5000 := by omega
        have bRE : (re : Int) ≤ 5000 := by omega
        have bEL : (el : Int) ≤ 5000 := by omega
        have bKN : (kn : Int) ≤ 5000 := by omega
        have bAL : (al : Int) ≤ 5000 := by omega
        have bKU : (ku : Int) ≤ 5000 := by omega
        have bP1 : (p1 : Int) ≤ 25000000 := by omega
        have bQ : (q : Int) ≤ 25000000 := by omega
        have bEU : (eu : Int) ≤ 25000000 := by omega
        have B9 : Hid (eu < 1000000000) := by unfold Hid; omega
        have B10 : Hid (kn < 1000000000) := by unfold Hid; omega
        have gKU : Hid (ku = kn + c7) := hKU
        have gLE : Hid (el ≤ kn) := by unfold Hid; omega
        clear hIV hRA hRE hEL hKN hAL hKU bk bp bq be
        have vIV : IntKind.i64.wrap (iv : Int) = iv := by rw [IntKind.wrap_i64]; omega
        have vRA : IntKind.i64.wrap (ra : Int) = ra := by rw [IntKind.wrap_i64]; omega
        have vRE : IntKind.i64.wrap (re : Int) = re := by rw [IntKind.wrap_i64]; omega
        have vKN : IntKind.i64.wrap (kn : Int) = kn := by rw [IntKind.wrap_i64]; omega
        have vEU : IntKind.i64.wrap (eu : Int) = eu := by rw [IntKind.wrap_i64]; omega
        go_wp2_with fail
        go_quiet (fail)
        go_wp2_with fail
        generalize hw1 : wr.drewN _ = W1
        have HL := Lib.hid (show Lp w l l.length W1 by rw [← hw1]; exact hL.out.1.keep (below_drewN (Below.refl _ _) _))
        have HT := Lib.hid (show Sq w.heap.size c2 c7 W1 by rw [← hw1]; exact ⟨t2, t7⟩)
        clear hw1 t1 t2 t3 t4 t5 t6 t7 hL
        refine (Whole_c el W1 B8.out).mono ?_
        rintro e W2 ⟨ae, ke, ce, be, me, de, rfl, l1, l2, bc⟩
        have HL2 := Lib.hid (HL.out.keep bc)
        have HT2 := Lib.hid (HT.out.keep bc (by have := HL.out.size; omega))
        have L1 := Lib.hid l1
        have L2 := Lib.hid l2
        clear HL HT l1 l2 bc
        obtain ⟨W3, hW3⟩ : ∃ W3, W2.alloc (.cells #[.bool false, .slice ae ke ce, .slice be me de] 45) = W3 := ⟨_, rfl⟩
        have HF : Hid (Rf w l W2.heap.size ae ke ce be me de el 1 W3) := by
          unfold Hid
          rw [← hW3]
          exact ⟨HL2.out.keep (bel_one' _ _), ⟨by rw [World.cell?_alloc_at _ _ _ _ rfl]; rfl, by rw [World.cell?_alloc_at _ _ _ _ rfl]; rfl, by rw [World.cell?_alloc_at _ _ _ _ rfl]; rfl⟩, ⟨by simp, by simp, by simp⟩, HL2.out.size, by simp, L1.out.below (bel_one' _ _), L2.out.below (bel_one' _ _)⟩
        have hQ : Sq w.heap.size c2 c7 W3 := by rw [← hW3]; exact HT2.out.keep (bel_one' _ _) (by have := HL2.out.size; omega)
        have HQ := Lib.hid hQ
        unfold Sq at hQ
        clear HL2 HT2 L1 L2
        have nk : (kn : Int) ≤ 0 := by omega
        have EN : Hid (rtN (c1 * 1) el = rtN p1 q) := by
          have e0 : el = 0 := by have := gLE.out; omega
          unfold Hid; rw [← dQ.out, e0, Nat.zero_mul]; rfl
        have ED : Hid (rtD (c1 * 1) el = rtD p1 q) := by
          have e0 : el = 0 := by have := gLE.out; omega
          unfold Hid; rw [← dQ.out, e0, Nat.zero_mul]; rfl
        have BD : Hid (c1 * 1 < 1000000000) := by unfold Hid; rw [Nat.mul_one]; exact B1.out
        clear hk0
        go_wp2_with fail
        clear hW3 hQ HQ
        generalize W2.heap.size = x at *
        generalize W3 = WG at *
        have HD := Lib.hid (HF.out.keep (Below.refl _ _).drew)
        have hS := HD.out.est
        clear HF
        refine wp_region_noPanic ?_
        refine wp_region_held_drew (S := Eb x (.slice ae ke ce) (.slice be me de)) (by kernel_rfl) hS (fun hHeld => ?_)
        clear hHeld
        generalize WG.drew = WD at HD hS ⊢
        refine wpAnyH_take (i := 0) (v := ?v0z24) rfl (by kernel_rfl) (by kernel_rfl) (by kernel_rfl) (fun _ _ _ h => h) (Or.inl ⟨by rfl, ?hy0z24⟩) (by assumption) ?rest0z24
        case hy0z24 =>
          intro w hSw
          dsimp only [Eb] at hSw
          go_simp
          try with_reducible rfl
        simp only [Act.put, List.getElem_toArray, List.getElem_cons_succ, List.getElem_cons_zero, List.setIfInBounds_toArray, List.set_cons_zero, List.set_cons_succ]
        refine wpAnyH_take (i := 1) (v := ?v1z25) rfl (by kernel_rfl) (by kernel_rfl) (by kernel_rfl) (fun _ _ _ h => h) (Or.inl ⟨by rfl, ?hy1z25⟩) (by assumption) ?rest1z25
        case hy1z25 =>
          intro w hSw
          dsimp only [Eb] at hSw
          go_simp
          try with_reducible rfl
        simp only [Act.put, List.getElem_toArray, List.getElem_cons_succ, List.getElem_cons_zero, List.setIfInBounds_toArray, List.set_cons_zero, List.set_cons_succ]
        refine wpAnyH_take (i := 4) (v := ?v4z26) rfl (by kernel_rfl) (by kernel_rfl) (by kernel_rfl) (fun _ _ _ h => h) (Or.inl ⟨by rfl, ?hy4z26⟩) (by assumption) ?rest4z26
        case hy4z26 =>
          intro w hSw
          dsimp only [Eb] at hSw
          go_simp
          try with_reducible rfl
        simp only [Act.put, List.getElem_toArray, List.getElem_cons_succ, List.getElem_cons_zero, List.setIfInBounds_toArray, List.set_cons_zero, List.set_cons_succ]
        refine wpAnyH_take (i := 5) (v := ?v5z27) rfl (by kernel_rfl) (by kernel_rfl) (by kernel_rfl) (fun _ _ _ h => h) (Or.inl ⟨by rfl, ?hy5z27⟩) (by assumption) ?rest5z27
        case hy5z27 =>
          intro w hSw
          dsimp only [Eb] at hSw
          go_simp
          try with_reducible rfl
        simp only [Act.put, List.getElem_toArray, List.getElem_cons_succ, List.getElem_cons_zero, List.setIfInBounds_toArray, List.set_cons_zero, List.set_cons_succ]
        refine wpAnyH_take (i := 6) (v := ?v6z28) rfl (by kernel_rfl) (by kernel_rfl) (by kernel_rfl) (fun _ _ _ h => h) (Or.inl ⟨by rfl, ?hy6z28⟩) (by assumption) ?rest6z28
        case hy6z28 =>
          intro w hSw
          dsimp only [Eb] at hSw
          go_simp
          try with_reducible rfl
        simp only [Act.put, List.getElem_toArray, List.getElem_cons_succ, List.getElem_cons_zero, List.setIfInBounds_toArray, List.set_cons_zero, List.set_cons_succ]
        refine wpAnyH_take (i := 7) (v := ?v7z29) rfl (by kernel_rfl) (by kernel_rfl) (by kernel_rfl) (fun _ _ _ h => h) (Or.inl ⟨by rfl, ?hy7z29⟩) (by assumption) ?rest7z29
        case hy7z29 =>
          intro w hSw
          dsimp only [Eb] at hSw
          go_simp
          try with_reducible rfl
        simp only [Act.put, List.getElem_toArray, List.getElem_cons_succ, List.getElem_cons_zero, List.setIfInBounds_toArray, List.set_cons_zero, List.set_cons_succ]
        refine wpAnyH_take (i := 10) (v := ?v10z30) rfl (by kernel_rfl) (by kernel_rfl) (by kernel_rfl) (fun _ _ _ h => h) (Or.inl ⟨by rfl, ?hy10z30⟩) (by assumption) ?rest10z30
        case hy10z30 =>
          intro w hSw
          dsimp only [Eb] at hSw
          go_simp
          try with_reducible rfl
        simp only [Act.put, List.getElem_toArray, List.getElem_cons_succ, List.getElem_cons_zero, List.setIfInBounds_toArray, List.set_cons_zero, List.set_cons_succ]
        refine wpAnyH_take (i := 11) (v := ?v11z31) rfl (by kernel_rfl) (by kernel_rfl) (by kernel_rfl) (fun _ _ _ h => h) (Or.inl ⟨by rfl, ?hy11z31⟩) (by assumption) ?rest11z31
        case hy11z31 =>
          intro w hSw
          dsimp only [Eb] at hSw
          go_simp
          try with_reducible rfl
        simp only [Act.put, List.getElem_toArray, List.getElem_cons_succ, List.getElem_cons_zero, List.setIfInBounds_toArray, List.set_cons_zero, List.set_cons_succ]
        refine wpAnyH_take (i := 13) (v := ?v13z32) rfl (by kernel_rfl) (by kernel_rfl) (by kernel_rfl) (fun _ _ _ h => h) (Or.inl ⟨by rfl, ?hy13z32⟩) (by assumption) ?rest13z32
        case hy13z32 =>
          intro w hSw
          dsimp only [Eb] at hSw
          go_simp
          try with_reducible rfl
        simp only [Act.put, List.getElem_toArray, List.getElem_cons_succ, List.getElem_cons_zero, List.setIfInBounds_toArray, List.set_cons_zero, List.set_cons_succ]
        refine wpAnyH_take (i := 14) (v := ?v14z33) rfl (by kernel_rfl) (by kernel_rfl) (by kernel_rfl) (fun _ _ _ h => h) (Or.inl ⟨by rfl, ?hy14z33⟩) (by assumption) ?rest14z33
        case hy14z33 =>
          intro w hSw
          dsimp only [Eb] at hSw
          go_simp
          try with_reducible rfl
        simp only [Act.put, List.getElem_toArray, List.getElem_cons_succ, List.getElem_cons_zero, List.setIfInBounds_toArray, List.set_cons_zero, List.set_cons_succ]
        refine wpAnyH_take (i := 17) (v := ?v17z34) rfl (by kernel_rfl) (by kernel_rfl) (by kernel_rfl) (fun _ _ _ h => h) (Or.inl ⟨by rfl, ?hy17z34⟩) (by assumption) ?rest17z34
        case hy17z34 =>
          intro w hSw
          dsimp only [Eb] at hSw
          go_simp
          try with_reducible rfl
        simp only [Act.put, List.getElem_toArray, List.getElem_cons_succ, List.getElem_cons_zero, List.setIfInBounds_toArray, List.set_cons_zero, List.set_cons_succ]
        refine wpAnyH_take (i := 18) (v := ?v18z35) rfl (by kernel_rfl) (by kernel_rfl) (by kernel_rfl) (fun _ _ _ h => h) (Or.inl ⟨by rfl, ?hy18z35⟩) (by assumption) ?rest18z35
        case hy18z35 =>
          intro w hSw
          dsimp only [Eb] at hSw
          go_simp
          try with_reducible rfl
        simp only [Act.put, List.getElem_toArray, List.getElem_cons_succ, List.getElem_cons_zero, List.setIfInBounds_toArray, List.set_cons_zero, List.set_cons_succ]
        refine wpAnyH_take (i := 19) (v := ?v19z36) rfl (by kernel_rfl) (by kernel_rfl) (by kernel_rfl) (fun _ _ _ h => h) (Or.inl ⟨by rfl, ?hy19z36⟩) (by assumption) ?rest19z36
        case hy19z36 =>
          intro w hSw
          dsimp only [Eb] at hSw
          go_simp
          try with_reducible rfl
        simp only [Act.put, List.getElem_toArray, List.getElem_cons_succ, List.getElem_cons_zero, List.setIfInBounds_toArray, List.set_cons_zero, List.set_cons_succ]
        refine wpAnyH_take (i := 20) (v := ?v20z37) rfl (by kernel_rfl) (by kernel_rfl) (by kernel_rfl) (fun _ _ _ h => h) (Or.inl ⟨by rfl, ?hy20z37⟩) (by assumption) ?rest20z37
        case hy20z37 =>
          intro w hSw
          dsimp only [Eb] at hSw
          go_simp
          try with_reducible rfl
        simp only [Act.put, List.getElem_toArray, List.getElem_cons_succ, List.getElem_cons_zero, List.setIfInBounds_toArray, List.set_cons_zero, List.set_cons_succ]
        refine wpAnyH_take (i := 21) (v := ?v21z38) rfl (by kernel_rfl) (by kernel_rfl) (by kernel_rfl) (fun _ _ _ h => h) (Or.inl ⟨by rfl, ?hy21z38⟩) (by assumption) ?rest21z38
        case hy21z38 =>
          intro w hSw
          dsimp only [Eb] at hSw
          go_simp
          try with_reducible rfl
        simp only [Act.put, List.getElem_toArray, List.getElem_cons_succ, List.getElem_cons_zero, List.setIfInBounds_toArray, List.set_cons_zero, List.set_cons_succ]
        refine wpAnyH_take (i := 22) (v := ?v22z39) rfl (by kernel_rfl) (by kernel_rfl) (by kernel_rfl) (fun _ _ _ h => h) (Or.inl ⟨by rfl, ?hy22z39⟩) (by assumption) ?rest22z39
        case hy22z39 =>
          intro w hSw
          dsimp only [Eb] at hSw
          go_simp
          try with_reducible rfl
        simp only [Act.put, List.getElem_toArray, List.getElem_cons_succ, List.getElem_cons_zero, List.setIfInBounds_toArray, List.set_cons_zero, List.set_cons_succ]
        refine wpAnyH_take (i := 23) (v := ?v23z40) rfl (by kernel_rfl) (by kernel_rfl) (by kernel_rfl) (fun _ _ _ h => h) (Or.inl ⟨by rfl, ?hy23z40⟩) (by assumption) ?rest23z40
        case hy23z40 =>
          intro w hSw
          dsimp only [Eb] at hSw
          go_simp
          try with_reducible rfl
        simp only [Act.put, List.getElem_toArray, List.getElem_cons_succ, List.getElem_cons_zero, List.setIfInBounds_toArray, List.set_cons_zero, List.set_cons_succ]
        refine wpAnyH_take (i := 24) (v := ?v24z41) rfl (by kernel_rfl) (by kernel_rfl) (by kernel_rfl) (fun _ _ _ h => h) (Or.inl ⟨by rfl, ?hy24z41⟩) (by assumption) ?rest24z41
        case hy24z41 =>
          intro w hSw
          dsimp only [Eb] at hSw
          go_simp
          try with_reducible rfl
        simp only [Act.put, List.getElem_toArray, List.getElem_cons_succ, List.getElem_cons_zero, List.setIfInBounds_toArray, List.set_cons_zero, List.set_cons_succ]
        refine wpAnyH_take (i := 27) (v := ?v27z42) rfl (by kernel_rfl) (by kernel_rfl) (by kernel_rfl) (fun _ _ _ h => h) (Or.inl ⟨by rfl, ?hy27z42⟩) (by assumption) ?rest27z42
        case hy27z42 =>
          intro w hSw
          dsimp only [Eb] at hSw
          go_simp
          try with_reducible rfl
        simp only [Act.put, List.getElem_toArray, List.getElem_cons_succ, List.getElem_cons_zero, List.setIfInBounds_toArray, List.set_cons_zero, List.set_cons_succ]
        refine wpAnyH_take (i := 28) (v := ?v28z43) rfl (by kernel_rfl) (by kernel_rfl) (by kernel_rfl) (fun _ _ _ h => h) (Or.inl ⟨by rfl, ?hy28z43⟩) (by assumption) ?rest28z43
        case hy28z43 =>
          intro w hSw
          dsimp only [Eb] at hSw
          go_simp
          try with_reducible rfl
        simp only [Act.put, List.getElem_toArray, List.getElem_cons_succ, List.getElem_cons_zero, List.setIfInBounds_toArray, List.set_cons_zero, List.set_cons_succ]
        refine wpAnyH_take (i := 31) (v := ?v31z44) rfl (by kernel_rfl) (by kernel_rfl) (by kernel_rfl) (fun _ _ _ h => h) (Or.inl ⟨by rfl, ?hy31z44⟩) (by assumption) ?rest31z44
        case hy31z44 =>
          intro w hSw
          dsimp only [Eb] at hSw
          go_simp
          try with_reducible rfl
        simp only [Act.put, List.getElem_toArray, List.getElem_cons_succ, List.getElem_cons_zero, List.setIfInBounds_toArray, List.set_cons_zero, List.set_cons_succ]
        refine wpAnyH_take (i := 32) (v := ?v32z45) rfl (by kernel_rfl) (by kernel_rfl) (by kernel_rfl) (fun _ _ _ h => h) (Or.inl ⟨by rfl, ?hy32z45⟩) (by assumption) ?rest32z45
        case hy32z45 =>
          intro w hSw
          dsimp only [Eb] at hSw
          go_simp
          try with_reducible rfl
        simp only [Act.put, List.getElem_toArray, List.getElem_cons_succ, List.getElem_cons_zero, List.setIfInBounds_toArray, List.set_cons_zero, List.set_cons_succ]
        refine wpAnyH_take (i := 33) (v := ?v33z46) rfl (by kernel_rfl) (by kernel_rfl) (by kernel_rfl) (fun _ _ _ h => h) (Or.inl ⟨by rfl, ?hy33z46⟩) (by assumption) ?rest33z46
        case hy33z46 =>
          intro w hSw
          dsimp only [Eb] at hSw
          go_simp
          try with_reducible rfl
        simp only [Act.put, List.getElem_toArray, List.getElem_cons_succ, List.getElem_cons_zero, List.setIfInBounds_toArray, List.set_cons_zero, List.set_cons_succ]
        refine wpAnyH_take (i := 34) (v := ?v34z47) rfl (by kernel_rfl) (by kernel_rfl) (by kernel_rfl) (fun _ _ _ h => h) (Or.inl ⟨by rfl, ?hy34z47⟩) (by assumption) ?rest34z47
        case hy34z47 =>
          intro w hSw
          dsimp only [Eb] at hSw
          go_simp
          try with_reducible rfl
        simp only [Act.put, List.getElem_toArray, List.getElem_cons_succ, List.getElem_cons_zero, List.setIfInBounds_toArray, List.set_cons_zero, List.set_cons_succ]
        refine wpAnyH_take (i := 35) (v := ?v35z48) rfl (by kernel_rfl) (by kernel_rfl) (by kernel_rfl) (fun _ _ _ h => h) (Or.inl ⟨by rfl, ?hy35z48⟩) (by assumption) ?rest35z48
        case hy35z48 =>
          intro w hSw
          dsimp only [Eb] at hSw
          go_simp
          try with_reducible rfl
        simp only [Act.put, List.getElem_toArray, List.getElem_cons_succ, List.getElem_cons_zero, List.setIfInBounds_toArray, List.set_cons_zero, List.set_cons_succ]
        refine wpAnyH_take (i := 36) (v := ?v36z49) rfl (by kernel_rfl) (by kernel_rfl) (by kernel_rfl) (fun _ _ _ h => h) (Or.inl ⟨by rfl, ?hy36z49⟩) (by assumption) ?rest36z49
        case hy36z49 =>
          intro w hSw
          dsimp only [Eb] at hSw
          go_simp
          try with_reducible rfl
        simp only [Act.put, List.getElem_toArray, List.getElem_cons_succ, List.getElem_cons_zero, List.setIfInBounds_toArray, List.set_cons_zero, List.set_cons_succ]
        refine wpAnyH_take (i := 37) (v := ?v37z50) rfl (by kernel_rfl) (by kernel_rfl) (by kernel_rfl) (fun _ _ _ h => h) (Or.inl ⟨by rfl, ?hy37z50⟩) (by assumption) ?rest37z50
        case hy37z50 =>
          intro w hSw
          dsimp only [Eb] at hSw
          go_simp
          try with_reducible rfl
        simp only [Act.put, List.getElem_toArray, List.getElem_cons_succ, List.getElem_cons_zero, List.setIfInBounds_toArray, List.set_cons_zero, List.set_cons_succ]
        refine wpAnyH_take (i := 38) (v := ?v38z51) rfl (by kernel_rfl) (by kernel_rfl) (by kernel_rfl) (fun _ _ _ h => h) (Or.inl ⟨by rfl, ?hy38z51⟩) (by assumption) ?rest38z51
        case hy38z51 =>
          intro w hSw
          dsimp only [Eb] at hSw
          go_simp
          try with_reducible rfl
        simp only [Act.put, List.getElem_toArray, List.getElem_cons_succ, List.getElem_cons_zero, List.setIfInBounds_toArray, List.set_cons_zero, List.set_cons_succ]
        refine wpAnyH_ready (rs := [2]) (by kernel_rfl) (by simp) ?_
        refine AllReadyH.cons rfl (fun K hK => ?_) AllReadyH.nil
        go_simp
        refine (Whole_c al _ B6.out).mono ?_
        rintro e v1 ⟨a1, k1, s1, o1, m1, t1, rfl, lw, lx, bc⟩
        try go_simp
        have HE := Lib.hid (HD.out.keep bc)
        have LW := Lib.hid lw
        have LX := Lib.hid lx
        refine hK.out _ _ HE.out.est (fun _ => ?_)
        clear hK K hS bc HD lw lx
        have HD := HE
        have hS := HD.out.est
        clear HE
        try simp only [Act.put, List.setIfInBounds_toArray, List.set_cons_zero, List.set_cons_succ]
        refine wpAnyH_ready (rs := [3]) (by kernel_rfl) (by simp) ?_
        refine AllReadyH.cons rfl (fun K hK => ?_) AllReadyH.nil
        go_simp
        refine (rate1_c c1 a1 o1 s1 t1 k1 m1 al _ B1.out LW.out LX.out (Go.Joins.tab_stays gPow HPW.out HD.out.lp.bel (Nat.le_refl _))).mono ?_
        rintro e vr1 ⟨rfl, bc⟩
        try go_simp
        have HE := Lib.hid (HD.out.keep bc)
        refine hK.out _ _ HE.out.est (fun _ => ?_)
        clear hK K hS bc HD LW LX
        have HD := HE
        have hS := HD.out.est
        clear HE
        try simp only [Act.put, List.setIfInBounds_toArray, List.set_cons_zero, List.set_cons_succ]
        refine wpAnyH_ready (rs := [8]) (by kernel_rfl) (by simp) ?_
        refine AllReadyH.cons rfl (fun K hK => ?_) AllReadyH.nil
        go_simp
        refine (Whole_c al _ B6.out).mono ?_
        rintro e v2 ⟨a2, k2, s2, o2, m2, t2, rfl, lw, lx, bc⟩
        try go_simp
        have HE := Lib.hid (HD.out.keep bc)
        have LW := Lib.hid lw
        have LX := Lib.hid lx
        refine hK.out _ _ HE.out.est (fun _ => ?_)
        clear hK K hS bc HD lw lx
        have HD := HE
        have hS := HD.out.est
        clear HE
        try simp only [Act.put, List.setIfInBounds_toArray, List.set_cons_zero, List.set_cons_succ]
        refine wpAnyH_ready (rs := [9]) (by kernel_rfl) (by simp) ?_
        refine AllReadyH.cons rfl (fun K hK => ?_) AllReadyH.nil
        go_simp
        refine (rate1_c iv a2 o2 s2 t2 k2 m2 al _ B2.out LW.out LX.out (Go.Joins.tab_stays gPow HPW.out HD.out.lp.bel (Nat.le_refl _))).mono ?_
        rintro e vr2 ⟨rfl, bc⟩
        try go_simp
        have HE := Lib.hid (HD.out.keep bc)
        refine hK.out _ _ HE.out.est (fun _ => ?_)
        clear hK K hS bc HD LW LX
        have HD := HE
        have hS := HD.out.est
        clear HE
        try simp only [Act.put, List.setIfInBounds_toArray, List.set_cons_zero, List.set_cons_succ]
        refine wpAnyH_ready (rs := [12]) (by kernel_rfl) (by simp) ?_
        refine AllReadyH.cons rfl (fun K hK => ?_) AllReadyH.nil
        go_simp
        refine (rate_c c1 ae be ce de ke me el 1 _ B1.out HD.out.s1 HD.out.s2 BD.out (Go.Joins.tab_stays gPow HPW.out HD.out.lp.bel (Nat.le_refl _))).mono ?_
        rintro e vr3 ⟨rfl, bc⟩
        rw [EN.out, ED.out]
        try go_simp
        have HE := Lib.hid (HD.out.keep bc)
        refine hK.out _ _ HE.out.est (fun _ => ?_)
        clear hK K hS bc HD
        have HD := HE
        have hS := HD.out.est
        clear HE
        try simp only [Act.put, List.setIfInBounds_toArray, List.set_cons_zero, List.set_cons_succ]
        refine wpAnyH_ready (rs := [15]) (by kernel_rfl) (by simp) ?_
        refine AllReadyH.cons rfl (fun K hK => ?_) AllReadyH.nil
        go_simp
        refine (Whole_c el _ B8.out).mono ?_
        rintro e v4 ⟨a4, k4, s4, o4, m4, t4, rfl, lw, lx, bc⟩
        try go_simp
        have HE := Lib.hid (HD.out.keep bc)
        have LW := Lib.hid lw
        have LX := Lib.hid lx
        refine hK.out _ _ HE.out.est (fun _ => ?_)
        clear hK K hS bc HD lw lx
        have HD := HE
        have hS := HD.out.est
        clear HE
        try simp only [Act.put, List.setIfInBounds_toArray, List.set_cons_zero, List.set_cons_succ]
        refine wpAnyH_ready (rs := [16]) (by kernel_rfl) (by simp) ?_
        refine AllReadyH.cons rfl (fun K hK => ?_) AllReadyH.nil
        go_simp
        refine (rate1_c c1 a4 o4 s4 t4 k4 m4 el _ B1.out LW.out LX.out (Go.Joins.tab_stays gPow HPW.out HD.out.lp.bel (Nat.le_refl _))).mono ?_
        rintro e vr4 ⟨rfl, bc⟩
        try go_simp
        have HE := Lib.hid (HD.out.keep bc)
        refine hK.out _ _ HE.out.est (fun _ => ?_)
        clear hK K hS bc HD LW LX
        have HD := HE
        have hS := HD.out.est
        clear HE
        try simp only [Act.put, List.setIfInBounds_toArray, List.set_cons_zero, List.set_cons_succ]
        refine wpAnyH_ready (rs := [25]) (by kernel_rfl) (by simp) ?_
        refine AllReadyH.cons rfl (fun K hK => ?_) AllReadyH.nil
        go_simp
        refine (Whole_c re _ B5.out).mono ?_
        rintro e v5 ⟨a5, k5, s5, o5, m5, t5, rfl, lw, lx, bc⟩
        try go_simp
        have HE := Lib.hid (HD.out.keep bc)
        have LW := Lib.hid lw
        have LX := Lib.hid lx
        refine hK.out _ _ HE.out.est (fun _ => ?_)
        clear hK K hS bc HD lw lx
        have HD := HE
        have hS := HD.out.est
        clear HE
        try simp only [Act.put, List.setIfInBounds_toArray, List.set_cons_zero, List.set_cons_succ]
        refine wpAnyH_ready (rs := [26]) (by kernel_rfl) (by simp) ?_
        refine AllReadyH.cons rfl (fun K hK => ?_) AllReadyH.nil
        go_simp
        refine (rate1_c c1 a5 o5 s5 t5 k5 m5 re _ B1.out LW.out LX.out (Go.Joins.tab_stays gPow HPW.out HD.out.lp.bel (Nat.le_refl _))).mono ?_
        rintro e vr5 ⟨rfl, bc⟩
        try go_simp
        have HE := Lib.hid (HD.out.keep bc)
        refine hK.out _ _ HE.out.est (fun _ => ?_)
        clear hK K hS bc HD LW LX
        have HD := HE
        have hS := HD.out.est
        clear HE
        try simp only [Act.put, List.setIfInBounds_toArray, List.set_cons_zero, List.set_cons_succ]
        refine wpAnyH_ready (rs := [29]) (by kernel_rfl) (by simp) ?_
        refine AllReadyH.cons rfl (fun K hK => ?_) AllReadyH.nil
        go_simp
        refine (Whole_c al _ B6.out).mono ?_
        rintro e v6 ⟨a6, k6, s6, o6, m6, t6, rfl, lw, lx, bc⟩
        try go_simp
        have HE := Lib.hid (HD.out.keep bc)
        have LW := Lib.hid lw
        have LX := Lib.hid lx
        refine hK.out _ _ HE.out.est (fun _ => ?_)
        clear hK K hS bc HD lw lx
        have HD := HE
        have hS := HD.out.est
        clear HE
        try simp only [Act.put, List.setIfInBounds_toArray, List.set_cons_zero, List.set_cons_succ]
        refine wpAnyH_ready (rs := [30]) (by kernel_rfl) (by simp) ?_
        refine AllReadyH.cons rfl (fun K hK => ?_) AllReadyH.nil
        go_simp
        refine (rate1_c c4 a6 o6 s6 t6 k6 m6 al _ B4.out LW.out LX.out (Go.Joins.tab_stays gPow HPW.out HD.out.lp.bel (Nat.le_refl _))).mono ?_
        rintro e vr6 ⟨rfl, bc⟩
        try go_simp
        have HE := Lib.hid (HD.out.keep bc)
        refine hK.out _ _ HE.out.est (fun _ => ?_)
        clear hK K hS bc HD LW LX
        have HD := HE
        have hS := HD.out.est
        clear HE
        try simp only [Act.put, List.setIfInBounds_toArray, List.set_cons_zero, List.set_cons_succ]
        refine wpAnyH_ready (rs := [39]) (by kernel_rfl) (by simp) ?_
        refine AllReadyH.cons rfl (fun K hK => ?_) AllReadyH.nil
        go_simp
        refine (Whole_c al _ B6.out).mono ?_
        rintro e v7 ⟨a7, k7, s7, o7, m7, t7, rfl, lw, lx, bc⟩
        try go_simp
        have HE := Lib.hid (HD.out.keep bc)
        have LW := Lib.hid lw
        have LX := Lib.hid lx
        refine hK.out _ _ HE.out.est (fun _ => ?_)
        clear hK K hS bc HD lw lx
        have HD := HE
        have hS := HD.out.est
        clear HE
        try simp only [Act.put, List.setIfInBounds_toArray, List.set_cons_zero, List.set_cons_succ]
        refine wpAnyH_ready (rs := [40]) (by kernel_rfl) (by simp) ?_
        refine AllReadyH.cons rfl (fun K hK => ?_) AllReadyH.nil
        go_simp
        refine (rate1_c re a7 o7 s7 t7 k7 m7 al _ B5.out LW.out LX.out (Go.Joins.tab_stays gPow HPW.out HD.out.lp.bel (Nat.le_refl _))).mono ?_
        rintro e vr7 ⟨rfl, bc⟩
        try go_simp
        have HE := Lib.hid (HD.out.keep bc)
        refine hK.out _ _ HE.out.est (fun _ => ?_)
        clear hK K hS bc HD LW LX
        have HD := HE
        have hS := HD.out.est
        clear HE
        try simp only [Act.put, List.setIfInBounds_toArray, List.set_cons_zero, List.set_cons_succ]
        refine wpAnyH_take (i := 41) (v := ?v41z52) rfl (by kernel_rfl) (by kernel_rfl) (by kernel_rfl) (fun _ _ _ h => h) (Or.inl ⟨by rfl, ?hy41z52⟩) (by assumption) ?rest41z52
        case hy41z52 =>
          intro w hSw
          dsimp only [Eb] at hSw
          go_simp
          try with_reducible rfl
        simp only [Act.put, List.getElem_toArray, List.getElem_cons_succ, List.getElem_cons_zero, List.setIfInBounds_toArray, List.set_cons_zero, List.set_cons_succ]
        refine wpAnyH_ready (rs := [42]) (by kernel_rfl) (by simp) ?_
        refine AllReadyH.cons rfl (fun K hK => ?_) AllReadyH.nil
        have R := HD.out.lp.box.all
        have ne : x ≠ w.heap.size := by have := HD.out.lo; omega
        have hT : Eb x (.slice ae ke ce) (.slice be me de) (set14 vr7 w.heap.size (.string (decB (rtN c1 al))) (.string (decB (rtD c1 al))) (.string (decB (rtN iv al))) (.string (decB (rtD iv al))) (.string (decB (rtN p1 q))) (.string (decB (rtD p1 q))) (.string (decB (rtN c1 el))) (.string (decB (rtD c1 el))) (.string (decB (rtN c1 re))) (.string (decB (rtD c1 re))) (.string (decB (rtN c4 al))) (.string (decB (rtD c4 al))) (.string (decB (rtN re al))) (.string (decB (rtD re al)))) := by
          unfold Eb
          rw [set14_is]
          exact ⟨(setL_far _ vr7 0 x 0 (.inl ne)).trans hS.1, (setL_far _ vr7 0 x 1 (.inl ne)).trans hS.2.1, (setL_far _ vr7 0 x 2 (.inl ne)).trans hS.2.2⟩
        unfold set14 at hT
        have FIN := Lib.hid (set14_fin HD.out.lp.box HD.out.lp.bel (Nat.le_refl _) (.string (decB (rtN c1 al))) (.string (decB (rtD c1 al))) (.string (decB (rtN iv al))) (.string (decB (rtD iv al))) (.string (decB (rtN p1 q))) (.string (decB (rtD p1 q))) (.string (decB (rtN c1 el))) (.string (decB (rtD c1 el))) (.string (decB (rtN c1 re))) (.string (decB (rtD c1 re))) (.string (decB (rtN c4 al))) (.string (decB (rtD c4 al))) (.string (decB (rtN re al))) (.string (decB (rtD re al))))
        clear ne
        go_simp
        clear R
        refine hK.out _ _ hT (fun _ => ?_)
        clear hK K hS
        have hS := hT
        clear hT
        try simp only [Act.put, List.setIfInBounds_toArray, List.set_cons_zero, List.set_cons_succ]
        refine wpAnyH_take (i := 43) (v := ?v43z53) rfl (by kernel_rfl) (by kernel_rfl) (by kernel_rfl) (fun _ _ _ h => h) (Or.inl ⟨by rfl, ?hy43z53⟩) (by assumption) ?rest43z53
        case hy43z53 =>
          intro w hSw
          dsimp only [Eb] at hSw
          go_simp
          try with_reducible rfl
        simp only [Act.put, List.getElem_toArray, List.getElem_cons_succ, List.getElem_cons_zero, List.setIfInBounds_toArray, List.set_cons_zero, List.set_cons_succ]
        refine wpAnyH_done (by kernel_rfl) ?_ _
        refine NoPanic.normal ?_
        go_wp2
        obtain ⟨e0, e1, e2, e3, e4, e5, e6, e7, e8, e9, e10, e11, e12, e13, hB⟩ := FIN.out
        unfold set14 at *
        exact bodyPost_ret (v := .tuple #[.agg #[.string (decB (rtN c1 al)), .string (decB (rtD c1 al)), .string (decB (rtN iv al)), .string (decB (rtD iv al)), .string (decB (rtN p1 q)), .string (decB (rtD p1 q)), .string (decB (rtN c1 el)), .string (decB (rtD c1 el)), .string (decB (rtN c1 re)), .string (decB (rtD c1 re)), .string (decB (rtN c4 al)), .string (decB (rtD c4 al)), .string (decB (rtN re al)), .string (decB (rtD re al))], .int .i64 0]) (by simp [results, Tryz.results13, go_sem, e0, e1, e2, e3, e4, e5, e6, e7, e8, e9, e10, e11, e12, e13]) rfl ⟨by rw [E1.out, E2.out], hB⟩
  · have E1 : Hid (ratesV l = _) := ratesV_no (fun h => hn h.1)
    have E2 := Lib.hid (rf_large hn)
    clear h
    go_enter Tryz.func13, Tryz.ntmps13
    go_wp2_with fail
    exact bodyPost_ret (v := .tuple #[.agg #[.string ⟨#[]⟩, .string ⟨#[]⟩, .string ⟨#[]⟩, .string ⟨#[]⟩, .string ⟨#[]⟩, .string ⟨#[]⟩, .string ⟨#[]⟩, .string ⟨#[]⟩, .string ⟨#[]⟩, .string ⟨#[]⟩, .string ⟨#[]⟩, .string ⟨#[]⟩, .string ⟨#[]⟩, .string ⟨#[]⟩], .int .i64 2]) (by simp [results, Tryz.results13, go_sem]) rfl ⟨by rw [E1.out, E2.out], (Below.refl _ _).alloc (Nat.le_refl _) _⟩
end Go.Proofs.YtfldlcnlijljcaaGreatDoor
