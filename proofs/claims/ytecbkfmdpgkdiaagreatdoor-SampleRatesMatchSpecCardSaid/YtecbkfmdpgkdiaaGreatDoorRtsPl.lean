/-
  Plus of the reference's fractions, at numbers of one digit.
-/
import Derived.Test.YtecbkfmdpgkdiaaGreatDoorRtsFrac
namespace Go.Proofs.YtecbkfmdpgkdiaaGreatDoor
open Go.RowKit

set_option maxHeartbeats 4000000 in
theorem RPlus_c (a1 a2 a3 a4 : Option Addr) (c1 c2 c3 c4 k1 k2 k3 k4 n d m e : Nat) (w : World) (h1 : Sm w a1 k1 n) (h2 : Sm w a2 k2 d) (h3 : Sm w a3 k3 m) (h4 : Sm w a4 k4 e) (p1 : n * e < 1000000000) (p2 : m * d < 1000000000) (p3 : d * e < 1000000000) (p4 : n * e + m * d < 1000000000) :
    Calls Tryz.prog 24 #[.agg #[.bool false, .slice a1 k1 c1, .slice a2 k2 c2], .agg #[.bool false, .slice a3 k3 c3, .slice a4 k4 c4]] w (FrPost (n * e + m * d) (d * e) w) := by
  have M := Pw.make w (.slice a1 k1 c1) (.slice a2 k2 c2) (.slice a3 k3 c3) (.slice a4 k4 c4)
  generalize hW0 : World.alloc _ _ = W0 at M
  have H0 : Hid (Bn w a1 a2 a3 a4 c1 c2 c3 c4 k1 k2 k3 k4 n d m e W0) := ⟨M.1, h1.below M.2, h2.below M.2, h3.below M.2, h4.below M.2, M.2⟩
  have P1 := Lib.hid p1
  have P2 := Lib.hid p2
  have P3 := Lib.hid p3
  have P4 := Lib.hid p4
  have O0 := M.1
  clear h1 h2 h3 h4 p1 p2 p3 p4 M
  dsimp only [Pw] at O0
  go_enter Tryz.func24, Tryz.ntmps24
  go_wp2_with fail
  clear hW0
  clear O0
  have HD := Lib.hid (H0.out.keep (Below.refl _ _).drew)
  have hS := HD.out.pw.pa
  clear H0
  refine wp_region_noPanic ?_
  refine wp_region_held_drew (S := Pa w.heap.size (.slice a1 k1 c1) (.slice a2 k2 c2) (.slice a3 k3 c3) (.slice a4 k4 c4)) (by kernel_rfl) hS (fun hHeld => ?_)
  clear hHeld
  generalize W0.drew = WD at HD hS ⊢
  refine wpAnyH_take (i := 0) (v := ?v0z1) rfl (by kernel_rfl) (by kernel_rfl) (by kernel_rfl) (fun _ _ _ h => h) (Or.inl ⟨by rfl, ?hy0z1⟩) (by assumption) ?rest0z1
  case hy0z1 =>
    intro w hSw
    dsimp only [Pa] at hSw
    go_simp
    try with_reducible rfl
  simp only [Act.put, List.getElem_toArray, List.getElem_cons_succ, List.getElem_cons_zero, List.setIfInBounds_toArray, List.set_cons_zero, List.set_cons_succ]
  refine wpAnyH_take (i := 1) (v := ?v1z2) rfl (by kernel_rfl) (by kernel_rfl) (by kernel_rfl) (fun _ _ _ h => h) (Or.inl ⟨by rfl, ?hy1z2⟩) (by assumption) ?rest1z2
  case hy1z2 =>
    intro w hSw
    dsimp only [Pa] at hSw
    go_simp
    try with_reducible rfl
  simp only [Act.put, List.getElem_toArray, List.getElem_cons_succ, List.getElem_cons_zero, List.setIfInBounds_toArray, List.set_cons_zero, List.set_cons_succ]
  refine wpAnyH_take (i := 2) (v := ?v2z3) rfl (by kernel_rfl) (by kernel_rfl) (by kernel_rfl) (fun _ _ _ h => h) (Or.inl ⟨by rfl, ?hy2z3⟩) (by assumption) ?rest2z3
  case hy2z3 =>
    intro w hSw
    dsimp only [Pa] at hSw
    go_simp
    try with_reducible rfl
  simp only [Act.put, List.getElem_toArray, List.getElem_cons_succ, List.getElem_cons_zero, List.setIfInBounds_toArray, List.set_cons_zero, List.set_cons_succ]
  refine wpAnyH_take (i := 3) (v := ?v3z4) rfl (by kernel_rfl) (by kernel_rfl) (by kernel_rfl) (fun _ _ _ h => h) (Or.inl ⟨by rfl, ?hy3z4⟩) (by assumption) ?rest3z4
  case hy3z4 =>
    intro w hSw
    dsimp only [Pa] at hSw
    go_simp
    try with_reducible rfl
  simp only [Act.put, List.getElem_toArray, List.getElem_cons_succ, List.getElem_cons_zero, List.setIfInBounds_toArray, List.set_cons_zero, List.set_cons_succ]
  refine wpAnyH_take (i := 5) (v := ?v5z5) rfl (by kernel_rfl) (by kernel_rfl) (by kernel_rfl) (fun _ _ _ h => h) (Or.inl ⟨by rfl, ?hy5z5⟩) (by assumption) ?rest5z5
  case hy5z5 =>
    intro w hSw
    dsimp only [Pa] at hSw
    go_simp
    try with_reducible rfl
  simp only [Act.put, List.getElem_toArray, List.getElem_cons_succ, List.getElem_cons_zero, List.setIfInBounds_toArray, List.set_cons_zero, List.set_cons_succ]
  refine wpAnyH_take (i := 6) (v := ?v6z6) rfl (by kernel_rfl) (by kernel_rfl) (by kernel_rfl) (fun _ _ _ h => h) (Or.inl ⟨by rfl, ?hy6z6⟩) (by assumption) ?rest6z6
  case hy6z6 =>
    intro w hSw
    dsimp only [Pa] at hSw
    go_simp
    try with_reducible rfl
  simp only [Act.put, List.getElem_toArray, List.getElem_cons_succ, List.getElem_cons_zero, List.setIfInBounds_toArray, List.set_cons_zero, List.set_cons_succ]
  refine wpAnyH_take (i := 7) (v := ?v7z7) rfl (by kernel_rfl) (by kernel_rfl) (by kernel_rfl) (fun _ _ _ h => h) (Or.inl ⟨by rfl, ?hy7z7⟩) (by assumption) ?rest7z7
  case hy7z7 =>
    intro w hSw
    dsimp only [Pa] at hSw
    go_simp
    try with_reducible rfl
  simp only [Act.put, List.getElem_toArray, List.getElem_cons_succ, List.getElem_cons_zero, List.setIfInBounds_toArray, List.set_cons_zero, List.set_cons_succ]
  refine wpAnyH_take (i := 8) (v := ?v8z8) rfl (by kernel_rfl) (by kernel_rfl) (by kernel_rfl) (fun _ _ _ h => h) (Or.inl ⟨by rfl, ?hy8z8⟩) (by assumption) ?rest8z8
  case hy8z8 =>
    intro w hSw
    dsimp only [Pa] at hSw
    go_simp
    try with_reducible rfl
  simp only [Act.put, List.getElem_toArray, List.getElem_cons_succ, List.getElem_cons_zero, List.setIfInBounds_toArray, List.set_cons_zero, List.set_cons_succ]
  refine wpAnyH_ready (rs := [4]) (by kernel_rfl) (by simp) ?_
  refine AllReadyH.cons rfl (fun K hK => ?_) AllReadyH.nil
  go_simp
  refine (rtimes_c a1 a4 c1 c4 k1 k4 n e _ HD.out.s1 HD.out.s4 P1.out).mono ?_
  rintro e w5 ⟨a5, k5, c5, rfl, l5, b5⟩
  try go_simp
  have H5 := Lib.hid (HD.out.keep b5)
  refine hK.out _ _ H5.out.pw.pa (fun _ => ?_)
  clear hK K hS
  have hS := H5.out.pw.pa
  try simp only [Act.put, List.setIfInBounds_toArray, List.set_cons_zero, List.set_cons_succ]
  have L5 := Lib.hid l5
  clear l5 b5 HD
  refine wpAnyH_ready (rs := [9]) (by kernel_rfl) (by simp) ?_
  refine AllReadyH.cons rfl (fun K hK => ?_) AllReadyH.nil
  go_simp
  refine (rtimes_c a3 a2 c3 c2 k3 k2 m d _ H5.out.s3 H5.out.s2 P2.out).mono ?_
  rintro e w6 ⟨a6, k6, c6, rfl, l6, b6⟩
  try go_simp
  have H6 := Lib.hid (H5.out.keep b6)
  refine hK.out _ _ H6.out.pw.pa (fun _ => ?_)
  clear hK K hS
  have hS := H6.out.pw.pa
  try simp only [Act.put, List.setIfInBounds_toArray, List.set_cons_zero, List.set_cons_succ]
  have L5 := Lib.hid (L5.out.below b6)
  have L6 := Lib.hid l6
  clear l6 b6 H5
  refine wpAnyH_take (i := 10) (v := ?v10z9) rfl (by kernel_rfl) (by kernel_rfl) (by kernel_rfl) (fun _ _ _ h => h) (Or.inl ⟨by rfl, ?hy10z9⟩) (by assumption) ?rest10z9
  case hy10z9 =>
    intro w hSw
    dsimp only [Pa] at hSw
    go_simp
    try with_reducible rfl
  simp only [Act.put, List.getElem_toArray, List.getElem_cons_succ, List.getElem_cons_zero, List.setIfInBounds_toArray, List.set_cons_zero, List.set_cons_succ]
  refine wpAnyH_take (i := 11) (v := ?v11z10) rfl (by kernel_rfl) (by kernel_rfl) (by kernel_rfl) (fun _ _ _ h => h) (Or.inl ⟨by rfl, ?hy11z10⟩) (by assumption) ?rest11z10
  case hy11z10 =>
    intro w hSw
    dsimp only [Pa] at hSw
    go_simp
    try with_reducible rfl
  simp only [Act.put, List.getElem_toArray, List.getElem_cons_succ, List.getElem_cons_zero, List.setIfInBounds_toArray, List.set_cons_zero, List.set_cons_succ]
  refine wpAnyH_done (by kernel_rfl) ?_ _
  refine NoPanic.normal ?_
  clear hS
  have O0 := H6.out.pw
  dsimp only [Pw] at O0
  go_wp2_with fail
  clear O0
  refine (rtimes_c a2 a4 c2 c4 k2 k4 d e _ H6.out.s2 H6.out.s4 P3.out).mono ?_
  rintro e w7 ⟨a7, k7, c7, rfl, l7, b7⟩
  have H7 := Lib.hid (H6.out.keep b7)
  have L5 := Lib.hid (L5.out.below b7)
  have L6 := Lib.hid (L6.out.below b7)
  have L7 := Lib.hid l7
  clear l7 b7 H6
  have O0 := H7.out.pw
  dsimp only [Pw] at O0
  go_wp2_with fail
  clear O0
  have HD := Lib.hid (H7.out.keep (Below.refl _ _).drew)
  have L5 := Lib.hid (L5.out.below (Below.refl _ _).drew)
  have L6 := Lib.hid (L6.out.below (Below.refl _ _).drew)
  have L7 := Lib.hid (L7.out.below (Below.refl _ _).drew)
  have hS := HD.out.pw.pa
  clear H7
  refine wp_region_noPanic ?_
  refine wp_region_held_drew (S := Pa w.heap.size (.slice a1 k1 c1) (.slice a2 k2 c2) (.slice a3 k3 c3) (.slice a4 k4 c4)) (by kernel_rfl) hS (fun hHeld => ?_)
  clear hHeld
  generalize w7.drew = WE at HD hS L5 L6 L7 ⊢
  refine wpAnyH_take (i := 0) (v := ?v0z11) rfl (by kernel_rfl) (by kernel_rfl) (by kernel_rfl) (fun _ _ _ h => h) (Or.inl ⟨by rfl, ?hy0z11⟩) (by assumption) ?rest0z11
  case hy0z11 =>
    intro w hSw
    dsimp only [Pa] at hSw
    go_simp
    try with_reducible rfl
  simp only [Act.put, List.getElem_toArray, List.getElem_cons_succ, List.getElem_cons_zero, List.setIfInBounds_toArray, List.set_cons_zero, List.set_cons_succ]
  refine wpAnyH_take (i := 1) (v := ?v1z12) rfl (by kernel_rfl) (by kernel_rfl) (by kernel_rfl) (fun _ _ _ h => h) (Or.inl ⟨by rfl, ?hy1z12⟩) (by assumption) ?rest1z12
  case hy1z12 =>
    intro w hSw
    dsimp only [Pa] at hSw
    go_simp
    try with_reducible rfl
  simp only [Act.put, List.getElem_toArray, List.getElem_cons_succ, List.getElem_cons_zero, List.setIfInBounds_toArray, List.set_cons_zero, List.set_cons_succ]
  refine wpAnyH_take (i := 2) (v := ?v2z13) rfl (by kernel_rfl) (by kernel_rfl) (by kernel_rfl) (fun _ _ _ h => h) (Or.inl ⟨by rfl, ?hy2z13⟩) (by assumption) ?rest2z13
  case hy2z13 =>
    intro w hSw
    dsimp only [Pa] at hSw
    go_simp
    try with_reducible rfl
  simp only [Act.put, List.getElem_toArray, List.getElem_cons_succ, List.getElem_cons_zero, List.setIfInBounds_toArray, List.set_cons_zero, List.set_cons_succ]
  refine wpAnyH_take (i := 3) (v := ?v3z14) rfl (by kernel_rfl) (by kernel_rfl) (by kernel_rfl) (fun _ _ _ h => h) (Or.inl ⟨by rfl, ?hy3z14⟩) (by assumption) ?rest3z14
  case hy3z14 =>
    intro w hSw
    dsimp only [Pa] at hSw
    go_simp
    try with_reducible rfl
  simp only [Act.put, List.getElem_toArray, List.getElem_cons_succ, List.getElem_cons_zero, List.setIfInBounds_toArray, List.set_cons_zero, List.set_cons_succ]
  refine wpAnyH_take (i := 5) (v := ?v5z15) rfl (by kernel_rfl) (by kernel_rfl) (by kernel_rfl) (fun _ _ _ h => h) (Or.inl ⟨by rfl, ?hy5z15⟩) (by assumption) ?rest5z15
  case hy5z15 =>
    intro w hSw
    dsimp only [Pa] at hSw
    go_simp
    try with_reducible rfl
  simp only [Act.put, List.getElem_toArray, List.getElem_cons_succ, List.getElem_cons_zero, List.setIfInBounds_toArray, List.set_cons_zero, List.set_cons_succ]
  refine wpAnyH_ready (rs := [4]) (by kernel_rfl) (by simp) ?_
  refine AllReadyH.cons rfl (fun K hK => ?_) AllReadyH.nil
  go_simp
  refine (rplus_c a5 a6 c5 c6 k5 k6 (n * e) (m * d) _ L5.out L6.out P4.out).mono ?_
  rintro e w8 ⟨a8, k8, c8, rfl, l8, b8⟩
  try go_simp
  have H8 := Lib.hid (HD.out.keep b8)
  refine hK.out _ _ H8.out.pw.pa (fun _ => ?_)
  clear hK K hS
  have hS := H8.out.pw.pa
  try simp only [Act.put, List.setIfInBounds_toArray, List.set_cons_zero, List.set_cons_succ]
  have L7 := Lib.hid (L7.out.below b8)
  have L8 := Lib.hid l8
  clear l8 b8 HD L5 L6
  refine wpAnyH_take (i := 6) (v := ?v6z16) rfl (by kernel_rfl) (by kernel_rfl) (by kernel_rfl) (fun _ _ _ h => h) (Or.inl ⟨by rfl, ?hy6z16⟩) (by assumption) ?rest6z16
  case hy6z16 =>
    intro w hSw
    dsimp only [Pa] at hSw
    go_simp
    try with_reducible rfl
  simp only [Act.put, List.getElem_toArray, List.getElem_cons_succ, List.getElem_cons_zero, List.setIfInBounds_toArray, List.set_cons_zero, List.set_cons_succ]
  refine wpAnyH_ready (rs := [7]) (by kernel_rfl) (by simp) ?_
  refine AllReadyH.cons rfl (fun K hK => ?_) AllReadyH.nil
  go_simp
  refine (reduced_c a8 a7 c8 c7 k8 k7 (n * e + m * d) (d * e) _ L8.out L7.out).mono ?_
  rintro e w9 ⟨a9, k9, c9, a10, k10, c10, rfl, l9, l10, b9⟩
  try go_simp
  have H9 := Lib.hid (H8.out.keep b9)
  refine hK.out _ _ H9.out.pw.pa (fun _ => ?_)
  clear hK K hS
  have hS := H9.out.pw.pa
  have R9 := H9.out.pw.res
  have FIN := Lib.hid (fin3 (v1 := .slice a9 k9 c9) (v2 := .slice a10 k10 c10) R9.1 R9.2.1 R9.2.2.1 H9.out.bel (by omega) l9 l10)
  have PF := Lib.hid (hS.set (x := .bool false) (y := .slice a9 k9 c9) (z := .slice a10 k10 c10))
  clear l9 l10 b9 L7 L8 H8 H9
  try simp only [Act.put, List.setIfInBounds_toArray, List.set_cons_zero, List.set_cons_succ]
  refine wpAnyH_ready (rs := [8]) (by kernel_rfl) (by simp) ?_
  refine AllReadyH.cons rfl (fun K hK => ?_) AllReadyH.nil
  go_simp
  refine hK.out _ _ PF.out (fun _ => ?_)
  clear hK K hS R9
  try simp only [Act.put, List.setIfInBounds_toArray, List.set_cons_zero, List.set_cons_succ]
  refine wpAnyH_done (by kernel_rfl) ?_ _
  refine NoPanic.normal ?_
  go_wp2
  obtain ⟨e0, e1, e2, m1, m2, hB⟩ := FIN.out
  unfold set3 at *
  exact bodyPost_ret (v := .agg #[.bool false, .slice a9 k9 c9, .slice a10 k10 c10]) (by simp [results, Tryz.results24, go_sem, e0, e1, e2]) rfl ⟨_, _, _, _, _, _, rfl, m1, m2, hB⟩
end Go.Proofs.YtecbkfmdpgkdiaaGreatDoor
