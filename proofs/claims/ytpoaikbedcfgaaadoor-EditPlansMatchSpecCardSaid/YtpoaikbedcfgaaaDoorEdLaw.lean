/-
  EditPlansMatchSpec: the law.
-/
import Derived.Test.YtpoaikbedcfgaaaDoorEdRText
namespace Go.Proofs.YtpoaikbedcfgaaaDoor
open Go.RowKit Go.WideMaps Go.Maps

def SL (p : Nat) (a : Option Addr) (n c : Nat) (a2 : Option Addr) (n2 c2 : Nat) (W : World) : Prop :=
  W.cell? ⟨p, 0, none⟩ = some (.slice a n c) ∧ W.cell? ⟨p, 1, none⟩ = some (.slice a2 n2 c2)
set_option maxRecDepth 100000 in
set_option maxHeartbeats 4000000 in
theorem law_plans (a : Option Addr) (c : Nat) (l : List Fd) (a2 : Option Addr) (c2 : Nat) (E : List Ed) (w : World) (hl : RdF w a l) (hE : RdE w a2 E) (hst : ∀ u, u ∈ l → u.nm.size ≤ 9223372036854775807) (hst2 : ∀ u, u ∈ E → u.nm.size ≤ 9223372036854775807) (hc1 : l.length ≤ c) (hc2 : E.length ≤ c2) (hEnv : Env w) (hPow : Pow w) :
    Calls Tryd.prog 3 #[.agg #[.slice a l.length c, .slice a2 E.length c2]] w fun e w' => e = .returned (.bool true) ∧ Below w.heap.size w w' := by
  obtain ⟨W1, hW1⟩ : ∃ W1, w.alloc (.cells #[.slice a l.length c, .slice a2 E.length c2] 25) = W1 := ⟨_, rfl⟩
  have B1 : Hid (Below w.heap.size w W1 ∧ W1.heap.size = w.heap.size + 1 ∧ W1.cell? ⟨w.heap.size, 0, none⟩ = some (.slice a l.length c) ∧ W1.cell? ⟨w.heap.size, 1, none⟩ = some (.slice a2 E.length c2)) := by
    unfold Hid
    rw [← hW1]
    exact ⟨bel_one _ _, by simp, by rw [World.cell?_alloc_at _ _ _ _ rfl]; rfl, by rw [World.cell?_alloc_at _ _ _ _ rfl]; rfl⟩
  have C1 := Lib.hid (fun W (hb : Below w.heap.size w W) => Text_c a c l a2 c2 E W (hl.below hb) (hE.below hb) hst hst2 (hPow.below hb))
  have C2 := Lib.hid (fun W (hb : Below w.heap.size w W) => rText_c a c l a2 c2 E W (hl.below hb) (hE.below hb) (hEnv.below hb) hc1 hc2 (hPow.below hb))
  have C3 := Lib.hid (fun W (hb : Below w.heap.size w W) => CheckPlan_c a c l a2 c2 E W (hl.below hb) (hE.below hb) hst hst2)
  have C4 := Lib.hid (fun W (hb : Below w.heap.size w W) => rCheckPlan_c a c l a2 c2 E W (hl.below hb) (hE.below hb) (hEnv.below hb) hc1 hc2)
  have CS : Hid (∀ W, Below W1.heap.size W1 W → W.cell? ⟨w.heap.size, 0, none⟩ = some (.slice a l.length c) ∧ W.cell? ⟨w.heap.size, 1, none⟩ = some (.slice a2 E.length c2)) := fun W hb =>
    ⟨(hb.cell (p := ⟨w.heap.size, 0, none⟩) (by have := B1.out.2.1; show w.heap.size < _; omega)).trans B1.out.2.2.1, (hb.cell (p := ⟨w.heap.size, 1, none⟩) (by have := B1.out.2.1; show w.heap.size < _; omega)).trans B1.out.2.2.2⟩
  have v0 := B1.out.2.2.1
  have v1 := B1.out.2.2.2
  clear hl hE hst hst2 hEnv hPow hc1 hc2
  go_enter Tryd.func3, Tryd.ntmps3
  go_wp2_with fail
  clear hW1 v0 v1
  refine (C1.out W1 B1.out.1).mono ?_
  rintro e W2 ⟨t1, rfl, ht1, b2⟩
  have S2 := Lib.hid b2
  have B2 : Hid (Below w.heap.size w W2) := B1.out.1.trans (b2.mono B1.out.1.size)
  have HT1 := Lib.hid ht1
  clear b2 ht1
  obtain ⟨v0, v1⟩ := CS.out W2 S2.out
  go_wp2_with fail
  clear v0 v1
  refine (C2.out W2 B2.out).mono ?_
  rintro e W3 ⟨t2, rfl, ht2, b3⟩
  have S3 : Hid (Below W1.heap.size W1 W3) := S2.out.trans (b3.mono S2.out.size)
  have B3 : Hid (Below w.heap.size w W3) := B2.out.trans (b3.mono B2.out.size)
  have e12 : t2 = t1 := by rw [ht2, HT1.out]
  subst e12
  clear b3 ht2 HT1
  go_wp2_with fail
  obtain ⟨pp, hpp⟩ : ∃ p, planS l E = p := ⟨_, rfl⟩
  obtain ⟨qq, hqq⟩ : ∃ p, (textS l E).2 = p := ⟨_, rfl⟩
  rw [hpp] at C3 C4
  rw [hqq]
  refine wp_region_noPanic ?_
  refine wp_region_held_drew (S := SL w.heap.size a l.length c a2 E.length c2) (by kernel_rfl) (CS.out _ S3.out.drew) (fun hS => ?_)
  obtain ⟨V0, hV0⟩ : ∃ W, W3.drew = W := ⟨_, rfl⟩
  have D0 : Hid (Below W1.heap.size W1 V0) := by unfold Hid; rw [← hV0]; exact S3.out.drew
  have BB0 : Hid (Below w.heap.size w V0) := by unfold Hid; rw [← hV0]; exact B3.out.drew
  rw [hV0] at hS ⊢
  clear hV0
  refine wpAnyH_take (i := 0) (v := ?v0z1) rfl (by kernel_rfl) (by kernel_rfl) (by kernel_rfl) (fun _ _ _ h => h) (Or.inl ⟨by rfl, ?hy0z1⟩) (by assumption) ?rest0z1
  case hy0z1 =>
    intro w hSw
    dsimp only [SL] at hSw
    go_simp
    try with_reducible rfl
  simp only [Act.put, List.getElem_toArray, List.getElem_cons_succ, List.getElem_cons_zero, List.setIfInBounds_toArray, List.set_cons_zero, List.set_cons_succ]
  refine wpAnyH_take (i := 2) (v := ?v2z2) rfl (by kernel_rfl) (by kernel_rfl) (by kernel_rfl) (fun _ _ _ h => h) (Or.inl ⟨by rfl, ?hy2z2⟩) (by assumption) ?rest2z2
  case hy2z2 =>
    intro w hSw
    dsimp only [SL] at hSw
    go_simp
    try with_reducible rfl
  simp only [Act.put, List.getElem_toArray, List.getElem_cons_succ, List.getElem_cons_zero, List.setIfInBounds_toArray, List.set_cons_zero, List.set_cons_succ]
  refine wpAnyH_ready (rs := [1]) (by kernel_rfl) (by simp) ?_
  refine AllReadyH.cons rfl (fun K hK => ?_) AllReadyH.nil
  go_simp
  (refine (C3.out V0 BB0.out).mono ?_)
  rintro e V1 ⟨rfl, bc⟩
  try go_simp
  have D1 : Hid (Below W1.heap.size W1 V1) := D0.out.trans (bc.mono D0.out.size)
  have BB1 : Hid (Below w.heap.size w V1) := BB0.out.trans (bc.mono BB0.out.size)
  have hT : SL w.heap.size a l.length c a2 E.length c2 V1 := CS.out V1 D1.out
  refine hK.out _ _ hT (fun _ => ?_)
  clear hK K hS bc
  have hS := hT
  clear hT
  try simp only [Act.put, List.setIfInBounds_toArray, List.set_cons_zero, List.set_cons_succ]
  refine wpAnyH_ready (rs := [3]) (by kernel_rfl) (by simp) ?_
  refine AllReadyH.cons rfl (fun K hK => ?_) AllReadyH.nil
  go_simp
  (refine (C4.out V1 BB1.out).mono ?_)
  rintro e V2 ⟨rfl, bc⟩
  try go_simp
  have D2 : Hid (Below W1.heap.size W1 V2) := D1.out.trans (bc.mono D1.out.size)
  have BB2 : Hid (Below w.heap.size w V2) := BB1.out.trans (bc.mono BB1.out.size)
  have hT : SL w.heap.size a l.length c a2 E.length c2 V2 := CS.out V2 D2.out
  refine hK.out _ _ hT (fun _ => ?_)
  clear hK K hS bc
  have hS := hT
  clear hT
  try simp only [Act.put, List.setIfInBounds_toArray, List.set_cons_zero, List.set_cons_succ]
  refine wpAnyH_take (i := 4) (v := ?v4z3) rfl (by kernel_rfl) (by kernel_rfl) (by kernel_rfl) (fun _ _ _ h => h) (Or.inl ⟨by rfl, ?hy4z3⟩) (by assumption) ?rest4z3
  case hy4z3 =>
    intro w hSw
    dsimp only [SL] at hSw
    go_simp
    try with_reducible rfl
  simp only [Act.put, List.getElem_toArray, List.getElem_cons_succ, List.getElem_cons_zero, List.setIfInBounds_toArray, List.set_cons_zero, List.set_cons_succ]
  refine wpAnyH_take (i := 5) (v := ?v5z4) rfl (by kernel_rfl) (by kernel_rfl) (by kernel_rfl) (fun _ _ _ h => h) (Or.inl ⟨by rfl, ?hy5z4⟩) (by assumption) ?rest5z4
  case hy5z4 =>
    intro w hSw
    dsimp only [SL] at hSw
    go_simp
    try with_reducible rfl
  simp only [Act.put, List.getElem_toArray, List.getElem_cons_succ, List.getElem_cons_zero, List.setIfInBounds_toArray, List.set_cons_zero, List.set_cons_succ]
  refine wpAnyH_take (i := 6) (v := ?v6z5) rfl (by kernel_rfl) (by kernel_rfl) (by kernel_rfl) (fun _ _ _ h => h) (Or.inl ⟨by rfl, ?hy6z5⟩) (by assumption) ?rest6z5
  case hy6z5 =>
    intro w hSw
    dsimp only [SL] at hSw
    go_simp
    try with_reducible rfl
  simp only [Act.put, List.getElem_toArray, List.getElem_cons_succ, List.getElem_cons_zero, List.setIfInBounds_toArray, List.set_cons_zero, List.set_cons_succ]
  refine wpAnyH_take (i := 7) (v := ?v7z6) rfl (by kernel_rfl) (by kernel_rfl) (by kernel_rfl) (fun _ _ _ h => h) (Or.inl ⟨by rfl, ?hy7z6⟩) (by assumption) ?rest7z6
  case hy7z6 =>
    intro w hSw
    dsimp only [SL] at hSw
    go_simp
    try with_reducible rfl
  simp only [Act.put, List.getElem_toArray, List.getElem_cons_succ, List.getElem_cons_zero, List.setIfInBounds_toArray, List.set_cons_zero, List.set_cons_succ]
  refine wpAnyH_take (i := 8) (v := ?v8z7) rfl (by kernel_rfl) (by kernel_rfl) (by kernel_rfl) (fun _ _ _ h => h) (Or.inl ⟨by rfl, ?hy8z7⟩) (by assumption) ?rest8z7
  case hy8z7 =>
    intro w hSw
    dsimp only [SL] at hSw
    go_simp
    try with_reducible rfl
  simp only [Act.put, List.getElem_toArray, List.getElem_cons_succ, List.getElem_cons_zero, List.setIfInBounds_toArray, List.set_cons_zero, List.set_cons_succ]
  refine wpAnyH_take (i := 9) (v := ?v9z8) rfl (by kernel_rfl) (by kernel_rfl) (by kernel_rfl) (fun _ _ _ h => h) (Or.inl ⟨by rfl, ?hy9z8⟩) (by assumption) ?rest9z8
  case hy9z8 =>
    intro w hSw
    dsimp only [SL] at hSw
    go_simp
    try with_reducible rfl
  simp only [Act.put, List.getElem_toArray, List.getElem_cons_succ, List.getElem_cons_zero, List.setIfInBounds_toArray, List.set_cons_zero, List.set_cons_succ]
  refine wpAnyH_take (i := 10) (v := ?v10z9) rfl (by kernel_rfl) (by kernel_rfl) (by kernel_rfl) (fun _ _ _ h => h) (Or.inl ⟨by rfl, ?hy10z9⟩) (by assumption) ?rest10z9
  case hy10z9 =>
    intro w hSw
    dsimp only [SL] at hSw
    go_simp
    try with_reducible rfl
  simp only [Act.put, List.getElem_toArray, List.getElem_cons_succ, List.getElem_cons_zero, List.setIfInBounds_toArray, List.set_cons_zero, List.set_cons_succ]
  refine wpAnyH_take (i := 11) (v := ?v11z10) rfl (by kernel_rfl) (by kernel_rfl) (by kernel_rfl) (fun _ _ _ h => h) (Or.inl ⟨by rfl, ?hy11z10⟩) (by assumption) ?rest11z10
  case hy11z10 =>
    intro w hSw
    dsimp only [SL] at hSw
    go_simp
    try with_reducible rfl
  simp only [Act.put, List.getElem_toArray, List.getElem_cons_succ, List.getElem_cons_zero, List.setIfInBounds_toArray, List.set_cons_zero, List.set_cons_succ]
  refine wpAnyH_take (i := 12) (v := ?v12z11) rfl (by kernel_rfl) (by kernel_rfl) (by kernel_rfl) (fun _ _ _ h => h) (Or.inl ⟨by rfl, ?hy12z11⟩) (by assumption) ?rest12z11
  case hy12z11 =>
    intro w hSw
    dsimp only [SL] at hSw
    go_simp
    try with_reducible rfl
  simp only [Act.put, List.getElem_toArray, List.getElem_cons_succ, List.getElem_cons_zero, List.setIfInBounds_toArray, List.set_cons_zero, List.set_cons_succ]
  refine wpAnyH_take (i := 13) (v := ?v13z12) rfl (by kernel_rfl) (by kernel_rfl) (by kernel_rfl) (fun _ _ _ h => h) (Or.inl ⟨by rfl, ?hy13z12⟩) (by assumption) ?rest13z12
  case hy13z12 =>
    intro w hSw
    dsimp only [SL] at hSw
    go_simp
    try with_reducible rfl
  simp only [Act.put, List.getElem_toArray, List.getElem_cons_succ, List.getElem_cons_zero, List.setIfInBounds_toArray, List.set_cons_zero, List.set_cons_succ]
  refine wpAnyH_take (i := 14) (v := ?v14z13) rfl (by kernel_rfl) (by kernel_rfl) (by kernel_rfl) (fun _ _ _ h => h) (Or.inl ⟨by rfl, ?hy14z13⟩) (by assumption) ?rest14z13
  case hy14z13 =>
    intro w hSw
    dsimp only [SL] at hSw
    go_simp
    try with_reducible rfl
  simp only [Act.put, List.getElem_toArray, List.getElem_cons_succ, List.getElem_cons_zero, List.setIfInBounds_toArray, List.set_cons_zero, List.set_cons_succ]
  refine wpAnyH_take (i := 15) (v := ?v15z14) rfl (by kernel_rfl) (by kernel_rfl) (by kernel_rfl) (fun _ _ _ h => h) (Or.inl ⟨by rfl, ?hy15z14⟩) (by assumption) ?rest15z14
  case hy15z14 =>
    intro w hSw
    dsimp only [SL] at hSw
    go_simp
    try with_reducible rfl
  simp only [Act.put, List.getElem_toArray, List.getElem_cons_succ, List.getElem_cons_zero, List.setIfInBounds_toArray, List.set_cons_zero, List.set_cons_succ]
  refine wpAnyH_done (by kernel_rfl) ?_ _
  refine NoPanic.normal ?_
  go_wp2
  go_ret
  exact ⟨rfl, BB2.out⟩
end Go.Proofs.YtpoaikbedcfgaaaDoor
