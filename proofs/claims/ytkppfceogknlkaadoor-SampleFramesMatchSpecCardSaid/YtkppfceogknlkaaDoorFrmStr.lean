/-
  Strata of package sample.
-/
import Derived.Test.YtkppfceogknlkaaDoorFrmChkF
import Derived.RegionTactic
import Derived.Deep.RegionHeld3
namespace Go.Proofs.YtkppfceogknlkaaDoor
open Go.RowKit Go.WideMaps Go.Maps

theorem firstE_zero {l : List Un} : ∀ {k}, firstE l k = 0 → ∀ j, j < k → chkU (un l j) (prev l j) = 0
  | 0, _, j, hj => by omega
  | k + 1, h, j, hj => by
    have h' : (if firstE l k = 0 then chkU (un l k) (prev l k) else firstE l k) = 0 := h
    by_cases e : firstE l k = 0
    · rw [if_pos e] at h'
      by_cases ej : j = k
      · subst ej; exact h'
      · exact firstE_zero e j (by omega)
    · rw [if_neg e] at h'
      exact absurd h' e
theorem chkU_zero {u : Un} {p : Int} (h : chkU u p = 0) : 0 ≤ u.cl ∧ u.cl ≤ 5000 ∧ 1 ≤ u.sz ∧ u.sz ≤ 1000000 := by
  unfold chkU at h
  repeat' split at h
  all_goals omega
theorem fine_of {l : List Un} (h : chkF l = 0) (hst : ∀ u, u ∈ l → u.st.size ≤ maxLen) : Fine l := by
  by_cases h5 : l.length ≤ 5000
  · have h0 : firstE l l.length = 0 := by
      unfold chkF at h
      rw [if_pos h5] at h
      by_cases e : firstE l l.length = 0
      · exact e
      · rw [if_neg e] at h; exact h
    have key : ∀ u, u ∈ l → 0 ≤ u.cl ∧ u.cl ≤ 5000 ∧ 1 ≤ u.sz ∧ u.sz ≤ 1000000 := fun u hu => by
      obtain ⟨i, hi, rfl⟩ := List.mem_iff_getElem.1 hu
      have t := chkU_zero (firstE_zero h0 i hi)
      unfold un at t
      rw [List.getD, List.getElem?_eq_getElem hi] at t
      exact t
    exact ⟨h5, hst, fun u hu => ⟨(key u hu).1, (key u hu).2.1⟩, fun u hu => ⟨by have := (key u hu).2.2.1; omega, (key u hu).2.2.2⟩⟩
  · rw [chkF_large h5] at h
    omega
/-- The cells of j strata. -/
def rcells (F : Nat → List Value) : Nat → List Value
  | 0 => []
  | j + 1 => rcells F j ++ F j
/-- A stratum's cells. -/
def stF (l : List Un) (x : List UInt8) : List Value := [.string (bs x), .int .i64 (gp (keyS l) (places l.length) x).length, .int .i64 (gk leN (keyI l) (gp (keyS l) (places l.length) x)).length, .int .i64 (szs l (gp (keyS l) (places l.length) x) (gp (keyS l) (places l.length) x).length)]
/-- A slice of the call's own that reads as the strata. -/
def IsSt (W : World) (v : Value) (l : List Un) : Prop := ∃ L, W.ownsRow L 30 4 v (strN l).length (rcells (fun i => stF l ((strN l).getD i [])) (strN l).length)
def StP (l : List Un) (w : World) (e : Ending) (w' : World) : Prop := ∃ v, e = .returned (.tuple #[v, .int .i64 (chkF l)]) ∧ Below w.heap.size w w' ∧ (chkF l ≠ 0 → v = .slice none 0 0) ∧ (chkF l = 0 → IsSt w' v l)
theorem infoSt : (Tryd.prog.info? 30).map (fun i => (i.zero, i.size, i.bytes)) = some (some (.agg #[.string ⟨#[]⟩, .int .i64 0, .int .i64 0, .int .i64 0]), 4, 40) := by kernel_rfl
/-- The box of a group. -/
def Sg (x : Nat) (kb : ByteArray) (v : Value) (W : World) : Prop := W.cell? ⟨x, 0, none⟩ = some (.string kb) ∧ W.cell? ⟨x, 1, none⟩ = some v
theorem Sg.keep {x : Nat} {kb : ByteArray} {v : Value} {W W' : World} (h : Sg x kb v W) (hb : Below W.heap.size W W') (hx : x < W.heap.size) : Sg x kb v W' :=
  ⟨(hb.cell (p := ⟨x, 0, none⟩) hx).trans h.1, (hb.cell (p := ⟨x, 1, none⟩) hx).trans h.2⟩
theorem cell_four_new (w : World) (x y z u : Value) (e : TypeId) : ∀ j v, [x, y, z, u][j]? = some v → (w.alloc (.cells #[x, y, z, u] e)).cell? ((⟨w.heap.size, 0, none⟩ : Addr).add j) = some v := fun j v h => by
  have e1 : ∀ j, (⟨w.heap.size, 0, none⟩ : Addr).add j = ⟨w.heap.size, j, none⟩ := fun j => by
    by_cases h : j = 0
    · subst h; simp [Addr.add]
    · simp [Addr.add, h]
  rw [e1, World.cell?_alloc_at _ _ _ _ rfl]
  simpa using h
set_option maxRecDepth 100000 in
set_option maxHeartbeats 4000000 in
theorem Strata_c (a : Option Addr) (c : Nat) (l : List Un) (w : World) (hl : RdU w a l) (hst : ∀ u, u ∈ l → u.st.size ≤ maxLen) :
    Calls Tryd.prog 4 #[.slice a l.length c] w (StP l w) := by
  have HC := Lib.hid (CheckFrame_c a c l w hl hst)
  have HL := Lib.hid hl
  have h9 := hl.1
  by_cases h0 : chkF l = 0
  · have hf := fine_of h0 hst
    have h5 := hf.len
    have HF := Lib.hid hf
    have H0 := Lib.hid h0
    obtain ⟨j0, hj, hy0, hy1, hy2⟩ := info_parts infoSt
    rw [h0] at HC
    clear hl hst hf
    go_enter Tryd.func4, Tryd.ntmps4
    go_wp2_with fail
    refine HC.out.mono ?_
    rintro e w1 ⟨rfl, b1⟩
    have B1 := Lib.hid b1
    clear b1 h0
    go_wp2_with fail
    refine (strataOf_c a c l w1 (HL.out.below B1.out) HF.out).mono ?_
    rintro e w2 ⟨v, rfl, ⟨ga, gc, rfl, hm9, hG⟩, b2⟩
    have e1 : KS l (places l.length) = strN l := strN_is l
    rw [e1] at hG hm9 ⊢
    have B2 := Lib.hid (B1.out.trans (b2.mono B1.out.size))
    have HG := Lib.hid hG
    have hm5 : (strN l).length ≤ 5000 := by rw [← e1]; exact Nat.le_trans (gk_len_le leS (keyS l) (places l.length)) (by rw [places_len]; exact h5)
    clear b2 hG hm9 e1 HC
    go_wp2_with fail
    go_loopw [5, 16] (fun o i wr => ∃ j : Nat, j ≤ (strN l).length ∧ i = .int .i64 j ∧ Hid (wr.ownsRow w2.heap.size 30 4 o j (rcells (fun i => stF l ((strN l).getD i [])) j) ∧ Below w2.heap.size w2 wr)) (fun _ i _ => (strN l).length - (intOf i).toNat)
    case atStart => exact ⟨0, Nat.zero_le _, rfl, World.ownsRow_nil _ _ _ _, Below.refl _ _⟩
    case round =>
      obtain ⟨j, hjm, rfl, hR⟩ := hrel
      by_cases hlt : j < (strN l).length
      · have hlt' : (j : Int) < ((strN l).length : Int) := by omega
        obtain ⟨gb, rfl, hgl, hgc⟩ := HG.out (by omega)
        obtain ⟨c0, pa, pc, c1, c2⟩ := hgc j hlt
        have cc0 := (hR.out.2.cell (p := ⟨gb, j * 2, none⟩) hgl).trans c0
        have cc1 := (hR.out.2.cell (p := ⟨gb, j * 2 + 1, none⟩) hgl).trans c1
        have HPS := Lib.hid (c2.below hR.out.2)
        have HLR := Lib.hid (HL.out.below (B2.out.trans (hR.out.2.mono B2.out.size)))
        clear c0 c1 c2 hgc
        obtain ⟨kb, hkb⟩ : ∃ kb : ByteArray, bs ((strN l).getD j []) = kb := ⟨_, rfl⟩
        have ck : wr.cell? ⟨gb, j * 2, none⟩ = some (.string kb) := by rw [← hkb]; exact cc0
        obtain ⟨ps, hps⟩ : ∃ ps, gp (keyS l) (places l.length) ((strN l).getD j []) = ps := ⟨_, rfl⟩
        have hpe : PS l (places l.length) (strN l) j = ps := hps
        rw [hpe] at cc1 HPS
        have HIN : Hid (∀ z, z ∈ ps → ∃ k : Nat, k < l.length ∧ z = (k : Int)) := fun z hz => by
          rw [← hps] at hz
          exact mem_places (List.mem_filter.1 hz).1
        have hpl : ps.length ≤ 5000 := by
          have h := List.length_filter_le (fun z => decide (keyS l z = (strN l).getD j [])) (places l.length)
          rw [places_len] at h
          rw [← hps]
          unfold gp
          omega
        have hstF : Hid (stF l ((strN l).getD j []) = [.string kb, .int .i64 ps.length, .int .i64 (gk leN (keyI l) ps).length, .int .i64 (szs l ps ps.length)]) := by unfold Hid stF; rw [hkb, hps]
        have hgkl : (gk leN (keyI l) ps).length ≤ 5000 := Nat.le_trans (gk_len_le leN (keyI l) ps) hpl
        obtain ⟨W1, hW1⟩ : ∃ W1, wr.alloc (.cells #[.string kb, .slice pa ps.length pc] 36) = W1 := ⟨_, rfl⟩
        have hSg : Sg wr.heap.size kb (.slice pa ps.length pc) W1 := by rw [← hW1]; exact ⟨by rw [World.cell?_alloc_at _ _ _ _ rfl]; rfl, by rw [World.cell?_alloc_at _ _ _ _ rfl]; rfl⟩
        have B3 : Hid (Below wr.heap.size wr W1 ∧ wr.heap.size < W1.heap.size) := by unfold Hid; rw [← hW1]; exact ⟨bel_one _ _, by simp⟩
        clear cc0 hkb hpe
        go_wp2_with fail
        clear hW1 ck cc1
        have hS := hSg.keep (Below.refl _ _).drew B3.out.2
        have B4 : Hid (Below wr.heap.size wr W1.drew ∧ wr.heap.size < W1.drew.heap.size) := ⟨B3.out.1.trans ((Below.refl _ _).drew.mono B3.out.1.size), B3.out.2⟩
        clear hSg B3
        generalize hx : wr.heap.size = x at *
        have HX := Lib.hid hx
        clear hx
        refine wp_region_noPanic ?_
        refine wp_region_held_drew (S := Sg x kb (.slice pa ps.length pc)) (by kernel_rfl) hS (fun hHeld => ?_)
        clear hHeld
        generalize W1.drew = WD at hS B4 ⊢
        refine wpAnyH_take (i := 0) (v := ?v0z1) rfl (by kernel_rfl) (by kernel_rfl) (by kernel_rfl) (fun _ _ _ h => h) (Or.inl ⟨by rfl, ?hy0z1⟩) (by assumption) ?rest0z1
        case hy0z1 =>
          intro w hSw
          dsimp only [Sg] at hSw
          go_simp
          try with_reducible rfl
        simp only [Act.put, List.getElem_toArray, List.getElem_cons_succ, List.getElem_cons_zero, List.setIfInBounds_toArray, List.set_cons_zero, List.set_cons_succ]
        refine wpAnyH_take (i := 1) (v := ?v1z2) rfl (by kernel_rfl) (by kernel_rfl) (by kernel_rfl) (fun _ _ _ h => h) (Or.inl ⟨by rfl, ?hy1z2⟩) (by assumption) ?rest1z2
        case hy1z2 =>
          intro w hSw
          dsimp only [Sg] at hSw
          go_simp
          try with_reducible rfl
        simp only [Act.put, List.getElem_toArray, List.getElem_cons_succ, List.getElem_cons_zero, List.setIfInBounds_toArray, List.set_cons_zero, List.set_cons_succ]
        refine wpAnyH_take (i := 2) (v := ?v2z3) rfl (by kernel_rfl) (by kernel_rfl) (by kernel_rfl) (fun _ _ _ h => h) (Or.inl ⟨by rfl, ?hy2z3⟩) (by assumption) ?rest2z3
        case hy2z3 =>
          intro w hSw
          dsimp only [Sg] at hSw
          go_simp
          try with_reducible rfl
        simp only [Act.put, List.getElem_toArray, List.getElem_cons_succ, List.getElem_cons_zero, List.setIfInBounds_toArray, List.set_cons_zero, List.set_cons_succ]
        refine wpAnyH_take (i := 3) (v := ?v3z4) rfl (by kernel_rfl) (by kernel_rfl) (by kernel_rfl) (fun _ _ _ h => h) (Or.inl ⟨by rfl, ?hy3z4⟩) (by assumption) ?rest3z4
        case hy3z4 =>
          intro w hSw
          dsimp only [Sg] at hSw
          go_simp
          try with_reducible rfl
        simp only [Act.put, List.getElem_toArray, List.getElem_cons_succ, List.getElem_cons_zero, List.setIfInBounds_toArray, List.set_cons_zero, List.set_cons_succ]
        refine wpAnyH_take (i := 4) (v := ?v4z5) rfl (by kernel_rfl) (by kernel_rfl) (by kernel_rfl) (fun _ _ _ h => h) (Or.inl ⟨by rfl, ?hy4z5⟩) (by assumption) ?rest4z5
        case hy4z5 =>
          intro w hSw
          dsimp only [Sg] at hSw
          go_simp
          try with_reducible rfl
        simp only [Act.put, List.getElem_toArray, List.getElem_cons_succ, List.getElem_cons_zero, List.setIfInBounds_toArray, List.set_cons_zero, List.set_cons_succ]
        refine wpAnyH_take (i := 5) (v := ?v5z6) rfl (by kernel_rfl) (by kernel_rfl) (by kernel_rfl) (fun _ _ _ h => h) (Or.inl ⟨by rfl, ?hy5z6⟩) (by assumption) ?rest5z6
        case hy5z6 =>
          intro w hSw
          dsimp only [Sg] at hSw
          go_simp
          try with_reducible rfl
        simp only [Act.put, List.getElem_toArray, List.getElem_cons_succ, List.getElem_cons_zero, List.setIfInBounds_toArray, List.set_cons_zero, List.set_cons_succ]
        refine wpAnyH_take (i := 6) (v := ?v6z7) rfl (by kernel_rfl) (by kernel_rfl) (by kernel_rfl) (fun _ _ _ h => h) (Or.inl ⟨by rfl, ?hy6z7⟩) (by assumption) ?rest6z7
        case hy6z7 =>
          intro w hSw
          dsimp only [Sg] at hSw
          go_simp
          try with_reducible rfl
        simp only [Act.put, List.getElem_toArray, List.getElem_cons_succ, List.getElem_cons_zero, List.setIfInBounds_toArray, List.set_cons_zero, List.set_cons_succ]
        refine wpAnyH_take (i := 7) (v := ?v7z8) rfl (by kernel_rfl) (by kernel_rfl) (by kernel_rfl) (fun _ _ _ h => h) (Or.inl ⟨by rfl, ?hy7z8⟩) (by assumption) ?rest7z8
        case hy7z8 =>
          intro w hSw
          dsimp only [Sg] at hSw
          go_simp
          try with_reducible rfl
        simp only [Act.put, List.getElem_toArray, List.getElem_cons_succ, List.getElem_cons_zero, List.setIfInBounds_toArray, List.set_cons_zero, List.set_cons_succ]
        refine wpAnyH_take (i := 8) (v := ?v8z9) rfl (by kernel_rfl) (by kernel_rfl) (by kernel_rfl) (fun _ _ _ h => h) (Or.inl ⟨by rfl, ?hy8z9⟩) (by assumption) ?rest8z9
        case hy8z9 =>
          intro w hSw
          dsimp only [Sg] at hSw
          go_simp
          try with_reducible rfl
        simp only [Act.put, List.getElem_toArray, List.getElem_cons_succ, List.getElem_cons_zero, List.setIfInBounds_toArray, List.set_cons_zero, List.set_cons_succ]
        refine wpAnyH_take (i := 11) (v := ?v11z10) rfl (by kernel_rfl) (by kernel_rfl) (by kernel_rfl) (fun _ _ _ h => h) (Or.inl ⟨by rfl, ?hy11z10⟩) (by assumption) ?rest11z10
        case hy11z10 =>
          intro w hSw
          dsimp only [Sg] at hSw
          go_simp
          try with_reducible rfl
        simp only [Act.put, List.getElem_toArray, List.getElem_cons_succ, List.getElem_cons_zero, List.setIfInBounds_toArray, List.set_cons_zero, List.set_cons_succ]
        refine wpAnyH_take (i := 12) (v := ?v12z11) rfl (by kernel_rfl) (by kernel_rfl) (by kernel_rfl) (fun _ _ _ h => h) (Or.inl ⟨by rfl, ?hy12z11⟩) (by assumption) ?rest12z11
        case hy12z11 =>
          intro w hSw
          dsimp only [Sg] at hSw
          go_simp
          try with_reducible rfl
        simp only [Act.put, List.getElem_toArray, List.getElem_cons_succ, List.getElem_cons_zero, List.setIfInBounds_toArray, List.set_cons_zero, List.set_cons_succ]
        refine wpAnyH_take (i := 13) (v := ?v13z12) rfl (by kernel_rfl) (by kernel_rfl) (by kernel_rfl) (fun _ _ _ h => h) (Or.inl ⟨by rfl, ?hy13z12⟩) (by assumption) ?rest13z12
        case hy13z12 =>
          intro w hSw
          dsimp only [Sg] at hSw
          go_simp
          try with_reducible rfl
        simp only [Act.put, List.getElem_toArray, List.getElem_cons_succ, List.getElem_cons_zero, List.setIfInBounds_toArray, List.set_cons_zero, List.set_cons_succ]
        refine wpAnyH_ready (rs := [9]) (by kernel_rfl) (by simp) ?_
        refine AllReadyH.cons rfl (fun K hK => ?_) AllReadyH.nil
        go_simp
        refine (clustersOf_c a pa c pc l ps WD (HLR.out.below (by rw [HX.out]; exact B4.out.1)) (HPS.out.below (by rw [HX.out]; exact B4.out.1)) HF.out HIN.out hpl).mono ?_
        rintro e W5 ⟨v2, rfl, hG2, b5⟩
        obtain ⟨ca, cc, hv2, hG2⟩ := hG2
        subst hv2
        try go_simp
        have hT := hS.keep b5 B4.out.2
        have B5 : Hid (Below x wr W5 ∧ x < W5.heap.size) := ⟨B4.out.1.trans (b5.mono (Nat.le_of_lt B4.out.2)), Nat.lt_of_lt_of_le B4.out.2 b5.size⟩
        refine hK.out _ _ hT (fun _ => ?_)
        clear hK K hS b5 B4 hG2
        have hS := hT
        clear hT
        try simp only [Act.put, List.setIfInBounds_toArray, List.set_cons_zero, List.set_cons_succ]
        refine wpAnyH_take (i := 10) (v := ?v10z13) rfl (by kernel_rfl) (by kernel_rfl) (by kernel_rfl) (fun _ _ _ h => h) (Or.inl ⟨by rfl, ?hy10z13⟩) (by assumption) ?rest10z13
        case hy10z13 =>
          intro w hSw
          dsimp only [Sg] at hSw
          go_simp
          try with_reducible rfl
        simp only [Act.put, List.getElem_toArray, List.getElem_cons_succ, List.getElem_cons_zero, List.setIfInBounds_toArray, List.set_cons_zero, List.set_cons_succ]
        refine wpAnyH_ready (rs := [14]) (by kernel_rfl) (by simp) ?_
        refine AllReadyH.cons rfl (fun K hK => ?_) AllReadyH.nil
        go_simp
        refine (sizeOf_c a pa c pc l ps W5 (HLR.out.below (by rw [HX.out]; exact B5.out.1)) (HPS.out.below (by rw [HX.out]; exact B5.out.1)) HF.out HIN.out hpl).mono ?_
        rintro e W6 ⟨rfl, hw6⟩
        subst hw6
        try go_simp
        refine hK.out _ _ hS (fun _ => ?_)
        clear hK K
        try simp only [Act.put, List.setIfInBounds_toArray, List.set_cons_zero, List.set_cons_succ]
        refine wpAnyH_take (i := 15) (v := ?v15z14) rfl (by kernel_rfl) (by kernel_rfl) (by kernel_rfl) (fun _ _ _ h => h) (Or.inl ⟨by rfl, ?hy15z14⟩) (by assumption) ?rest15z14
        case hy15z14 =>
          intro w hSw
          dsimp only [Sg] at hSw
          go_simp
          try with_reducible rfl
        simp only [Act.put, List.getElem_toArray, List.getElem_cons_succ, List.getElem_cons_zero, List.setIfInBounds_toArray, List.set_cons_zero, List.set_cons_succ]
        refine wpAnyH_ready (rs := [16]) (by kernel_rfl) (by simp) ?_
        refine AllReadyH.cons rfl (fun K hK => ?_) AllReadyH.nil
        go_simp
        have hT := hS.keep (bel_one W5 (.cells #[.string kb, .int .i64 ps.length, .int .i64 (gk leN (keyI l) ps).length, .int .i64 (szs l ps ps.length)] 30)) B5.out.2
        refine hK.out _ _ hT (fun _ => ?_)
        clear hK K hS
        have hS := hT
        clear hT
        try simp only [Act.put, List.setIfInBounds_toArray, List.set_cons_zero, List.set_cons_succ]
        refine wpAnyH_ready (rs := [17]) (by kernel_rfl) (by simp) ?_
        refine AllReadyH.cons rfl (fun K hK => ?_) AllReadyH.nil
        rw [if_pos (by rfl)]
        have hr5 : W5.ownsRow w2.heap.size 30 4 u5 j (rcells (fun i => stF l ((strN l).getD i [])) j) := by
          refine hR.out.1.kept (below_grow (show Below wr.heap.size wr W5 by rw [HX.out]; exact B5.out.1)) ?_
          cases u5.ownBlock with
          | none => exact .inl rfl
          | some _ => exact .inr (by simp)
        have hb5 : w2.heap.size ≤ W5.heap.size := Nat.le_trans hR.out.2.size B5.out.1.size
        refine wp_append_own _ _ _ 23 rfl w2.heap.size 30 j0 (.agg #[.string ⟨#[]⟩, .int .i64 0, .int .i64 0, .int .i64 0]) 4 40 Tryd.underlying23 hj hy0 hy1 hy2 rfl (by decide) _ _ _ rfl (hr5.alloc _) ⟨W5.heap.size, 0, none⟩ 1 1 [.string kb, .int .i64 ps.length, .int .i64 (gk leN (keyI l) ps).length, .int .i64 (szs l ps ps.length)] rfl rfl (cell_four_new _ _ _ _ _ _) (by simp [Value.oneCell']) (by unfold maxLen; omega) (by omega) (by simp; omega) (fun v' w7 hown' hgrow hnil => ?_)
        have hlt5 : ∀ g, u5.ownBlock = some g → w2.heap.size ≤ g ∧ g < x := fun g hg => by rw [← HX.out]; exact hR.out.1.lt g hg
        have hne : some x ≠ u5.ownBlock := fun e => by have := (hlt5 x e.symm).2; omega
        have hT : Sg x kb (.slice pa ps.length pc) w7 := ⟨hgrow.cell hS.1 hne, hgrow.cell hS.2 hne⟩
        have NX : Hid (w7.ownsRow w2.heap.size 30 4 v' (j + 1) (rcells (fun i => stF l ((strN l).getD i [])) (j + 1)) ∧ Below w2.heap.size w2 w7) := by
          refine ⟨?_, ?_⟩
          · show w7.ownsRow w2.heap.size 30 4 v' (j + 1) (rcells (fun i => stF l ((strN l).getD i [])) j ++ stF l ((strN l).getD j []))
            rw [hstF.out]
            exact hown'
          · have b6 : Below w2.heap.size w2 W5 := hR.out.2.trans (B5.out.1.mono (by rw [← HX.out]; exact hR.out.2.size))
            exact (b6.trans ((bel_one W5 _).mono b6.size)).grown hgrow (by simp; omega) (fun g hg => (hlt5 g hg).1)
        clear hown' hgrow hnil hr5 hne
        refine hK.out _ _ hT (fun _ => ?_)
        clear hK K hS
        have hS := hT
        clear hT
        try simp only [Act.put, List.setIfInBounds_toArray, List.set_cons_zero, List.set_cons_succ]
        refine wpAnyH_take (i := 18) (v := ?v18z15) rfl (by kernel_rfl) (by kernel_rfl) (by kernel_rfl) (fun _ _ _ h => h) (Or.inl ⟨by rfl, ?hy18z15⟩) (by assumption) ?rest18z15
        case hy18z15 =>
          intro w hSw
          dsimp only [Sg] at hSw
          go_simp
          try with_reducible rfl
        simp only [Act.put, List.getElem_toArray, List.getElem_cons_succ, List.getElem_cons_zero, List.setIfInBounds_toArray, List.set_cons_zero, List.set_cons_succ]
        refine wpAnyH_done (by kernel_rfl) ?_ _
        refine NoPanic.normal ?_
        clear hS
        go_wp2
        go_roundw
        case rel => exact ⟨j + 1, by omega, by go_num, NX.out⟩
        case measure => simp [intOf]; omega
      · obtain rfl : j = (strN l).length := by omega
        go_wp2
        go_ret2
        exact ⟨u5, by rw [H0.out]; rfl, B2.out.trans (hR.out.2.mono B2.out.size), fun h => absurd H0.out h, fun _ => ⟨_, hR.out.1⟩⟩
  · have H0 := Lib.hid h0
    have hf' : (chkF l == 0) = false := by rw [beq_eq_false_iff_ne]; exact h0
    clear hl hst
    go_enter Tryd.func4, Tryd.ntmps4
    go_wp2_with fail
    refine HC.out.mono ?_
    rintro e w1 ⟨rfl, b1⟩
    have B1 := Lib.hid b1
    clear b1
    go_wp2
    go_ret2
    exact ⟨_, rfl, B1.out, fun _ => rfl, fun h => absurd h H0.out⟩
end Go.Proofs.YtkppfceogknlkaaDoor
