/-
  The reference of package code: cases.
-/
import Derived.Test.YthdmodmplpoejaaDoorCdRcsB
import Derived.Deep.RegionHeld3
import Derived.Deep.AppendLies
namespace Go.Proofs.YthdmodmplpoejaaDoor
open Go.RowKit Go.WideMaps Go.Maps

/-- What lies there ahead of coding k. -/
def RelQ (C : List Cg) (w wr : World) (v : Value) (k : Nat) : Prop :=
  (k = 0 ∧ v = .slice none 0 0 ∧ Below w.heap.size w wr) ∨ (0 < k ∧ ∃ vl xs, InQ w wr v vl xs (cas C (k - 1)) (seg C (beg C (k - 1)) (k - beg C (k - 1))))
theorem rel_more {C : List Cg} {w wr : World} {v vl : Value} {xs : List Value} {R : List (List Cg)} {L : List Cg} {k : Nat} (e : R = cas C k ∧ L = seg C (beg C k) (k + 1 - beg C k)) (h : InQ w wr v vl xs R L) : RelQ C w wr v (k + 1) :=
  .inr ⟨by omega, vl, xs, by rw [Nat.add_sub_cancel, ← e.1, ← e.2]; exact h⟩
/-- The box of the round. -/
def S7 (z : Nat) (u : Cg) (V : World) : Prop := V.cell? ⟨z, 0, none⟩ = some (.int .i64 u.ca) ∧ V.cell? ⟨z, 1, none⟩ = some (.int .i64 u.co) ∧ V.cell? ⟨z, 2, none⟩ = some (.int .i64 u.cd)
structure B0 (V : World) (z : Nat) (u : Cg) : Prop where
  c0 : V.cell? ⟨z, 0, none⟩ = some (.int .i64 u.ca)
  c1 : V.cell? ⟨z, 1, none⟩ = some (.int .i64 u.co)
  c2 : V.cell? ⟨z, 2, none⟩ = some (.int .i64 u.cd)
  lt : z < V.heap.size
theorem B0.keep {V W : World} {z : Nat} {u : Cg} (h : B0 V z u) (hb : Below V.heap.size V W) : B0 W z u :=
  ⟨(hb.cell (p := ⟨z, 0, none⟩) h.lt).trans h.c0, (hb.cell (p := ⟨z, 1, none⟩) h.lt).trans h.c1, (hb.cell (p := ⟨z, 2, none⟩) h.lt).trans h.c2, Nat.lt_of_lt_of_le h.lt hb.size⟩
theorem box_of {V : World} {z : Nat} {u : Cg} (h : S7 z u V ∧ z < V.heap.size) : B0 V z u := ⟨h.1.1, h.1.2.1, h.1.2.2, h.2⟩
theorem s7_of {V : World} {z : Nat} {u : Cg} (h : B0 V z u) : S7 z u V := ⟨h.c0, h.c1, h.c2⟩
theorem box_three (wr : World) (u : Cg) : CodB wr (wr.alloc (.cells #[.int .i64 u.ca, .int .i64 u.co, .int .i64 u.cd] 49)) u := cod_b wr u
set_option maxRecDepth 100000 in
set_option maxHeartbeats 4000000 in
theorem rcases_c (a : Option Addr) (c : Nat) (C : List Cg) (w : World) (hC : RdC w a C) (hn : C.length ≤ 20000) :
    Calls Tryd.prog 50 #[.slice a C.length c] w (CsP C w) := by
  obtain ⟨i0, hi, hz0, hz1, hz2⟩ := info_parts infoS
  obtain ⟨j0, hj, hy0, hy1, hy2⟩ := info_parts infoC
  have HC := Lib.hid hC
  have h9 := hC.1
  clear hC
  go_enter Tryd.func50, Tryd.ntmps50
  go_wp2
  go_loopw [3, 8] (fun v i wr => ∃ k : Nat, k ≤ C.length ∧ i = .int .i64 k ∧ Hid (RelQ C w wr v k)) (fun _ i _ => C.length - (intOf i).toNat)
  case atStart => exact ⟨0, Nat.zero_le _, rfl, .inl ⟨rfl, rfl, Below.refl _ _⟩⟩
  case round =>
    obtain ⟨k, hk, rfl, hS⟩ := hrel
    have BE : Hid (Below w.heap.size w wr) := by
      rcases hS.out with ⟨_, _, h⟩ | ⟨_, _, _, h⟩
      · exact h
      · exact h.bel
    by_cases hlt : k < C.length
    · obtain ⟨b', off, rfl, u0, u1, u2⟩ := (HC.out.below BE.out).at_ hlt
      have hlt' : (k : Int) < (C.length : Int) := by omega
      have hk9 : (k : Int) < 20000 := by omega
      obtain ⟨W1, hW1⟩ : ∃ W1, wr.alloc (.cells #[.int .i64 (cg C k).ca, .int .i64 (cg C k).co, .int .i64 (cg C k).cd] 49) = W1 := ⟨_, rfl⟩
      have N1 : Hid (CodB wr W1 (cg C k)) := by unfold Hid; rw [← hW1]; exact cod_b _ _
      have v0 := N1.out.2.c0
      obtain ⟨z, hz⟩ : ∃ z, wr.heap.size = z := ⟨_, rfl⟩
      have ZL : Hid (z < W1.heap.size) := by rw [← hz]; exact N1.out.2.lt
      have BX : Hid (B3 W1 z (.int .i64 (cg C k).ca) (.int .i64 (cg C k).co) (.int .i64 (cg C k).cd)) := by rw [← hz]; exact N1.out.2
      rw [hz] at v0
      by_cases hk0 : k = 0
      · obtain rfl : u3 = .slice none 0 0 := by
          rcases hS.out with ⟨_, h, _⟩ | ⟨h, _⟩
          · exact h
          · omega
        have BW1 := Lib.hid (BE.out.trans (N1.out.1.mono BE.out.size))
        subst hk0
        simp only [Nat.zero_mul, Nat.add_zero] at u0 u1 u2
        clear hS N1 BE
        go_wp2_with fail
        go_quiet (fail)
        have O2 : Hid (Below w.heap.size w (W1.drewN nq) ∧ B3 (W1.drewN nq) z (.int .i64 (cg C 0).ca) (.int .i64 (cg C 0).co) (.int .i64 (cg C 0).cd)) := ⟨below_drewN BW1.out nq, BX.out.keep (below_drewN (Below.refl _ _) nq)⟩
        clear BW1 hW1 u0 u1 u2 v0 BX
        have ZL2 : Hid (z < (W1.drewN nq).heap.size) := ZL.out
        clear ZL
        generalize W1.drewN nq = W2 at O2 ZL2 ⊢
        have ON : Hid (W2.ownsRow w.heap.size 35 1 (.slice none 0 0) 0 []) := World.ownsRow_nil _ _ _ _
        go_wp2_with (at_builtin; refine wpList_append_own_at _ rfl _ _ 88 rfl w.heap.size 35 i0 (.slice none 0 0) 1 24 Tryd.underlying88 hi hz0 hz1 hz2 rfl (by decide) _ _ _ rfl (ON.out.alloc _) ⟨W2.heap.size, 0, none⟩ 1 1 [.slice none 0 0] rfl rfl (cell_one_new _ _ _) (by simp [Value.oneCell']) ?c3 ?c4 ?c5 ?_)
        case c3 => unfold maxLen; omega
        case c4 => omega
        case c5 => have := O2.out.1.size; simp; omega
        intro v' w4 hown hgrow _ hloc
        have Q : Hid (InQ w w4 v' (.slice none 0 0) [] [] []) := inQ_first O2.out.1 hown hgrow
        have b4 : Below W2.heap.size W2 w4 := ((bel_one W2 _).grown hgrow (by simp) (fun g hg => by cases hg))
        have X : Hid (S7 z (cg C 0) w4 ∧ z < w4.heap.size) := by
          have := O2.out.2.keep b4
          exact ⟨⟨this.c0, this.c1, this.c2⟩, this.lt⟩
        have ZL : Hid (z < w4.heap.size) := X.out.2
        have VZ : Hid (v'.ownBlock ≠ some z) := fun e => by
          have h1 := ZL2.out
          rcases hloc with h | h
          · rw [h] at e; simp [Value.ownBlock] at e
          · rw [h] at e; injection e with e; first | omega | (simp at e; omega)
        have VZL : Hid ((.slice none 0 0 : Value).ownBlock ≠ some z) := by unfold Hid; simp [Value.ownBlock]
        have EE : Hid (([] : List (List Cg)) = cas C 0 ∧ ([] : List Cg) ++ [cg C 0] = seg C (beg C 0) (0 + 1 - beg C 0)) := ⟨rfl, rfl⟩
        obtain ⟨R, hR'⟩ : ∃ R : List (List Cg), R = [] := ⟨_, rfl⟩
        obtain ⟨xs, hxs⟩ : ∃ xs : List Value, xs = [] := ⟨_, rfl⟩
        have hR : R.length ≤ 20000 := by rw [hR']; simp
        rw [← hR'] at EE
        rw [← hR', ← hxs] at Q
        clear hown hgrow hloc b4 O2 ON hR' hxs ZL2
        obtain ⟨gv, cap, rfl, hcv0, hgl, hgb⟩ := Q.out.val
        have hm9 : R.length ≤ 20000 := hR
        obtain ⟨m, hm⟩ : ∃ m, R.length = m := ⟨_, rfl⟩
        have HM := Lib.hid hm
        rw [hm] at hcv0 hm9
        have hm1 : (m : Int) + 1 - 1 = (m : Int) := by omega
        have hm2 : (m : Int) < (m : Int) + 1 := by omega
        have hmw : IntKind.i64.wrap (m : Int) = (m : Int) := by rw [IntKind.wrap_i64] <;> omega
        have hm0 : (0 : Int) ≤ (m : Int) := by omega
        have VZ2 : Hid (gv ≠ z) := fun e => VZ.out (by rw [e]; rfl)
        clear hR
        rw [hm]
        go_wp2_with fail
        refine wp_region_noPanic ?_
        refine wp_region_held_drew (S := S7 z (cg C 0)) (by kernel_rfl) (s7_of ((box_of X.out).keep (Below.refl _ _).drew)) (fun hS => ?_)
        obtain ⟨WD, hWD⟩ : ∃ W, w4.drew = W := ⟨_, rfl⟩
        have D0 : Hid (Below w4.heap.size w4 WD) := by unfold Hid; rw [← hWD]; exact (Below.refl _ _).drew
        rw [hWD] at hS ⊢
        clear hWD
        have QD := Lib.hid (Q.out.keep D0.out)
        have hcv : WD.cell? ⟨gv, m, none⟩ = some (.slice none 0 0) := (D0.out.cell (p := ⟨gv, m, none⟩) hgl).trans hcv0
        have GL : Hid (gv < WD.heap.size) := Nat.lt_of_lt_of_le hgl D0.out.size
        have hS0 : Hid (S7 z (cg C 0) WD ∧ z < WD.heap.size) := ⟨hS, Nat.lt_of_lt_of_le ZL.out D0.out.size⟩
        clear hcv0 hgl Q X D0
        refine wpAnyH_take (i := 0) (v := ?v0z1) rfl (by kernel_rfl) (by kernel_rfl) (by kernel_rfl) (fun _ _ _ h => h) (Or.inl ⟨by rfl, ?hy0z1⟩) (by assumption) ?rest0z1
        case hy0z1 =>
          intro w hSw
          dsimp only [S7] at hSw
          go_simp
          try with_reducible rfl
        simp only [Act.put, List.getElem_toArray, List.getElem_cons_succ, List.getElem_cons_zero, List.setIfInBounds_toArray, List.set_cons_zero, List.set_cons_succ]
        refine wpAnyH_take (i := 1) (v := ?v1z2) rfl (by kernel_rfl) (by kernel_rfl) (by kernel_rfl) (fun _ _ _ h => h) (Or.inl ⟨by rfl, ?hy1z2⟩) (by assumption) ?rest1z2
        case hy1z2 =>
          intro w hSw
          dsimp only [S7] at hSw
          go_simp
          try with_reducible rfl
        simp only [Act.put, List.getElem_toArray, List.getElem_cons_succ, List.getElem_cons_zero, List.setIfInBounds_toArray, List.set_cons_zero, List.set_cons_succ]
        refine wpAnyH_take (i := 2) (v := ?v2z3) rfl (by kernel_rfl) (by kernel_rfl) (by kernel_rfl) (fun _ _ _ h => h) (Or.inl ⟨by rfl, ?hy2z3⟩) (by assumption) ?rest2z3
        case hy2z3 =>
          intro w hSw
          dsimp only [S7] at hSw
          go_simp
          try with_reducible rfl
        simp only [Act.put, List.getElem_toArray, List.getElem_cons_succ, List.getElem_cons_zero, List.setIfInBounds_toArray, List.set_cons_zero, List.set_cons_succ]
        refine wpAnyH_take (i := 3) (v := ?v3z4) rfl (by kernel_rfl) (by kernel_rfl) (by kernel_rfl) (fun _ _ _ h => h) (Or.inl ⟨by rfl, ?hy3z4⟩) (by assumption) ?rest3z4
        case hy3z4 =>
          intro w hSw
          dsimp only [S7] at hSw
          go_simp
          try with_reducible rfl
        simp only [Act.put, List.getElem_toArray, List.getElem_cons_succ, List.getElem_cons_zero, List.setIfInBounds_toArray, List.set_cons_zero, List.set_cons_succ]
        refine wpAnyH_take (i := 4) (v := ?v4z5) rfl (by kernel_rfl) (by kernel_rfl) (by kernel_rfl) (fun _ _ _ h => h) (Or.inl ⟨by rfl, ?hy4z5⟩) (by assumption) ?rest4z5
        case hy4z5 =>
          intro w hSw
          dsimp only [S7] at hSw
          go_simp
          try with_reducible rfl
        simp only [Act.put, List.getElem_toArray, List.getElem_cons_succ, List.getElem_cons_zero, List.setIfInBounds_toArray, List.set_cons_zero, List.set_cons_succ]
        refine wpAnyH_take (i := 5) (v := ?v5z6) rfl (by kernel_rfl) (by kernel_rfl) (by kernel_rfl) (fun _ _ _ h => h) (Or.inl ⟨by rfl, ?hy5z6⟩) (by assumption) ?rest5z6
        case hy5z6 =>
          intro w hSw
          dsimp only [S7] at hSw
          go_simp
          try with_reducible rfl
        simp only [Act.put, List.getElem_toArray, List.getElem_cons_succ, List.getElem_cons_zero, List.setIfInBounds_toArray, List.set_cons_zero, List.set_cons_succ]
        refine wpAnyH_take (i := 6) (v := ?v6z7) rfl (by kernel_rfl) (by kernel_rfl) (by kernel_rfl) (fun _ _ _ h => h) (Or.inl ⟨by rfl, ?hy6z7⟩) (by assumption) ?rest6z7
        case hy6z7 =>
          intro w hSw
          dsimp only [S7] at hSw
          go_simp
          try with_reducible rfl
        simp only [Act.put, List.getElem_toArray, List.getElem_cons_succ, List.getElem_cons_zero, List.setIfInBounds_toArray, List.set_cons_zero, List.set_cons_succ]
        refine wpAnyH_take (i := 7) (v := ?v7z8) rfl (by kernel_rfl) (by kernel_rfl) (by kernel_rfl) (fun _ _ _ h => h) (Or.inl ⟨by rfl, ?hy7z8⟩) (by assumption) ?rest7z8
        case hy7z8 =>
          intro w hSw
          dsimp only [S7] at hSw
          go_simp
          try with_reducible rfl
        simp only [Act.put, List.getElem_toArray, List.getElem_cons_succ, List.getElem_cons_zero, List.setIfInBounds_toArray, List.set_cons_zero, List.set_cons_succ]
        refine wpAnyH_take (i := 8) (v := ?v8z9) rfl (by kernel_rfl) (by kernel_rfl) (by kernel_rfl) (fun _ _ _ h => h) (Or.inl ⟨by rfl, ?hy8z9⟩) (by assumption) ?rest8z9
        case hy8z9 =>
          intro w hSw
          dsimp only [S7] at hSw
          go_simp
          try with_reducible rfl
        simp only [Act.put, List.getElem_toArray, List.getElem_cons_succ, List.getElem_cons_zero, List.setIfInBounds_toArray, List.set_cons_zero, List.set_cons_succ]
        refine wpAnyH_take (i := 10) (v := ?v10z10) rfl (by kernel_rfl) (by kernel_rfl) (by kernel_rfl) (fun _ _ _ h => h) (Or.inl ⟨by rfl, ?hy10z10⟩) (by assumption) ?rest10z10
        case hy10z10 =>
          intro w hSw
          dsimp only [S7] at hSw
          go_simp
          try with_reducible rfl
        simp only [Act.put, List.getElem_toArray, List.getElem_cons_succ, List.getElem_cons_zero, List.setIfInBounds_toArray, List.set_cons_zero, List.set_cons_succ]
        refine wpAnyH_ready (rs := [9, 11]) (by kernel_rfl) (by simp) ?_
        refine AllReadyH.cons rfl (fun K hK => ?_) (AllReadyH.cons rfl (fun K hK => ?_) AllReadyH.nil)
        · go_simp
          refine hK.out _ _ hS (fun _ => ?_)
          clear hK K
          try simp only [Act.put, List.setIfInBounds_toArray, List.set_cons_zero, List.set_cons_succ]
          refine wpAnyH_ready (rs := [11]) (by kernel_rfl) (by simp) ?_
          refine AllReadyH.cons rfl (fun K hK => ?_) AllReadyH.nil
          go_simp
          have hT : S7 z (cg C 0) (WD.alloc (.cells #[.int .i64 (cg C 0).ca, .int .i64 (cg C 0).co, .int .i64 (cg C 0).cd] 49)) := s7_of ((box_of hS0.out).keep (bel_one WD _))
          have ca : (WD.alloc (.cells #[.int .i64 (cg C 0).ca, .int .i64 (cg C 0).co, .int .i64 (cg C 0).cd] 49)).cell? ⟨gv, m, none⟩ = some (.slice none 0 0) := ((bel_one WD _).cell (p := ⟨gv, m, none⟩) GL.out).trans hcv
          refine hK.out _ _ hT (fun _ => ?_)
          clear hK K hS
          have hS := hT
          clear hT
          try simp only [Act.put, List.setIfInBounds_toArray, List.set_cons_zero, List.set_cons_succ]
          have hx1 : ∀ u ∈ [Value.int .i64 (cg C 0).ca, .int .i64 (cg C 0).co, .int .i64 (cg C 0).cd], u.oneCell' = true := by intro u hu; simp at hu; rcases hu with rfl | rfl | rfl <;> rfl
          have hx2 : ([] : List Cg).length + 1 ≤ maxLen := by unfold maxLen; simp
          have hx3 : (([] : List Cg).length + 1) * 24 ≤ 140737488355328 := by simp
          have hx4 : w.heap.size ≤ (WD.alloc (.cells #[.int .i64 (cg C 0).ca, .int .i64 (cg C 0).co, .int .i64 (cg C 0).cd] 49)).heap.size := by have := QD.out.bel.size; simp; omega
          refine wpAnyH_ready (rs := [12]) (by kernel_rfl) (by simp) ?_
          refine AllReadyH.cons rfl (fun K hK => ?_) AllReadyH.nil
          first
            | refine wp_append_lies _ _ _ 35 (by rfl) w.heap.size 49 j0 (.agg #[.int .i64 0, .int .i64 0, .int .i64 0]) 3 24 Tryd.underlying35 hj hy0 hy1 hy2 rfl (by decide) _ _ _ (by rfl) (QD.out.last.alloc _) ⟨WD.heap.size, 0, none⟩ 1 1 [.int .i64 (cg C 0).ca, .int .i64 (cg C 0).co, .int .i64 (cg C 0).cd] (by rfl) rfl (cell_three_new _ _ _ _ _) hx1 (by decide) hx2 hx3 hx4 (WD.heap.size + 1) (by simp) ?_
            | refine step_append_lies _ rfl _ _ 35 (by rfl) w.heap.size 49 j0 (.agg #[.int .i64 0, .int .i64 0, .int .i64 0]) 3 24 Tryd.underlying35 hj hy0 hy1 hy2 rfl (by decide) _ _ _ (by rfl) (QD.out.last.alloc _) ⟨WD.heap.size, 0, none⟩ 1 1 [.int .i64 (cg C 0).ca, .int .i64 (cg C 0).co, .int .i64 (cg C 0).cd] (by rfl) rfl (cell_three_new _ _ _ _ _) hx1 (by decide) hx2 hx3 hx4 (WD.heap.size + 1) (by simp) ?_
          intro g' cap' w9 hown9 hgrow9 hloc9 _
          have GR := QD.out.grown (vl' := .slice (some ⟨g', 0, none⟩) (([] : List Cg).length + 1) cap') hgrow9
          rw [HM.out] at GR
          have c9 := GR.2.1
          have f9 := GR.2.2
          have hT : S7 z (cg C 0) w9 := by
            have t := (box_of hS0.out).keep (bel_one WD (.cells #[.int .i64 (cg C 0).ca, .int .i64 (cg C 0).co, .int .i64 (cg C 0).cd] 49))
            have ne : ∀ o, some (⟨z, o, none⟩ : Addr).block ≠ (.slice none 0 0 : Value).ownBlock := fun o e => VZL.out e.symm
            exact ⟨hgrow9.cell t.c0 (ne 0), hgrow9.cell t.c1 (ne 1), hgrow9.cell t.c2 (ne 2)⟩
          have HT9 := Lib.hid hT
          refine hK.out _ _ hT (fun _ => ?_)
          have NX : Hid (InQ w (w9.setCell ⟨gv, m, none⟩ (.slice (some ⟨g', 0, none⟩) (([] : List Cg).length + 1) cap')) (.slice (some ⟨gv, 0, none⟩) (m + 1) cap) (.slice (some ⟨g', 0, none⟩) (([] : List Cg).length + 1) cap') xs R ([] ++ [cg C 0])) := by
            have := QD.out.more (u := cg C 0) hown9 hgrow9 (by rcases hloc9 with h | h; exact .inl h.symm; exact .inr (by rw [h]; rfl))
            rw [HM.out] at this
            exact this
          clear hK K hS hT hown9 hgrow9 hloc9 GR hx1 hx2 hx3 hx4
          try simp only [Act.put, List.setIfInBounds_toArray, List.set_cons_zero, List.set_cons_succ]
          refine wpAnyH_take (i := 13) (v := ?v13z11) rfl (by kernel_rfl) (by kernel_rfl) (by kernel_rfl) (fun _ _ _ h => h) (Or.inl ⟨by rfl, ?hy13z11⟩) (by assumption) ?rest13z11
          case hy13z11 =>
            intro w hSw
            dsimp only [S7] at hSw
            go_simp
            try with_reducible rfl
          simp only [Act.put, List.getElem_toArray, List.getElem_cons_succ, List.getElem_cons_zero, List.setIfInBounds_toArray, List.set_cons_zero, List.set_cons_succ]
          refine wpAnyH_ready (rs := [14]) (by kernel_rfl) (by simp) ?_
          refine AllReadyH.cons rfl (fun K hK => ?_) AllReadyH.nil
          go_simp
          have hT : S7 z (cg C 0) (w9.setCell ⟨gv, m, none⟩ (.slice (some ⟨g', 0, none⟩) (([] : List Cg).length + 1) cap')) := by
            have ne : gv ≠ z := fun e => VZ2.out e
            exact ⟨(set_cell ne _).trans HT9.out.1, (set_cell ne _).trans HT9.out.2.1, (set_cell ne _).trans HT9.out.2.2⟩
          refine hK.out _ _ hT (fun _ => ?_)
          clear hK K hT
          try simp only [Act.put, List.setIfInBounds_toArray, List.set_cons_zero, List.set_cons_succ]
          refine wpAnyH_done (by kernel_rfl) ?_ _
          refine NoPanic.normal ?_
          go_wp2
          go_roundw
          case rel => exact ⟨0 + 1, by omega, by go_num, rel_more EE.out NX.out⟩
          case measure => simp [intOf]; omega
        · go_simp
          have hT : S7 z (cg C 0) (WD.alloc (.cells #[.int .i64 (cg C 0).ca, .int .i64 (cg C 0).co, .int .i64 (cg C 0).cd] 49)) := s7_of ((box_of hS0.out).keep (bel_one WD _))
          have ca : (WD.alloc (.cells #[.int .i64 (cg C 0).ca, .int .i64 (cg C 0).co, .int .i64 (cg C 0).cd] 49)).cell? ⟨gv, m, none⟩ = some (.slice none 0 0) := ((bel_one WD _).cell (p := ⟨gv, m, none⟩) GL.out).trans hcv
          refine hK.out _ _ hT (fun _ => ?_)
          clear hK K hS
          have hS := hT
          clear hT
          try simp only [Act.put, List.setIfInBounds_toArray, List.set_cons_zero, List.set_cons_succ]
          refine wpAnyH_ready (rs := [9]) (by kernel_rfl) (by simp) ?_
          refine AllReadyH.cons rfl (fun K hK => ?_) AllReadyH.nil
          go_simp
          refine hK.out _ _ hS (fun _ => ?_)
          clear hK K
          try simp only [Act.put, List.setIfInBounds_toArray, List.set_cons_zero, List.set_cons_succ]
          have hx1 : ∀ u ∈ [Value.int .i64 (cg C 0).ca, .int .i64 (cg C 0).co, .int .i64 (cg C 0).cd], u.oneCell' = true := by intro u hu; simp at hu; rcases hu with rfl | rfl | rfl <;> rfl
          have hx2 : ([] : List Cg).length + 1 ≤ maxLen := by unfold maxLen; simp
          have hx3 : (([] : List Cg).length + 1) * 24 ≤ 140737488355328 := by simp
          have hx4 : w.heap.size ≤ (WD.alloc (.cells #[.int .i64 (cg C 0).ca, .int .i64 (cg C 0).co, .int .i64 (cg C 0).cd] 49)).heap.size := by have := QD.out.bel.size; simp; omega
          refine wpAnyH_ready (rs := [12]) (by kernel_rfl) (by simp) ?_
          refine AllReadyH.cons rfl (fun K hK => ?_) AllReadyH.nil
          first
            | refine wp_append_lies _ _ _ 35 (by rfl) w.heap.size 49 j0 (.agg #[.int .i64 0, .int .i64 0, .int .i64 0]) 3 24 Tryd.underlying35 hj hy0 hy1 hy2 rfl (by decide) _ _ _ (by rfl) (QD.out.last.alloc _) ⟨WD.heap.size, 0, none⟩ 1 1 [.int .i64 (cg C 0).ca, .int .i64 (cg C 0).co, .int .i64 (cg C 0).cd] (by rfl) rfl (cell_three_new _ _ _ _ _) hx1 (by decide) hx2 hx3 hx4 (WD.heap.size + 1) (by simp) ?_
            | refine step_append_lies _ rfl _ _ 35 (by rfl) w.heap.size 49 j0 (.agg #[.int .i64 0, .int .i64 0, .int .i64 0]) 3 24 Tryd.underlying35 hj hy0 hy1 hy2 rfl (by decide) _ _ _ (by rfl) (QD.out.last.alloc _) ⟨WD.heap.size, 0, none⟩ 1 1 [.int .i64 (cg C 0).ca, .int .i64 (cg C 0).co, .int .i64 (cg C 0).cd] (by rfl) rfl (cell_three_new _ _ _ _ _) hx1 (by decide) hx2 hx3 hx4 (WD.heap.size + 1) (by simp) ?_
          intro g' cap' w9 hown9 hgrow9 hloc9 _
          have GR := QD.out.grown (vl' := .slice (some ⟨g', 0, none⟩) (([] : List Cg).length + 1) cap') hgrow9
          rw [HM.out] at GR
          have c9 := GR.2.1
          have f9 := GR.2.2
          have hT : S7 z (cg C 0) w9 := by
            have t := (box_of hS0.out).keep (bel_one WD (.cells #[.int .i64 (cg C 0).ca, .int .i64 (cg C 0).co, .int .i64 (cg C 0).cd] 49))
            have ne : ∀ o, some (⟨z, o, none⟩ : Addr).block ≠ (.slice none 0 0 : Value).ownBlock := fun o e => VZL.out e.symm
            exact ⟨hgrow9.cell t.c0 (ne 0), hgrow9.cell t.c1 (ne 1), hgrow9.cell t.c2 (ne 2)⟩
          have HT9 := Lib.hid hT
          refine hK.out _ _ hT (fun _ => ?_)
          have NX : Hid (InQ w (w9.setCell ⟨gv, m, none⟩ (.slice (some ⟨g', 0, none⟩) (([] : List Cg).length + 1) cap')) (.slice (some ⟨gv, 0, none⟩) (m + 1) cap) (.slice (some ⟨g', 0, none⟩) (([] : List Cg).length + 1) cap') xs R ([] ++ [cg C 0])) := by
            have := QD.out.more (u := cg C 0) hown9 hgrow9 (by rcases hloc9 with h | h; exact .inl h.symm; exact .inr (by rw [h]; rfl))
            rw [HM.out] at this
            exact this
          clear hK K hS hT hown9 hgrow9 hloc9 GR hx1 hx2 hx3 hx4
          try simp only [Act.put, List.setIfInBounds_toArray, List.set_cons_zero, List.set_cons_succ]
          refine wpAnyH_take (i := 13) (v := ?v13z12) rfl (by kernel_rfl) (by kernel_rfl) (by kernel_rfl) (fun _ _ _ h => h) (Or.inl ⟨by rfl, ?hy13z12⟩) (by assumption) ?rest13z12
          case hy13z12 =>
            intro w hSw
            dsimp only [S7] at hSw
            go_simp
            try with_reducible rfl
          simp only [Act.put, List.getElem_toArray, List.getElem_cons_succ, List.getElem_cons_zero, List.setIfInBounds_toArray, List.set_cons_zero, List.set_cons_succ]
          refine wpAnyH_ready (rs := [14]) (by kernel_rfl) (by simp) ?_
          refine AllReadyH.cons rfl (fun K hK => ?_) AllReadyH.nil
          go_simp
          have hT : S7 z (cg C 0) (w9.setCell ⟨gv, m, none⟩ (.slice (some ⟨g', 0, none⟩) (([] : List Cg).length + 1) cap')) := by
            have ne : gv ≠ z := fun e => VZ2.out e
            exact ⟨(set_cell ne _).trans HT9.out.1, (set_cell ne _).trans HT9.out.2.1, (set_cell ne _).trans HT9.out.2.2⟩
          refine hK.out _ _ hT (fun _ => ?_)
          clear hK K hT
          try simp only [Act.put, List.setIfInBounds_toArray, List.set_cons_zero, List.set_cons_succ]
          refine wpAnyH_done (by kernel_rfl) ?_ _
          refine NoPanic.normal ?_
          go_wp2
          go_roundw
          case rel => exact ⟨0 + 1, by omega, by go_num, rel_more EE.out NX.out⟩
          case measure => simp [intOf]; omega
      · obtain ⟨vl, xs, hQ⟩ : ∃ vl xs, InQ w wr u3 vl xs (cas C (k - 1)) (seg C (beg C (k - 1)) (k - beg C (k - 1))) := by
          rcases hS.out with ⟨h, _⟩ | ⟨_, h⟩
          · exact absurd h hk0
          · exact h
        have Q1 := Lib.hid (hQ.keep N1.out.1)
        obtain ⟨n, rfl⟩ : ∃ n, k = n + 1 := ⟨k - 1, by omega⟩
        rw [Nat.add_sub_cancel] at Q1
        obtain ⟨_, _, e, p0, _, _⟩ := (HC.out.below (BE.out.trans (N1.out.1.mono BE.out.size))).at_ (k := n) (by omega)
        injection e with e; injection e with e1 e2; subst e1; subst e2
        have hb1 := beg_le C n
        have hcl := cas_len C n
        have hk1 : ¬ (n : Int) + 1 = 0 := by omega
        have hk2 : ((n : Int) + 1 == 0) = false := by rw [beq_eq_false_iff_ne]; exact hk1
        have hk3 : decide ((n : Int) + 1 = 0) = false := decide_eq_false hk1
        have hk4 : (n : Int) + 1 - 1 = (n : Int) := by omega
        have hk5 : (n : Int) < (C.length : Int) := by omega
        have hk6 : IntKind.i64.wrap (n : Int) = (n : Int) := by rw [IntKind.wrap_i64] <;> omega
        have hk7 : (n : Int) < 20000 := by omega
        have hk8 : (n : Int) + 1 < 20000 := by omega
        have HLs : Hid (beg C n ≤ n) := hb1
        have VZ : Hid (u3.ownBlock ≠ some z) := fun e => by
          have := (hQ.own.lt z e).2
          omega
        have VZL : Hid (vl.ownBlock ≠ some z) := fun e => by
          have := (hQ.last.lt z e).2
          omega
        clear hQ hS N1 BE hk0
        by_cases hne : (cg C (n + 1)).ca = (cg C n).ca
        · have hO : ¬ New C (n + 1) := fun h => by
            rcases h with h | h
            · omega
            · exact h (by rw [Nat.add_sub_cancel]; exact hne)
          have EE : Hid (cas C n = cas C (n + 1) ∧ seg C (beg C n) (n + 1 - beg C n) ++ [cg C (n + 1)] = seg C (beg C (n + 1)) (n + 1 + 1 - beg C (n + 1))) := by
            refine ⟨(cas_old hO).symm, ?_⟩
            rw [beg_old hO, show n + 1 + 1 - beg C n = (n + 1 - beg C n) + 1 by omega, seg_succ, show beg C n + (n + 1 - beg C n) = n + 1 by omega]
          have hne0 : ((cg C (n + 1)).ca == (cg C n).ca) = true := by rw [beq_iff_eq]; exact hne
          have hne1 : ((cg C (n + 1)).ca != (cg C n).ca) = false := by rw [bne, hne0]; rfl
          clear hO hne
          go_wp2_with fail
          go_quiet (fail)
          have Q2 : Hid (InQ w (W1.drewN nq) u3 vl xs (cas C n) (seg C (beg C n) (n + 1 - beg C n))) := Q1.out.keep (below_drewN (Below.refl _ _) nq)
          have X : Hid (S7 z (cg C (n + 1)) (W1.drewN nq) ∧ z < (W1.drewN nq).heap.size) := by
            have := BX.out.keep (below_drewN (Below.refl _ _) nq)
            exact ⟨⟨this.c0, this.c1, this.c2⟩, this.lt⟩
          clear Q1 hW1 u0 u1 u2 v0 p0 ZL BX
          generalize W1.drewN nq = W2 at Q2 X ⊢
          have ZL : Hid (z < W2.heap.size) := X.out.2
          obtain ⟨R, hR'⟩ : ∃ R, cas C n = R := ⟨_, rfl⟩
          obtain ⟨L, hL'⟩ : ∃ L, seg C (beg C n) (n + 1 - beg C n) = L := ⟨_, rfl⟩
          have hL9 : Hid (L.length ≤ 20000) := by rw [← hL']; unfold Hid; rw [seg_len]; omega
          have hR : R.length ≤ 20000 := by rw [← hR']; omega
          rw [hR', hL'] at EE Q2
          have Q := Lib.hid Q2.out
          obtain ⟨k, hkk⟩ : ∃ k, n + 1 = k := ⟨_, rfl⟩
          rw [hkk] at X EE hlt hlt' hk ⊢
          have hk9 : (k : Int) < 20000 := by omega
          clear Q2 hL' hR' hb1 hcl hk1 hk2 hk3 hk4 hk5 hk6 hk7 hk8
          obtain ⟨gv, cap, rfl, hcv0, hgl, hgb⟩ := Q.out.val
          have hm9 : R.length ≤ 20000 := hR
          obtain ⟨m, hm⟩ : ∃ m, R.length = m := ⟨_, rfl⟩
          have HM := Lib.hid hm
          rw [hm] at hcv0 hm9
          have hm1 : (m : Int) + 1 - 1 = (m : Int) := by omega
          have hm2 : (m : Int) < (m : Int) + 1 := by omega
          have hmw : IntKind.i64.wrap (m : Int) = (m : Int) := by rw [IntKind.wrap_i64] <;> omega
          have hm0 : (0 : Int) ≤ (m : Int) := by omega
          have VZ2 : Hid (gv ≠ z) := fun e => VZ.out (by rw [e]; rfl)
          clear hR
          rw [hm]
          go_wp2_with fail
          refine wp_region_noPanic ?_
          refine wp_region_held_drew (S := S7 z (cg C k)) (by kernel_rfl) (s7_of ((box_of X.out).keep (Below.refl _ _).drew)) (fun hS => ?_)
          obtain ⟨WD, hWD⟩ : ∃ W, W2.drew = W := ⟨_, rfl⟩
          have D0 : Hid (Below W2.heap.size W2 WD) := by unfold Hid; rw [← hWD]; exact (Below.refl _ _).drew
          rw [hWD] at hS ⊢
          clear hWD
          have QD := Lib.hid (Q.out.keep D0.out)
          have hcv : WD.cell? ⟨gv, m, none⟩ = some (vl) := (D0.out.cell (p := ⟨gv, m, none⟩) hgl).trans hcv0
          have GL : Hid (gv < WD.heap.size) := Nat.lt_of_lt_of_le hgl D0.out.size
          have hS0 : Hid (S7 z (cg C k) WD ∧ z < WD.heap.size) := ⟨hS, Nat.lt_of_lt_of_le ZL.out D0.out.size⟩
          clear hcv0 hgl Q X D0
          refine wpAnyH_take (i := 0) (v := ?v0z13) rfl (by kernel_rfl) (by kernel_rfl) (by kernel_rfl) (fun _ _ _ h => h) (Or.inl ⟨by rfl, ?hy0z13⟩) (by assumption) ?rest0z13
          case hy0z13 =>
            intro w hSw
            dsimp only [S7] at hSw
            go_simp
            try with_reducible rfl
          simp only [Act.put, List.getElem_toArray, List.getElem_cons_succ, List.getElem_cons_zero, List.setIfInBounds_toArray, List.set_cons_zero, List.set_cons_succ]
          refine wpAnyH_take (i := 1) (v := ?v1z14) rfl (by kernel_rfl) (by kernel_rfl) (by kernel_rfl) (fun _ _ _ h => h) (Or.inl ⟨by rfl, ?hy1z14⟩) (by assumption) ?rest1z14
          case hy1z14 =>
            intro w hSw
            dsimp only [S7] at hSw
            go_simp
            try with_reducible rfl
          simp only [Act.put, List.getElem_toArray, List.getElem_cons_succ, List.getElem_cons_zero, List.setIfInBounds_toArray, List.set_cons_zero, List.set_cons_succ]
          refine wpAnyH_take (i := 2) (v := ?v2z15) rfl (by kernel_rfl) (by kernel_rfl) (by kernel_rfl) (fun _ _ _ h => h) (Or.inl ⟨by rfl, ?hy2z15⟩) (by assumption) ?rest2z15
          case hy2z15 =>
            intro w hSw
            dsimp only [S7] at hSw
            go_simp
            try with_reducible rfl
          simp only [Act.put, List.getElem_toArray, List.getElem_cons_succ, List.getElem_cons_zero, List.setIfInBounds_toArray, List.set_cons_zero, List.set_cons_succ]
          refine wpAnyH_take (i := 3) (v := ?v3z16) rfl (by kernel_rfl) (by kernel_rfl) (by kernel_rfl) (fun _ _ _ h => h) (Or.inl ⟨by rfl, ?hy3z16⟩) (by assumption) ?rest3z16
          case hy3z16 =>
            intro w hSw
            dsimp only [S7] at hSw
            go_simp
            try with_reducible rfl
          simp only [Act.put, List.getElem_toArray, List.getElem_cons_succ, List.getElem_cons_zero, List.setIfInBounds_toArray, List.set_cons_zero, List.set_cons_succ]
          refine wpAnyH_take (i := 4) (v := ?v4z17) rfl (by kernel_rfl) (by kernel_rfl) (by kernel_rfl) (fun _ _ _ h => h) (Or.inl ⟨by rfl, ?hy4z17⟩) (by assumption) ?rest4z17
          case hy4z17 =>
            intro w hSw
            dsimp only [S7] at hSw
            go_simp
            try with_reducible rfl
          simp only [Act.put, List.getElem_toArray, List.getElem_cons_succ, List.getElem_cons_zero, List.setIfInBounds_toArray, List.set_cons_zero, List.set_cons_succ]
          refine wpAnyH_take (i := 5) (v := ?v5z18) rfl (by kernel_rfl) (by kernel_rfl) (by kernel_rfl) (fun _ _ _ h => h) (Or.inl ⟨by rfl, ?hy5z18⟩) (by assumption) ?rest5z18
          case hy5z18 =>
            intro w hSw
            dsimp only [S7] at hSw
            go_simp
            try with_reducible rfl
          simp only [Act.put, List.getElem_toArray, List.getElem_cons_succ, List.getElem_cons_zero, List.setIfInBounds_toArray, List.set_cons_zero, List.set_cons_succ]
          refine wpAnyH_take (i := 6) (v := ?v6z19) rfl (by kernel_rfl) (by kernel_rfl) (by kernel_rfl) (fun _ _ _ h => h) (Or.inl ⟨by rfl, ?hy6z19⟩) (by assumption) ?rest6z19
          case hy6z19 =>
            intro w hSw
            dsimp only [S7] at hSw
            go_simp
            try with_reducible rfl
          simp only [Act.put, List.getElem_toArray, List.getElem_cons_succ, List.getElem_cons_zero, List.setIfInBounds_toArray, List.set_cons_zero, List.set_cons_succ]
          refine wpAnyH_take (i := 7) (v := ?v7z20) rfl (by kernel_rfl) (by kernel_rfl) (by kernel_rfl) (fun _ _ _ h => h) (Or.inl ⟨by rfl, ?hy7z20⟩) (by assumption) ?rest7z20
          case hy7z20 =>
            intro w hSw
            dsimp only [S7] at hSw
            go_simp
            try with_reducible rfl
          simp only [Act.put, List.getElem_toArray, List.getElem_cons_succ, List.getElem_cons_zero, List.setIfInBounds_toArray, List.set_cons_zero, List.set_cons_succ]
          refine wpAnyH_take (i := 8) (v := ?v8z21) rfl (by kernel_rfl) (by kernel_rfl) (by kernel_rfl) (fun _ _ _ h => h) (Or.inl ⟨by rfl, ?hy8z21⟩) (by assumption) ?rest8z21
          case hy8z21 =>
            intro w hSw
            dsimp only [S7] at hSw
            go_simp
            try with_reducible rfl
          simp only [Act.put, List.getElem_toArray, List.getElem_cons_succ, List.getElem_cons_zero, List.setIfInBounds_toArray, List.set_cons_zero, List.set_cons_succ]
          refine wpAnyH_take (i := 10) (v := ?v10z22) rfl (by kernel_rfl) (by kernel_rfl) (by kernel_rfl) (fun _ _ _ h => h) (Or.inl ⟨by rfl, ?hy10z22⟩) (by assumption) ?rest10z22
          case hy10z22 =>
            intro w hSw
            dsimp only [S7] at hSw
            go_simp
            try with_reducible rfl
          simp only [Act.put, List.getElem_toArray, List.getElem_cons_succ, List.getElem_cons_zero, List.setIfInBounds_toArray, List.set_cons_zero, List.set_cons_succ]
          refine wpAnyH_ready (rs := [9, 11]) (by kernel_rfl) (by simp) ?_
          refine AllReadyH.cons rfl (fun K hK => ?_) (AllReadyH.cons rfl (fun K hK => ?_) AllReadyH.nil)
          · go_simp
            refine hK.out _ _ hS (fun _ => ?_)
            clear hK K
            try simp only [Act.put, List.setIfInBounds_toArray, List.set_cons_zero, List.set_cons_succ]
            refine wpAnyH_ready (rs := [11]) (by kernel_rfl) (by simp) ?_
            refine AllReadyH.cons rfl (fun K hK => ?_) AllReadyH.nil
            go_simp
            have hT : S7 z (cg C k) (WD.alloc (.cells #[.int .i64 (cg C k).ca, .int .i64 (cg C k).co, .int .i64 (cg C k).cd] 49)) := s7_of ((box_of hS0.out).keep (bel_one WD _))
            have ca : (WD.alloc (.cells #[.int .i64 (cg C k).ca, .int .i64 (cg C k).co, .int .i64 (cg C k).cd] 49)).cell? ⟨gv, m, none⟩ = some (vl) := ((bel_one WD _).cell (p := ⟨gv, m, none⟩) GL.out).trans hcv
            refine hK.out _ _ hT (fun _ => ?_)
            clear hK K hS
            have hS := hT
            clear hT
            try simp only [Act.put, List.setIfInBounds_toArray, List.set_cons_zero, List.set_cons_succ]
            have hx1 : ∀ u ∈ [Value.int .i64 (cg C k).ca, .int .i64 (cg C k).co, .int .i64 (cg C k).cd], u.oneCell' = true := by intro u hu; simp at hu; rcases hu with rfl | rfl | rfl <;> rfl
            have hx2 : (L : List Cg).length + 1 ≤ maxLen := by unfold maxLen; have := hL9.out; omega
            have hx3 : ((L : List Cg).length + 1) * 24 ≤ 140737488355328 := by have := hL9.out; omega
            have hx4 : w.heap.size ≤ (WD.alloc (.cells #[.int .i64 (cg C k).ca, .int .i64 (cg C k).co, .int .i64 (cg C k).cd] 49)).heap.size := by have := QD.out.bel.size; simp; omega
            refine wpAnyH_ready (rs := [12]) (by kernel_rfl) (by simp) ?_
            refine AllReadyH.cons rfl (fun K hK => ?_) AllReadyH.nil
            first
              | refine wp_append_lies _ _ _ 35 (by rfl) w.heap.size 49 j0 (.agg #[.int .i64 0, .int .i64 0, .int .i64 0]) 3 24 Tryd.underlying35 hj hy0 hy1 hy2 rfl (by decide) _ _ _ (by rfl) (QD.out.last.alloc _) ⟨WD.heap.size, 0, none⟩ 1 1 [.int .i64 (cg C k).ca, .int .i64 (cg C k).co, .int .i64 (cg C k).cd] (by rfl) rfl (cell_three_new _ _ _ _ _) hx1 (by decide) hx2 hx3 hx4 (WD.heap.size + 1) (by simp) ?_
              | refine step_append_lies _ rfl _ _ 35 (by rfl) w.heap.size 49 j0 (.agg #[.int .i64 0, .int .i64 0, .int .i64 0]) 3 24 Tryd.underlying35 hj hy0 hy1 hy2 rfl (by decide) _ _ _ (by rfl) (QD.out.last.alloc _) ⟨WD.heap.size, 0, none⟩ 1 1 [.int .i64 (cg C k).ca, .int .i64 (cg C k).co, .int .i64 (cg C k).cd] (by rfl) rfl (cell_three_new _ _ _ _ _) hx1 (by decide) hx2 hx3 hx4 (WD.heap.size + 1) (by simp) ?_
            intro g' cap' w9 hown9 hgrow9 hloc9 _
            have GR := QD.out.grown (vl' := .slice (some ⟨g', 0, none⟩) ((L : List Cg).length + 1) cap') hgrow9
            rw [HM.out] at GR
            have c9 := GR.2.1
            have f9 := GR.2.2
            have hT : S7 z (cg C k) w9 := by
              have t := (box_of hS0.out).keep (bel_one WD (.cells #[.int .i64 (cg C k).ca, .int .i64 (cg C k).co, .int .i64 (cg C k).cd] 49))
              have ne : ∀ o, some (⟨z, o, none⟩ : Addr).block ≠ (vl : Value).ownBlock := fun o e => VZL.out e.symm
              exact ⟨hgrow9.cell t.c0 (ne 0), hgrow9.cell t.c1 (ne 1), hgrow9.cell t.c2 (ne 2)⟩
            have HT9 := Lib.hid hT
            refine hK.out _ _ hT (fun _ => ?_)
            have NX : Hid (InQ w (w9.setCell ⟨gv, m, none⟩ (.slice (some ⟨g', 0, none⟩) ((L : List Cg).length + 1) cap')) (.slice (some ⟨gv, 0, none⟩) (m + 1) cap) (.slice (some ⟨g', 0, none⟩) ((L : List Cg).length + 1) cap') xs R (L ++ [cg C k])) := by
              have := QD.out.more (u := cg C k) hown9 hgrow9 (by rcases hloc9 with h | h; exact .inl h.symm; exact .inr (by rw [h]; rfl))
              rw [HM.out] at this
              exact this
            clear hK K hS hT hown9 hgrow9 hloc9 GR hx1 hx2 hx3 hx4
            try simp only [Act.put, List.setIfInBounds_toArray, List.set_cons_zero, List.set_cons_succ]
            refine wpAnyH_take (i := 13) (v := ?v13z23) rfl (by kernel_rfl) (by kernel_rfl) (by kernel_rfl) (fun _ _ _ h => h) (Or.inl ⟨by rfl, ?hy13z23⟩) (by assumption) ?rest13z23
            case hy13z23 =>
              intro w hSw
              dsimp only [S7] at hSw
              go_simp
              try with_reducible rfl
            simp only [Act.put, List.getElem_toArray, List.getElem_cons_succ, List.getElem_cons_zero, List.setIfInBounds_toArray, List.set_cons_zero, List.set_cons_succ]
            refine wpAnyH_ready (rs := [14]) (by kernel_rfl) (by simp) ?_
            refine AllReadyH.cons rfl (fun K hK => ?_) AllReadyH.nil
            go_simp
            have hT : S7 z (cg C k) (w9.setCell ⟨gv, m, none⟩ (.slice (some ⟨g', 0, none⟩) ((L : List Cg).length + 1) cap')) := by
              have ne : gv ≠ z := fun e => VZ2.out e
              exact ⟨(set_cell ne _).trans HT9.out.1, (set_cell ne _).trans HT9.out.2.1, (set_cell ne _).trans HT9.out.2.2⟩
            refine hK.out _ _ hT (fun _ => ?_)
            clear hK K hT
            try simp only [Act.put, List.setIfInBounds_toArray, List.set_cons_zero, List.set_cons_succ]
            refine wpAnyH_done (by kernel_rfl) ?_ _
            refine NoPanic.normal ?_
            go_wp2
            go_roundw
            case rel => exact ⟨k + 1, by omega, by go_num, rel_more EE.out NX.out⟩
            case measure => simp [intOf]; omega
          · go_simp
            have hT : S7 z (cg C k) (WD.alloc (.cells #[.int .i64 (cg C k).ca, .int .i64 (cg C k).co, .int .i64 (cg C k).cd] 49)) := s7_of ((box_of hS0.out).keep (bel_one WD _))
            have ca : (WD.alloc (.cells #[.int .i64 (cg C k).ca, .int .i64 (cg C k).co, .int .i64 (cg C k).cd] 49)).cell? ⟨gv, m, none⟩ = some (vl) := ((bel_one WD _).cell (p := ⟨gv, m, none⟩) GL.out).trans hcv
            refine hK.out _ _ hT (fun _ => ?_)
            clear hK K hS
            have hS := hT
            clear hT
            try simp only [Act.put, List.setIfInBounds_toArray, List.set_cons_zero, List.set_cons_succ]
            refine wpAnyH_ready (rs := [9]) (by kernel_rfl) (by simp) ?_
            refine AllReadyH.cons rfl (fun K hK => ?_) AllReadyH.nil
            go_simp
            refine hK.out _ _ hS (fun _ => ?_)
            clear hK K
            try simp only [Act.put, List.setIfInBounds_toArray, List.set_cons_zero, List.set_cons_succ]
            have hx1 : ∀ u ∈ [Value.int .i64 (cg C k).ca, .int .i64 (cg C k).co, .int .i64 (cg C k).cd], u.oneCell' = true := by intro u hu; simp at hu; rcases hu with rfl | rfl | rfl <;> rfl
            have hx2 : (L : List Cg).length + 1 ≤ maxLen := by unfold maxLen; have := hL9.out; omega
            have hx3 : ((L : List Cg).length + 1) * 24 ≤ 140737488355328 := by have := hL9.out; omega
            have hx4 : w.heap.size ≤ (WD.alloc (.cells #[.int .i64 (cg C k).ca, .int .i64 (cg C k).co, .int .i64 (cg C k).cd] 49)).heap.size := by have := QD.out.bel.size; simp; omega
            refine wpAnyH_ready (rs := [12]) (by kernel_rfl) (by simp) ?_
            refine AllReadyH.cons rfl (fun K hK => ?_) AllReadyH.nil
            first
              | refine wp_append_lies _ _ _ 35 (by rfl) w.heap.size 49 j0 (.agg #[.int .i64 0, .int .i64 0, .int .i64 0]) 3 24 Tryd.underlying35 hj hy0 hy1 hy2 rfl (by decide) _ _ _ (by rfl) (QD.out.last.alloc _) ⟨WD.heap.size, 0, none⟩ 1 1 [.int .i64 (cg C k).ca, .int .i64 (cg C k).co, .int .i64 (cg C k).cd] (by rfl) rfl (cell_three_new _ _ _ _ _) hx1 (by decide) hx2 hx3 hx4 (WD.heap.size + 1) (by simp) ?_
              | refine step_append_lies _ rfl _ _ 35 (by rfl) w.heap.size 49 j0 (.agg #[.int .i64 0, .int .i64 0, .int .i64 0]) 3 24 Tryd.underlying35 hj hy0 hy1 hy2 rfl (by decide) _ _ _ (by rfl) (QD.out.last.alloc _) ⟨WD.heap.size, 0, none⟩ 1 1 [.int .i64 (cg C k).ca, .int .i64 (cg C k).co, .int .i64 (cg C k).cd] (by rfl) rfl (cell_three_new _ _ _ _ _) hx1 (by decide) hx2 hx3 hx4 (WD.heap.size + 1) (by simp) ?_
            intro g' cap' w9 hown9 hgrow9 hloc9 _
            have GR := QD.out.grown (vl' := .slice (some ⟨g', 0, none⟩) ((L : List Cg).length + 1) cap') hgrow9
            rw [HM.out] at GR
            have c9 := GR.2.1
            have f9 := GR.2.2
            have hT : S7 z (cg C k) w9 := by
              have t := (box_of hS0.out).keep (bel_one WD (.cells #[.int .i64 (cg C k).ca, .int .i64 (cg C k).co, .int .i64 (cg C k).cd] 49))
              have ne : ∀ o, some (⟨z, o, none⟩ : Addr).block ≠ (vl : Value).ownBlock := fun o e => VZL.out e.symm
              exact ⟨hgrow9.cell t.c0 (ne 0), hgrow9.cell t.c1 (ne 1), hgrow9.cell t.c2 (ne 2)⟩
            have HT9 := Lib.hid hT
            refine hK.out _ _ hT (fun _ => ?_)
            have NX : Hid (InQ w (w9.setCell ⟨gv, m, none⟩ (.slice (some ⟨g', 0, none⟩) ((L : List Cg).length + 1) cap')) (.slice (some ⟨gv, 0, none⟩) (m + 1) cap) (.slice (some ⟨g', 0, none⟩) ((L : List Cg).length + 1) cap') xs R (L ++ [cg C k])) := by
              have := QD.out.more (u := cg C k) hown9 hgrow9 (by rcases hloc9 with h | h; exact .inl h.symm; exact .inr (by rw [h]; rfl))
              rw [HM.out] at this
              exact this
            clear hK K hS hT hown9 hgrow9 hloc9 GR hx1 hx2 hx3 hx4
            try simp only [Act.put, List.setIfInBounds_toArray, List.set_cons_zero, List.set_cons_succ]
            refine wpAnyH_take (i := 13) (v := ?v13z24) rfl (by kernel_rfl) (by kernel_rfl) (by kernel_rfl) (fun _ _ _ h => h) (Or.inl ⟨by rfl, ?hy13z24⟩) (by assumption) ?rest13z24
            case hy13z24 =>
              intro w hSw
              dsimp only [S7] at hSw
              go_simp
              try with_reducible rfl
            simp only [Act.put, List.getElem_toArray, List.getElem_cons_succ, List.getElem_cons_zero, List.setIfInBounds_toArray, List.set_cons_zero, List.set_cons_succ]
            refine wpAnyH_ready (rs := [14]) (by kernel_rfl) (by simp) ?_
            refine AllReadyH.cons rfl (fun K hK => ?_) AllReadyH.nil
            go_simp
            have hT : S7 z (cg C k) (w9.setCell ⟨gv, m, none⟩ (.slice (some ⟨g', 0, none⟩) ((L : List Cg).length + 1) cap')) := by
              have ne : gv ≠ z := fun e => VZ2.out e
              exact ⟨(set_cell ne _).trans HT9.out.1, (set_cell ne _).trans HT9.out.2.1, (set_cell ne _).trans HT9.out.2.2⟩
            refine hK.out _ _ hT (fun _ => ?_)
            clear hK K hT
            try simp only [Act.put, List.setIfInBounds_toArray, List.set_cons_zero, List.set_cons_succ]
            refine wpAnyH_done (by kernel_rfl) ?_ _
            refine NoPanic.normal ?_
            go_wp2
            go_roundw
            case rel => exact ⟨k + 1, by omega, by go_num, rel_more EE.out NX.out⟩
            case measure => simp [intOf]; omega
        · have hN : New C (n + 1) := .inr (by rw [Nat.add_sub_cancel]; exact hne)
          have EE : Hid (cas C n ++ [seg C (beg C n) (n + 1 - beg C n)] = cas C (n + 1) ∧ ([] : List Cg) ++ [cg C (n + 1)] = seg C (beg C (n + 1)) (n + 1 + 1 - beg C (n + 1))) := by
            refine ⟨(cas_new hN).symm, ?_⟩
            rw [beg_new hN, show n + 1 + 1 - (n + 1) = 0 + 1 by omega, seg_succ]
            rfl
          have hne0 : ((cg C (n + 1)).ca == (cg C n).ca) = false := by rw [beq_eq_false_iff_ne]; exact hne
          have hne1 : ((cg C (n + 1)).ca != (cg C n).ca) = true := by rw [bne, hne0]; rfl
          clear hN hne
          go_wp2_with fail
          go_quiet (fail)
          have Q2 : Hid (InQ w (W1.drewN nq) u3 vl xs (cas C n) (seg C (beg C n) (n + 1 - beg C n))) := Q1.out.keep (below_drewN (Below.refl _ _) nq)
          have X2 : Hid (B3 (W1.drewN nq) z (.int .i64 (cg C (n + 1)).ca) (.int .i64 (cg C (n + 1)).co) (.int .i64 (cg C (n + 1)).cd) ∧ u3.ownBlock ≠ some z) := ⟨BX.out.keep (below_drewN (Below.refl _ _) nq), VZ.out⟩
          clear Q1 hW1 u0 u1 u2 v0 p0 ZL BX VZ VZL
          generalize W1.drewN nq = W2 at Q2 X2 ⊢
          have hc9 : (cas C n).length + 1 ≤ 20000 := by omega
          go_wp2_with (at_builtin; refine wpList_append_own_at _ rfl _ _ 88 rfl w.heap.size 35 i0 (.slice none 0 0) 1 24 Tryd.underlying88 hi hz0 hz1 hz2 rfl (by decide) _ _ _ rfl (Q2.out.own.alloc _) ⟨W2.heap.size, 0, none⟩ 1 1 [.slice none 0 0] rfl rfl (cell_one_new _ _ _) (by simp [Value.oneCell']) ?c3 ?c4 ?c5 ?_)
          case c3 => unfold maxLen; omega
          case c4 => omega
          case c5 => have := Q2.out.bel.size; simp; omega
          intro v' w4 hown hgrow _ hloc
          have Q := Lib.hid (Q2.out.new (by rw [seg_len]; have := HLs.out; omega) (by rw [List.append_assoc]; exact hown) hgrow hloc)
          have X : Hid (S7 z (cg C (n + 1)) w4 ∧ z < w4.heap.size) := by
            have t := X2.out.1.keep (bel_one W2 (.cells #[.slice none 0 0] 35))
            have ne : ∀ o, some (⟨z, o, none⟩ : Addr).block ≠ u3.ownBlock := fun o e => X2.out.2 e.symm
            exact ⟨⟨hgrow.cell t.c0 (ne 0), hgrow.cell t.c1 (ne 1), hgrow.cell t.c2 (ne 2)⟩, Nat.lt_of_lt_of_le t.lt hgrow.size⟩
          have ZL : Hid (z < w4.heap.size) := X.out.2
          have VZ : Hid (v'.ownBlock ≠ some z) := fun e => by
            have h1 := X2.out.1.lt
            rcases hloc with h | h
            · exact X2.out.2 (h.symm.trans e)
            · rw [h] at e; injection e with e; first | omega | (simp at e; omega)
          have VZL : Hid ((.slice none 0 0 : Value).ownBlock ≠ some z) := by unfold Hid; simp [Value.ownBlock]
          have hR0 : (cas C n ++ [seg C (beg C n) (n + 1 - beg C n)]).length ≤ 20000 := by rw [List.length_append]; simpa using hc9
          obtain ⟨R, hR'⟩ : ∃ R, cas C n ++ [seg C (beg C n) (n + 1 - beg C n)] = R := ⟨_, rfl⟩
          obtain ⟨ys, hys⟩ : ∃ ys, xs ++ [vl] = ys := ⟨_, rfl⟩
          rw [hR'] at hR0 EE Q
          rw [hys] at Q
          have hR := hR0
          obtain ⟨k, hkk⟩ : ∃ k, n + 1 = k := ⟨_, rfl⟩
          rw [hkk] at X EE hlt hlt' hk ⊢
          have hk9 : (k : Int) < 20000 := by omega
          clear hown hgrow hloc Q2 X2 hR' hys hR0 hb1 hcl hk1 hk2 hk3 hk4 hk5 hk6 hk7 hk8 hc9
          obtain ⟨gv, cap, rfl, hcv0, hgl, hgb⟩ := Q.out.val
          have hm9 : R.length ≤ 20000 := hR
          obtain ⟨m, hm⟩ : ∃ m, R.length = m := ⟨_, rfl⟩
          have HM := Lib.hid hm
          rw [hm] at hcv0 hm9
          have hm1 : (m : Int) + 1 - 1 = (m : Int) := by omega
          have hm2 : (m : Int) < (m : Int) + 1 := by omega
          have hmw : IntKind.i64.wrap (m : Int) = (m : Int) := by rw [IntKind.wrap_i64] <;> omega
          have hm0 : (0 : Int) ≤ (m : Int) := by omega
          have VZ2 : Hid (gv ≠ z) := fun e => VZ.out (by rw [e]; rfl)
          clear hR
          rw [hm]
          go_wp2_with fail
          refine wp_region_noPanic ?_
          refine wp_region_held_drew (S := S7 z (cg C k)) (by kernel_rfl) (s7_of ((box_of X.out).keep (Below.refl _ _).drew)) (fun hS => ?_)
          obtain ⟨WD, hWD⟩ : ∃ W, w4.drew = W := ⟨_, rfl⟩
          have D0 : Hid (Below w4.heap.size w4 WD) := by unfold Hid; rw [← hWD]; exact (Below.refl _ _).drew
          rw [hWD] at hS ⊢
          clear hWD
          have QD := Lib.hid (Q.out.keep D0.out)
          have hcv : WD.cell? ⟨gv, m, none⟩ = some (.slice none 0 0) := (D0.out.cell (p := ⟨gv, m, none⟩) hgl).trans hcv0
          have GL : Hid (gv < WD.heap.size) := Nat.lt_of_lt_of_le hgl D0.out.size
          have hS0 : Hid (S7 z (cg C k) WD ∧ z < WD.heap.size) := ⟨hS, Nat.lt_of_lt_of_le ZL.out D0.out.size⟩
          clear hcv0 hgl Q X D0
          refine wpAnyH_take (i := 0) (v := ?v0z25) rfl (by kernel_rfl) (by kernel_rfl) (by kernel_rfl) (fun _ _ _ h => h) (Or.inl ⟨by rfl, ?hy0z25⟩) (by assumption) ?rest0z25
          case hy0z25 =>
            intro w hSw
            dsimp only [S7] at hSw
            go_simp
            try with_reducible rfl
          simp only [Act.put, List.getElem_toArray, List.getElem_cons_succ, List.getElem_cons_zero, List.setIfInBounds_toArray, List.set_cons_zero, List.set_cons_succ]
          refine wpAnyH_take (i := 1) (v := ?v1z26) rfl (by kernel_rfl) (by kernel_rfl) (by kernel_rfl) (fun _ _ _ h => h) (Or.inl ⟨by rfl, ?hy1z26⟩) (by assumption) ?rest1z26
          case hy1z26 =>
            intro w hSw
            dsimp only [S7] at hSw
            go_simp
            try with_reducible rfl
          simp only [Act.put, List.getElem_toArray, List.getElem_cons_succ, List.getElem_cons_zero, List.setIfInBounds_toArray, List.set_cons_zero, List.set_cons_succ]
          refine wpAnyH_take (i := 2) (v := ?v2z27) rfl (by kernel_rfl) (by kernel_rfl) (by kernel_rfl) (fun _ _ _ h => h) (Or.inl ⟨by rfl, ?hy2z27⟩) (by assumption) ?rest2z27
          case hy2z27 =>
            intro w hSw
            dsimp only [S7] at hSw
            go_simp
            try with_reducible rfl
          simp only [Act.put, List.getElem_toArray, List.getElem_cons_succ, List.getElem_cons_zero, List.setIfInBounds_toArray, List.set_cons_zero, List.set_cons_succ]
          refine wpAnyH_take (i := 3) (v := ?v3z28) rfl (by kernel_rfl) (by kernel_rfl) (by kernel_rfl) (fun _ _ _ h => h) (Or.inl ⟨by rfl, ?hy3z28⟩) (by assumption) ?rest3z28
          case hy3z28 =>
            intro w hSw
            dsimp only [S7] at hSw
            go_simp
            try with_reducible rfl
          simp only [Act.put, List.getElem_toArray, List.getElem_cons_succ, List.getElem_cons_zero, List.setIfInBounds_toArray, List.set_cons_zero, List.set_cons_succ]
          refine wpAnyH_take (i := 4) (v := ?v4z29) rfl (by kernel_rfl) (by kernel_rfl) (by kernel_rfl) (fun _ _ _ h => h) (Or.inl ⟨by rfl, ?hy4z29⟩) (by assumption) ?rest4z29
          case hy4z29 =>
            intro w hSw
            dsimp only [S7] at hSw
            go_simp
            try with_reducible rfl
          simp only [Act.put, List.getElem_toArray, List.getElem_cons_succ, List.getElem_cons_zero, List.setIfInBounds_toArray, List.set_cons_zero, List.set_cons_succ]
          refine wpAnyH_take (i := 5) (v := ?v5z30) rfl (by kernel_rfl) (by kernel_rfl) (by kernel_rfl) (fun _ _ _ h => h) (Or.inl ⟨by rfl, ?hy5z30⟩) (by assumption) ?rest5z30
          case hy5z30 =>
            intro w hSw
            dsimp only [S7] at hSw
            go_simp
            try with_reducible rfl
          simp only [Act.put, List.getElem_toArray, List.getElem_cons_succ, List.getElem_cons_zero, List.setIfInBounds_toArray, List.set_cons_zero, List.set_cons_succ]
          refine wpAnyH_take (i := 6) (v := ?v6z31) rfl (by kernel_rfl) (by kernel_rfl) (by kernel_rfl) (fun _ _ _ h => h) (Or.inl ⟨by rfl, ?hy6z31⟩) (by assumption) ?rest6z31
          case hy6z31 =>
            intro w hSw
            dsimp only [S7] at hSw
            go_simp
            try with_reducible rfl
          simp only [Act.put, List.getElem_toArray, List.getElem_cons_succ, List.getElem_cons_zero, List.setIfInBounds_toArray, List.set_cons_zero, List.set_cons_succ]
          refine wpAnyH_take (i := 7) (v := ?v7z32) rfl (by kernel_rfl) (by kernel_rfl) (by kernel_rfl) (fun _ _ _ h => h) (Or.inl ⟨by rfl, ?hy7z32⟩) (by assumption) ?rest7z32
          case hy7z32 =>
            intro w hSw
            dsimp only [S7] at hSw
            go_simp
            try with_reducible rfl
          simp only [Act.put, List.getElem_toArray, List.getElem_cons_succ, List.getElem_cons_zero, List.setIfInBounds_toArray, List.set_cons_zero, List.set_cons_succ]
          refine wpAnyH_take (i := 8) (v := ?v8z33) rfl (by kernel_rfl) (by kernel_rfl) (by kernel_rfl) (fun _ _ _ h => h) (Or.inl ⟨by rfl, ?hy8z33⟩) (by assumption) ?rest8z33
          case hy8z33 =>
            intro w hSw
            dsimp only [S7] at hSw
            go_simp
            try with_reducible rfl
          simp only [Act.put, List.getElem_toArray, List.getElem_cons_succ, List.getElem_cons_zero, List.setIfInBounds_toArray, List.set_cons_zero, List.set_cons_succ]
          refine wpAnyH_take (i := 10) (v := ?v10z34) rfl (by kernel_rfl) (by kernel_rfl) (by kernel_rfl) (fun _ _ _ h => h) (Or.inl ⟨by rfl, ?hy10z34⟩) (by assumption) ?rest10z34
          case hy10z34 =>
            intro w hSw
            dsimp only [S7] at hSw
            go_simp
            try with_reducible rfl
          simp only [Act.put, List.getElem_toArray, List.getElem_cons_succ, List.getElem_cons_zero, List.setIfInBounds_toArray, List.set_cons_zero, List.set_cons_succ]
          refine wpAnyH_ready (rs := [9, 11]) (by kernel_rfl) (by simp) ?_
          refine AllReadyH.cons rfl (fun K hK => ?_) (AllReadyH.cons rfl (fun K hK => ?_) AllReadyH.nil)
          · go_simp
            refine hK.out _ _ hS (fun _ => ?_)
            clear hK K
            try simp only [Act.put, List.setIfInBounds_toArray, List.set_cons_zero, List.set_cons_succ]
            refine wpAnyH_ready (rs := [11]) (by kernel_rfl) (by simp) ?_
            refine AllReadyH.cons rfl (fun K hK => ?_) AllReadyH.nil
            go_simp
            have hT : S7 z (cg C k) (WD.alloc (.cells #[.int .i64 (cg C k).ca, .int .i64 (cg C k).co, .int .i64 (cg C k).cd] 49)) := s7_of ((box_of hS0.out).keep (bel_one WD _))
            have ca : (WD.alloc (.cells #[.int .i64 (cg C k).ca, .int .i64 (cg C k).co, .int .i64 (cg C k).cd] 49)).cell? ⟨gv, m, none⟩ = some (.slice none 0 0) := ((bel_one WD _).cell (p := ⟨gv, m, none⟩) GL.out).trans hcv
            refine hK.out _ _ hT (fun _ => ?_)
            clear hK K hS
            have hS := hT
            clear hT
            try simp only [Act.put, List.setIfInBounds_toArray, List.set_cons_zero, List.set_cons_succ]
            have hx1 : ∀ u ∈ [Value.int .i64 (cg C k).ca, .int .i64 (cg C k).co, .int .i64 (cg C k).cd], u.oneCell' = true := by intro u hu; simp at hu; rcases hu with rfl | rfl | rfl <;> rfl
            have hx2 : ([] : List Cg).length + 1 ≤ maxLen := by unfold maxLen; simp
            have hx3 : (([] : List Cg).length + 1) * 24 ≤ 140737488355328 := by simp
            have hx4 : w.heap.size ≤ (WD.alloc (.cells #[.int .i64 (cg C k).ca, .int .i64 (cg C k).co, .int .i64 (cg C k).cd] 49)).heap.size := by have := QD.out.bel.size; simp; omega
            refine wpAnyH_ready (rs := [12]) (by kernel_rfl) (by simp) ?_
            refine AllReadyH.cons rfl (fun K hK => ?_) AllReadyH.nil
            first
              | refine wp_append_lies _ _ _ 35 (by rfl) w.heap.size 49 j0 (.agg #[.int .i64 0, .int .i64 0, .int .i64 0]) 3 24 Tryd.underlying35 hj hy0 hy1 hy2 rfl (by decide) _ _ _ (by rfl) (QD.out.last.alloc _) ⟨WD.heap.size, 0, none⟩ 1 1 [.int .i64 (cg C k).ca, .int .i64 (cg C k).co, .int .i64 (cg C k).cd] (by rfl) rfl (cell_three_new _ _ _ _ _) hx1 (by decide) hx2 hx3 hx4 (WD.heap.size + 1) (by simp) ?_
              | refine step_append_lies _ rfl _ _ 35 (by rfl) w.heap.size 49 j0 (.agg #[.int .i64 0, .int .i64 0, .int .i64 0]) 3 24 Tryd.underlying35 hj hy0 hy1 hy2 rfl (by decide) _ _ _ (by rfl) (QD.out.last.alloc _) ⟨WD.heap.size, 0, none⟩ 1 1 [.int .i64 (cg C k).ca, .int .i64 (cg C k).co, .int .i64 (cg C k).cd] (by rfl) rfl (cell_three_new _ _ _ _ _) hx1 (by decide) hx2 hx3 hx4 (WD.heap.size + 1) (by simp) ?_
            intro g' cap' w9 hown9 hgrow9 hloc9 _
            have GR := QD.out.grown (vl' := .slice (some ⟨g', 0, none⟩) (([] : List Cg).length + 1) cap') hgrow9
            rw [HM.out] at GR
            have c9 := GR.2.1
            have f9 := GR.2.2
            have hT : S7 z (cg C k) w9 := by
              have t := (box_of hS0.out).keep (bel_one WD (.cells #[.int .i64 (cg C k).ca, .int .i64 (cg C k).co, .int .i64 (cg C k).cd] 49))
              have ne : ∀ o, some (⟨z, o, none⟩ : Addr).block ≠ (.slice none 0 0 : Value).ownBlock := fun o e => VZL.out e.symm
              exact ⟨hgrow9.cell t.c0 (ne 0), hgrow9.cell t.c1 (ne 1), hgrow9.cell t.c2 (ne 2)⟩
            have HT9 := Lib.hid hT
            refine hK.out _ _ hT (fun _ => ?_)
            have NX : Hid (InQ w (w9.setCell ⟨gv, m, none⟩ (.slice (some ⟨g', 0, none⟩) (([] : List Cg).length + 1) cap')) (.slice (some ⟨gv, 0, none⟩) (m + 1) cap) (.slice (some ⟨g', 0, none⟩) (([] : List Cg).length + 1) cap') ys R ([] ++ [cg C k])) := by
              have := QD.out.more (u := cg C k) hown9 hgrow9 (by rcases hloc9 with h | h; exact .inl h.symm; exact .inr (by rw [h]; rfl))
              rw [HM.out] at this
              exact this
            clear hK K hS hT hown9 hgrow9 hloc9 GR hx1 hx2 hx3 hx4
            try simp only [Act.put, List.setIfInBounds_toArray, List.set_cons_zero, List.set_cons_succ]
            refine wpAnyH_take (i := 13) (v := ?v13z35) rfl (by kernel_rfl) (by kernel_rfl) (by kernel_rfl) (fun _ _ _ h => h) (Or.inl ⟨by rfl, ?hy13z35⟩) (by assumption) ?rest13z35
            case hy13z35 =>
              intro w hSw
              dsimp only [S7] at hSw
              go_simp
              try with_reducible rfl
            simp only [Act.put, List.getElem_toArray, List.getElem_cons_succ, List.getElem_cons_zero, List.setIfInBounds_toArray, List.set_cons_zero, List.set_cons_succ]
            refine wpAnyH_ready (rs := [14]) (by kernel_rfl) (by simp) ?_
            refine AllReadyH.cons rfl (fun K hK => ?_) AllReadyH.nil
            go_simp
            have hT : S7 z (cg C k) (w9.setCell ⟨gv, m, none⟩ (.slice (some ⟨g', 0, none⟩) (([] : List Cg).length + 1) cap')) := by
              have ne : gv ≠ z := fun e => VZ2.out e
              exact ⟨(set_cell ne _).trans HT9.out.1, (set_cell ne _).trans HT9.out.2.1, (set_cell ne _).trans HT9.out.2.2⟩
            refine hK.out _ _ hT (fun _ => ?_)
            clear hK K hT
            try simp only [Act.put, List.setIfInBounds_toArray, List.set_cons_zero, List.set_cons_succ]
            refine wpAnyH_done (by kernel_rfl) ?_ _
            refine NoPanic.normal ?_
            go_wp2
            go_roundw
            case rel => exact ⟨k + 1, by omega, by go_num, rel_more EE.out NX.out⟩
            case measure => simp [intOf]; omega
          · go_simp
            have hT : S7 z (cg C k) (WD.alloc (.cells #[.int .i64 (cg C k).ca, .int .i64 (cg C k).co, .int .i64 (cg C k).cd] 49)) := s7_of ((box_of hS0.out).keep (bel_one WD _))
            have ca : (WD.alloc (.cells #[.int .i64 (cg C k).ca, .int .i64 (cg C k).co, .int .i64 (cg C k).cd] 49)).cell? ⟨gv, m, none⟩ = some (.slice none 0 0) := ((bel_one WD _).cell (p := ⟨gv, m, none⟩) GL.out).trans hcv
            refine hK.out _ _ hT (fun _ => ?_)
            clear hK K hS
            have hS := hT
            clear hT
            try simp only [Act.put, List.setIfInBounds_toArray, List.set_cons_zero, List.set_cons_succ]
            refine wpAnyH_ready (rs := [9]) (by kernel_rfl) (by simp) ?_
            refine AllReadyH.cons rfl (fun K hK => ?_) AllReadyH.nil
            go_simp
            refine hK.out _ _ hS (fun _ => ?_)
            clear hK K
            try simp only [Act.put, List.setIfInBounds_toArray, List.set_cons_zero, List.set_cons_succ]
            have hx1 : ∀ u ∈ [Value.int .i64 (cg C k).ca, .int .i64 (cg C k).co, .int .i64 (cg C k).cd], u.oneCell' = true := by intro u hu; simp at hu; rcases hu with rfl | rfl | rfl <;> rfl
            have hx2 : ([] : List Cg).length + 1 ≤ maxLen := by unfold maxLen; simp
            have hx3 : (([] : List Cg).length + 1) * 24 ≤ 140737488355328 := by simp
            have hx4 : w.heap.size ≤ (WD.alloc (.cells #[.int .i64 (cg C k).ca, .int .i64 (cg C k).co, .int .i64 (cg C k).cd] 49)).heap.size := by have := QD.out.bel.size; simp; omega
            refine wpAnyH_ready (rs := [12]) (by kernel_rfl) (by simp) ?_
            refine AllReadyH.cons rfl (fun K hK => ?_) AllReadyH.nil
            first
              | refine wp_append_lies _ _ _ 35 (by rfl) w.heap.size 49 j0 (.agg #[.int .i64 0, .int .i64 0, .int .i64 0]) 3 24 Tryd.underlying35 hj hy0 hy1 hy2 rfl (by decide) _ _ _ (by rfl) (QD.out.last.alloc _) ⟨WD.heap.size, 0, none⟩ 1 1 [.int .i64 (cg C k).ca, .int .i64 (cg C k).co, .int .i64 (cg C k).cd] (by rfl) rfl (cell_three_new _ _ _ _ _) hx1 (by decide) hx2 hx3 hx4 (WD.heap.size + 1) (by simp) ?_
              | refine step_append_lies _ rfl _ _ 35 (by rfl) w.heap.size 49 j0 (.agg #[.int .i64 0, .int .i64 0, .int .i64 0]) 3 24 Tryd.underlying35 hj hy0 hy1 hy2 rfl (by decide) _ _ _ (by rfl) (QD.out.last.alloc _) ⟨WD.heap.size, 0, none⟩ 1 1 [.int .i64 (cg C k).ca, .int .i64 (cg C k).co, .int .i64 (cg C k).cd] (by rfl) rfl (cell_three_new _ _ _ _ _) hx1 (by decide) hx2 hx3 hx4 (WD.heap.size + 1) (by simp) ?_
            intro g' cap' w9 hown9 hgrow9 hloc9 _
            have GR := QD.out.grown (vl' := .slice (some ⟨g', 0, none⟩) (([] : List Cg).length + 1) cap') hgrow9
            rw [HM.out] at GR
            have c9 := GR.2.1
            have f9 := GR.2.2
            have hT : S7 z (cg C k) w9 := by
              have t := (box_of hS0.out).keep (bel_one WD (.cells #[.int .i64 (cg C k).ca, .int .i64 (cg C k).co, .int .i64 (cg C k).cd] 49))
              have ne : ∀ o, some (⟨z, o, none⟩ : Addr).block ≠ (.slice none 0 0 : Value).ownBlock := fun o e => VZL.out e.symm
              exact ⟨hgrow9.cell t.c0 (ne 0), hgrow9.cell t.c1 (ne 1), hgrow9.cell t.c2 (ne 2)⟩
            have HT9 := Lib.hid hT
            refine hK.out _ _ hT (fun _ => ?_)
            have NX : Hid (InQ w (w9.setCell ⟨gv, m, none⟩ (.slice (some ⟨g', 0, none⟩) (([] : List Cg).length + 1) cap')) (.slice (some ⟨gv, 0, none⟩) (m + 1) cap) (.slice (some ⟨g', 0, none⟩) (([] : List Cg).length + 1) cap') ys R ([] ++ [cg C k])) := by
              have := QD.out.more (u := cg C k) hown9 hgrow9 (by rcases hloc9 with h | h; exact .inl h.symm; exact .inr (by rw [h]; rfl))
              rw [HM.out] at this
              exact this
            clear hK K hS hT hown9 hgrow9 hloc9 GR hx1 hx2 hx3 hx4
            try simp only [Act.put, List.setIfInBounds_toArray, List.set_cons_zero, List.set_cons_succ]
            refine wpAnyH_take (i := 13) (v := ?v13z36) rfl (by kernel_rfl) (by kernel_rfl) (by kernel_rfl) (fun _ _ _ h => h) (Or.inl ⟨by rfl, ?hy13z36⟩) (by assumption) ?rest13z36
            case hy13z36 =>
              intro w hSw
              dsimp only [S7] at hSw
              go_simp
              try with_reducible rfl
            simp only [Act.put, List.getElem_toArray, List.getElem_cons_succ, List.getElem_cons_zero, List.setIfInBounds_toArray, List.set_cons_zero, List.set_cons_succ]
            refine wpAnyH_ready (rs := [14]) (by kernel_rfl) (by simp) ?_
            refine AllReadyH.cons rfl (fun K hK => ?_) AllReadyH.nil
            go_simp
            have hT : S7 z (cg C k) (w9.setCell ⟨gv, m, none⟩ (.slice (some ⟨g', 0, none⟩) (([] : List Cg).length + 1) cap')) := by
              have ne : gv ≠ z := fun e => VZ2.out e
              exact ⟨(set_cell ne _).trans HT9.out.1, (set_cell ne _).trans HT9.out.2.1, (set_cell ne _).trans HT9.out.2.2⟩
            refine hK.out _ _ hT (fun _ => ?_)
            clear hK K hT
            try simp only [Act.put, List.setIfInBounds_toArray, List.set_cons_zero, List.set_cons_succ]
            refine wpAnyH_done (by kernel_rfl) ?_ _
            refine NoPanic.normal ?_
            go_wp2
            go_roundw
            case rel => exact ⟨k + 1, by omega, by go_num, rel_more EE.out NX.out⟩
            case measure => simp [intOf]; omega
    · obtain rfl : k = C.length := by omega
      have R : Hid (CsP C w (.returned u3) wr) := by
        rcases hS.out with ⟨h0, rfl, hb⟩ | ⟨h0, vl, xs, h⟩
        · have e : cases_ C = [] := by unfold cases_; rw [if_pos h0]
          rw [CsP, e]
          exact ⟨none, 0, rfl, fun j hj => by simp at hj, hb⟩
        · have e : cas C (C.length - 1) ++ [seg C (beg C (C.length - 1)) (C.length - beg C (C.length - 1))] = cases_ C := by unfold cases_; rw [if_neg (by omega)]
          have hb := beg_le C (C.length - 1)
          obtain ⟨a', c', rfl, hr⟩ := h.done (by rw [seg_len]; omega) (fun D hD => by
            rw [e] at hD
            obtain ⟨_, s, h2, _⟩ := cases_all hD
            omega)
          rw [e] at hr ⊢
          exact ⟨a', c', rfl, hr, h.bel⟩
      clear hlt hS BE
      go_wp2
      go_ret
      exact R.out
end Go.Proofs.YthdmodmplpoejaaDoor
