/-
  groupBy of package sample, by clusters.
-/
import Derived.Test.YtkppfceogknlkaaDoorFrmGrpL
namespace Go.Proofs.YtkppfceogknlkaaDoor
open Go.RowKit Go.WideMaps Go.Maps

theorem infoGI : (Tryd.prog.info? 72).map (fun i => (i.zero, i.size, i.bytes)) = some (some (.agg #[.int .i64 0, .slice none 0 0]), 2, 32) := by kernel_rfl
abbrev GI (l : List Un) (ps : List Int) (k : Nat) : DataW Unit := gd (Lit.int .i64) (fun i => keyI l (ps.getD i 0)) (fun i => ps.getD i 0) k
/-- The keys and the places of strata. -/
abbrev KI (l : List Un) (ps : List Int) : List Int := gk leN (keyI l) ps
def EI (K : List Int) (i : Nat) : Value := encZ (K.getD i 0)
def PI (l : List Un) (ps : List Int) (K : List Int) (i : Nat) : List Int := gp (keyI l) ps (K.getD i 0)
def GrpPostI (l : List Un) (ps : List Int) (w : World) (e : Ending) (w' : World) : Prop := ∃ v, e = .returned v ∧ IsG w' v (KI l ps).length (EI (KI l ps)) (PI l ps (KI l ps)) ∧ Below w.heap.size w w'
set_option maxRecDepth 100000 in
set_option maxHeartbeats 2000000 in
theorem groupI_c (g : Nat) (a pa : Option Addr) (c pc : Nat) (l : List Un) (ps : List Int) (w : World) (hp : Rd w pa ps) (hl : RdU w a l) (hg : w.cell? ⟨g, 0, none⟩ = some (.slice a l.length c)) (hgb : g < w.heap.size)
    (hin : ∀ z, z ∈ ps → ∃ k : Nat, k < l.length ∧ z = (k : Int)) (hn : ps.length ≤ 5000) (hst : ∀ u, u ∈ l → 0 ≤ u.cl ∧ u.cl ≤ 5000) :
    Calls Tryd.prog 21 #[.slice pa ps.length pc, .func (.func 22) #[] #[.pointer (some ⟨g, 0, none⟩)]] w (GrpPostI l ps w) := by
  have hmm := @run_makeMap Tryd.prog
  obtain ⟨i0, hi, hz0, hz1, hz2⟩ := info_parts infoI
  obtain ⟨j0, hj, hy0, hy1, hy2⟩ := info_parts infoGI
  have HP := Lib.hid hp
  have HL := Lib.hid hl
  have HG := Lib.hid hg
  have HGB := Lib.hid hgb
  have HIN := Lib.hid hin
  have HST := Lib.hid hst
  clear hp hl hg hgb hin hst
  go_enter Tryd.func21, Tryd.ntmps21
  go_wp2
  go_loopw [15] (fun i wr => ∃ k : Nat, k ≤ ps.length ∧ i = .int .i64 k ∧ wr.ownsGroups Tryd.prog 3 (w.heap.size + 1) 3 .i64 w.heap.size k (GI l ps k) ∧ Below w.heap.size w wr ∧ w.heap.size + 1 ≤ wr.heap.size) (fun i _ => ps.length - (intOf i).toNat)
  case atStart => exact ⟨0, Nat.zero_le _, rfl, World.ownsGroups_made _ _ _ _ _, (Below.refl _ _).alloc (Nat.le_refl _) _, by simp⟩
  case round =>
    obtain ⟨k, hk, rfl, hown, hnx, hws⟩ := hrel
    by_cases hlt : k < ps.length
    · obtain ⟨b, off, rfl, hc⟩ := (HP.out.below hnx).at_ hlt
      obtain ⟨z, hz, hzk⟩ := HIN.out (ps.getD k 0) (by rw [List.getD, List.getElem?_eq_getElem hlt]; simp)
      have hfn : fn ps k = (z : Int) := hzk
      rw [hfn] at hc
      have hlt' : (k : Int) < (ps.length : Int) := by omega
      have KC := Lib.hid (keyI_c g a c l z wr (HL.out.below hnx) ((hnx.cell (p := ⟨g, 0, none⟩) HGB.out).trans HG.out) hz)
      have hwf : (Lit.int .i64 (z : Int)).wf = true := WalkArith.wf_i64 (by have := HL.out.1; omega)
      have hsz : 0 ≤ (un l z).cl ∧ (un l z).cl ≤ 5000 := HST.out _ (by unfold un; rw [List.getD, List.getElem?_eq_getElem hz]; simp)
      have hkx : keyI l (ps.getD k 0) = (un l z).cl := by unfold keyI; rw [hzk]; rfl
      have hkey : keyOf Tryd.prog 3 (.int .i64 (un l z).cl) = some (.int .i64 (keyI l (ps.getD k 0))) := by rw [hkx]; exact keyOf_int_mk Tryd.underlying3 (WalkArith.wf_i64 (by omega))
      generalize (un l z).cl = sz at hkey KC hsz
      go_wp2_with (first
        | (go_at_call 22; refine KC.out.mono ?_; rintro e w' ⟨rfl, hw⟩; obtain rfl := hw.symm)
        | (at_lookup; refine wpList_lookup_groups _ rfl _ _ 66 rfl 3 34 3 .i64 lawI Tryd.underlying66 (zeroInts _) (w.heap.size + 1) w.heap.size k _ rfl hown (by unfold maxLen; omega) _ _ rfl hkey ?_; intro v zs hat hoi hzl hback)
        | (at_builtin; refine wpList_append_own_at _ rfl _ _ 34 rfl (w.heap.size + 1) 3 i0 (.int .i64 0) 1 8 Tryd.underlying34 hi hz0 hz1 hz2 rfl (by decide) _ _ _ rfl (hoi.1.alloc _) ⟨wr.heap.size, 0, none⟩ 1 1 [.int .i64 z] rfl rfl (cell_one_new _ _ _) (ints_oneCell .i64 [(z : Int)]) (by unfold maxLen; omega) (by omega) (by simp; omega) ?_; intro v' w1 hown' hgrow hnil hloc)
        | (at_mapUpdate; refine wpList_mapUpdate_back _ rfl _ _ _ 66 rfl hback rfl rfl rfl ((World.grownBy_alloc _ _ _).trans hgrow) (hoi.appended hown' hwf) (by simp; omega) (hloc.imp id (fun h => ⟨_, h, by simp⟩)) ?_; intro w2 hown2 hgrow2))
      have hall := (World.grownBy_alloc wr _ _).trans hgrow
      go_roundw
      case rel =>
        refine ⟨k + 1, by omega, by go_num, ?_, hnx.groups hoi hall hgrow2 hnx.size (Nat.le_succ _) (Nat.le_refl _), Nat.le_trans hws (Nat.le_trans hall.size hgrow2.size)⟩
        have hz' : zs = pl (fun i => keyI l (ps.getD i 0)) (fun i => ps.getD i 0) (keyI l (ps.getD k 0)) k := zs_is keysI hoi hat
        rw [show GI l ps (k + 1) = (GI l ps k).put (.int .i64 (keyI l (ps.getD k 0))) (.slice (Go.ChangeShapes.lits .i64 (zs ++ [(z : Int)])) []) from by rw [← hzk]; exact gd_step hz', ← (hoi.appended hown' hwf).datum_pos (by simp)]
        exact hown2
      case measure => simp [intOf]; omega
    · obtain rfl : k = ps.length := by omega
      clear hlt
      have hmap : wr.ownsMap Tryd.prog 3 (rowElem wr (w.heap.size + 1) 3 .i64) w.heap.size ps.length (GI l ps ps.length) := by
        obtain ⟨es, clock, h1, h2, h3, h4, _⟩ := hown
        exact ⟨es, clock, h1, h2, h3, h4⟩
      have hperm := keysI_perm hmap
      have hsl := hmap.size_le
      have hkl : (KI l ps).length ≤ 5000 := Nat.le_trans (gk_len_le leN (keyI l) ps) hn
      obtain ⟨wm, hmk, hout0, hgm⟩ := run_make_own wr wr.heap.size 37 72 j0 _ 2 Tryd.underlying37 hj hy0 hy1 .i64 .i64 (Maps.size (GI l ps ps.length)) (by rw [hy2]; omega) (by unfold maxLen; omega) (Nat.le_refl _)
      have hmapm : wm.ownsMap Tryd.prog 3 (rowElem wr (w.heap.size + 1) 3 .i64) w.heap.size ps.length (GI l ps ps.length) := hmap.kept hgm (by simp)
      have SC := Lib.hid (sortedI_c w.heap.size ps.length (GI l ps ps.length) _ wm hmapm (by unfold maxLen; omega) (by omega))
      have PE := Lib.hid hperm
      clear hperm hmapm
      go_wp2_with (first
        | (at_len; refine wpList_len_own _ rfl _ 66 rfl 3 34 Tryd.underlying66 _ w.heap.size ps.length _ rfl hmap ?_)
        | (go_at_call 34; refine (keysI_c _ _).mono ?_; rintro e w' ⟨rfl, rfl⟩))
      refine SC.out.mono ?_
      rintro e w4 ⟨v, ss, rfl, hS, hrow, hnil, hb4⟩
      have hss : ss.mergeSort (fun x y => decide (x ≤ y)) = KI l ps := gk_sort leN leI_tr leI_to leI_anti (hS.trans PE.out.symm)
      have hsl2 : ss.length = (KI l ps).length := by rw [← hss, List.length_mergeSort]
      rw [hss, hsl2] at hrow
      obtain ⟨aK, capK, gK, rfl, hKeys⟩ := row_keys encZ 0 hrow
      have R0 : R2 3 72 w wr.heap.size ps.length (GI l ps ps.length) (KI l ps).length gK (EI (KI l ps)) (PI l ps (KI l ps)) (fun _ => undef) 0 (.slice (some ⟨wr.heap.size, 0, none⟩) 0 (Maps.size (GI l ps ps.length))) w4 :=
        R2.start hown hnx hws hout0 hgm hb4 (fun h0 => (hKeys h0).2)
      have HR0 := Lib.hid R0
      have HKA := Lib.hid (fun h0 => (hKeys h0).1)
      have HKM := Lib.hid (fun (x : Int) (hx : x ∈ KI l ps) => (show 0 ≤ x ∧ x ≤ 5000 from by
        obtain ⟨i, hi, rfl⟩ := (gk_mem leN).1 hx
        obtain ⟨z, hz, hzk⟩ := HIN.out (ps.getD i 0) (by rw [List.getD, List.getElem?_eq_getElem hi]; simp)
        have h := HST.out (un l z) (by unfold un; rw [List.getD, List.getElem?_eq_getElem hz]; simp)
        unfold keyI
        rw [hzk]
        exact h))
      clear R0 hKeys hrow hnil hb4 hS hss hsl2 hown hnx hws hout0 hgm hmap hmk hsl SC PE
      go_wp2_with fail
      generalize wr.heap.size = L at *
      go_loopw [9, 38] (fun o i W => ∃ (j : Nat) (V : Nat → Value), j ≤ (KI l ps).length ∧ i = .int .i64 j ∧ Hid (R2 3 72 w L ps.length (GI l ps ps.length) (KI l ps).length gK (EI (KI l ps)) (PI l ps (KI l ps)) V j o W)) (fun _ i _ => (KI l ps).length - (intOf i).toNat)
      case atStart => exact ⟨0, _, Nat.zero_le _, rfl, HR0.out⟩
      case round =>
        obtain ⟨j, V, hjm, rfl, hR⟩ := hrel
        by_cases hlt : j < (KI l ps).length
        · obtain rfl := HKA.out (by omega)
          have hlt' : (j : Int) < ((KI l ps).length : Int) := by omega
          obtain ⟨kb, hkb⟩ : ∃ kb : Int, (KI l ps).getD j 0 = kb := ⟨_, rfl⟩
          have hcell : wr.cell? ⟨gK, j, none⟩ = some (.int .i64 kb) := by rw [← hkb]; exact (hR.out.keys (by omega)).2.2 j hlt
          have hkm : 0 ≤ kb ∧ kb ≤ 5000 := by
            rw [← hkb]
            exact HKM.out ((KI l ps).getD j 0) (by rw [List.getD, List.getElem?_eq_getElem hlt]; simp)
          have hkey2 : keyOf Tryd.prog 3 (.int .i64 kb) = some (.int .i64 ((KI l ps).getD j 0)) := by rw [hkb]; exact keyOf_int_mk Tryd.underlying3 (WalkArith.wf_i64 (by omega))
          go_wp2_with (first
            | (at_lookup; refine wpList_lookup_groups_shuns _ rfl _ _ 66 rfl 3 34 3 .i64 lawI Tryd.underlying66 (zeroInts _) (w.heap.size + 1) w.heap.size ps.length _ rfl hR.out.grp (by unfold maxLen; omega) _ _ rfl hkey2 ?_; intro v zs hat hoi hzl hback hsh; obtain ⟨va, vc, hv, hvr⟩ := ownsInts_rd hoi (by omega); subst hv)
            | (at_builtin; refine wpList_append_own_at _ rfl _ _ 37 rfl L 72 j0 (.agg #[.int .i64 0, .slice none 0 0]) 2 32 Tryd.underlying37 hj hy0 hy1 hy2 rfl (by decide) _ _ _ rfl (hR.out.row.alloc _) ⟨wr.heap.size, 0, none⟩ 1 1 [.int .i64 kb, .slice va zs.length vc] rfl rfl (cell_two_new _ _ _ _) (by simp [Value.oneCell']) (by unfold maxLen; omega) (by omega) (by have := hR.out.hi; simp; omega) ?_; intro v' w1 hown' hgrow hnil2 hloc))
          have hz' : zs = PI l ps (KI l ps) j := by
            rw [zs_is keysI hoi hat, pl_take ps _ ps.length (Nat.le_refl _), List.take_length]
            rfl
          subst hz'
          have he : EI (KI l ps) j = .int .i64 kb := by unfold EI encZ; rw [hkb]
          have hstep := Lib.hid (hR.out.step (v' := v') (w1 := w1) hoi hsh (by rw [he]; exact hown') hgrow hloc)
          clear hown' hgrow hloc hnil2 hsh hoi hat hback hvr
          go_roundw
          case rel => exact ⟨j + 1, _, by omega, by go_num, hstep.out⟩
          case measure => simp [intOf]; omega
        · obtain rfl : j = (KI l ps).length := by omega
          go_wp2
          go_ret
          exact ⟨_, rfl, hR.out.done (by omega) (fun i hi => by
            have h := List.length_filter_le (fun z => decide (keyI l z = (KI l ps).getD i 0)) ps
            show (gp (keyI l) ps _).length ≤ _
            unfold gp
            omega), hR.out.bel⟩
end Go.Proofs.YtkppfceogknlkaaDoor
