/-
  groupBy of package sample, by strata.
-/
import Derived.Test.YtkppfceogknlkaaDoorFrmGrpL
namespace Go.Proofs.YtkppfceogknlkaaDoor
open Go.RowKit Go.WideMaps Go.Maps

theorem infoGS : (Tryd.prog.info? 36).map (fun i => (i.zero, i.size, i.bytes)) = some (some (.agg #[.string ⟨#[]⟩, .slice none 0 0]), 2, 40) := by kernel_rfl
abbrev GS (l : List Un) (ps : List Int) (k : Nat) : DataW Unit := gd Lit.string (fun i => keyS l (ps.getD i 0)) (fun i => ps.getD i 0) k
/-- The keys and the places of strata. -/
abbrev KS (l : List Un) (ps : List Int) : List (List UInt8) := gk leS (keyS l) ps
def ES (K : List (List UInt8)) (i : Nat) : Value := encStr (K.getD i [])
def PS (l : List Un) (ps : List Int) (K : List (List UInt8)) (i : Nat) : List Int := gp (keyS l) ps (K.getD i [])
def GrpPostS (l : List Un) (ps : List Int) (w : World) (e : Ending) (w' : World) : Prop := ∃ v, e = .returned v ∧ IsG w' v (KS l ps).length (ES (KS l ps)) (PS l ps (KS l ps)) ∧ Below w.heap.size w w'
set_option maxRecDepth 100000 in
set_option maxHeartbeats 2000000 in
theorem groupS_c (g : Nat) (a pa : Option Addr) (c pc : Nat) (l : List Un) (ps : List Int) (w : World) (hp : Rd w pa ps) (hl : RdU w a l) (hg : w.cell? ⟨g, 0, none⟩ = some (.slice a l.length c)) (hgb : g < w.heap.size)
    (hin : ∀ z, z ∈ ps → ∃ k : Nat, k < l.length ∧ z = (k : Int)) (hn : ps.length ≤ 5000) (hst : ∀ u, u ∈ l → u.st.size ≤ maxLen) :
    Calls Tryd.prog 19 #[.slice pa ps.length pc, .func (.func 20) #[] #[.pointer (some ⟨g, 0, none⟩)]] w (GrpPostS l ps w) := by
  have hmm := @run_makeMap Tryd.prog
  obtain ⟨i0, hi, hz0, hz1, hz2⟩ := info_parts infoI
  obtain ⟨j0, hj, hy0, hy1, hy2⟩ := info_parts infoGS
  have HP := Lib.hid hp
  have HL := Lib.hid hl
  have HG := Lib.hid hg
  have HGB := Lib.hid hgb
  have HIN := Lib.hid hin
  have HST := Lib.hid hst
  clear hp hl hg hgb hin hst
  go_enter Tryd.func19, Tryd.ntmps19
  go_wp2
  go_loopw [15] (fun i wr => ∃ k : Nat, k ≤ ps.length ∧ i = .int .i64 k ∧ wr.ownsGroups Tryd.prog 9 (w.heap.size + 1) 3 .i64 w.heap.size k (GS l ps k) ∧ Below w.heap.size w wr ∧ w.heap.size + 1 ≤ wr.heap.size) (fun i _ => ps.length - (intOf i).toNat)
  case atStart => exact ⟨0, Nat.zero_le _, rfl, World.ownsGroups_made _ _ _ _ _, (Below.refl _ _).alloc (Nat.le_refl _) _, by simp⟩
  case round =>
    obtain ⟨k, hk, rfl, hown, hnx, hws⟩ := hrel
    by_cases hlt : k < ps.length
    · obtain ⟨b, off, rfl, hc⟩ := (HP.out.below hnx).at_ hlt
      obtain ⟨z, hz, hzk⟩ := HIN.out (ps.getD k 0) (by rw [List.getD, List.getElem?_eq_getElem hlt]; simp)
      have hfn : fn ps k = (z : Int) := hzk
      rw [hfn] at hc
      have hlt' : (k : Int) < (ps.length : Int) := by omega
      have KC := Lib.hid (keyS_c g a c l z wr (HL.out.below hnx) ((hnx.cell (p := ⟨g, 0, none⟩) HGB.out).trans HG.out) hz)
      have hwf : (Lit.int .i64 (z : Int)).wf = true := WalkArith.wf_i64 (by have := HL.out.1; omega)
      have hsz : (un l z).st.size ≤ maxLen := HST.out _ (by unfold un; rw [List.getD, List.getElem?_eq_getElem hz]; simp)
      have hkx : keyS l (ps.getD k 0) = sk (un l z) := by unfold keyS; rw [hzk]; rfl
      have hkey : keyOf Tryd.prog 9 (.string (un l z).st) = some (.string (keyS l (ps.getD k 0))) := by rw [hkx]; exact keyOf_string_mk Tryd.underlying9 hsz
      generalize (un l z).st = sz at hkey KC hsz
      go_wp2_with (first
        | (go_at_call 20; refine KC.out.mono ?_; rintro e w' ⟨rfl, hw⟩; obtain rfl := hw.symm)
        | (at_lookup; refine wpList_lookup_groups _ rfl _ _ 61 rfl 9 34 3 .i64 lawS Tryd.underlying61 (zeroInts _) (w.heap.size + 1) w.heap.size k _ rfl hown (by unfold maxLen; omega) _ _ rfl hkey ?_; intro v zs hat hoi hzl hback)
        | (at_builtin; refine wpList_append_own_at _ rfl _ _ 34 rfl (w.heap.size + 1) 3 i0 (.int .i64 0) 1 8 Tryd.underlying34 hi hz0 hz1 hz2 rfl (by decide) _ _ _ rfl (hoi.1.alloc _) ⟨wr.heap.size, 0, none⟩ 1 1 [.int .i64 z] rfl rfl (cell_one_new _ _ _) (ints_oneCell .i64 [(z : Int)]) (by unfold maxLen; omega) (by omega) (by simp; omega) ?_; intro v' w1 hown' hgrow hnil hloc)
        | (at_mapUpdate; refine wpList_mapUpdate_back _ rfl _ _ _ 61 rfl hback rfl rfl rfl ((World.grownBy_alloc _ _ _).trans hgrow) (hoi.appended hown' hwf) (by simp; omega) (hloc.imp id (fun h => ⟨_, h, by simp⟩)) ?_; intro w2 hown2 hgrow2))
      have hall := (World.grownBy_alloc wr _ _).trans hgrow
      go_roundw
      case rel =>
        refine ⟨k + 1, by omega, by go_num, ?_, hnx.groups hoi hall hgrow2 hnx.size (Nat.le_succ _) (Nat.le_refl _), Nat.le_trans hws (Nat.le_trans hall.size hgrow2.size)⟩
        have hz' : zs = pl (fun i => keyS l (ps.getD i 0)) (fun i => ps.getD i 0) (keyS l (ps.getD k 0)) k := zs_is keysS hoi hat
        rw [show GS l ps (k + 1) = (GS l ps k).put (.string (keyS l (ps.getD k 0))) (.slice (Go.ChangeShapes.lits .i64 (zs ++ [(z : Int)])) []) from by rw [← hzk]; exact gd_step hz', ← (hoi.appended hown' hwf).datum_pos (by simp)]
        exact hown2
      case measure => simp [intOf]; omega
    · obtain rfl : k = ps.length := by omega
      clear hlt
      have hmap : wr.ownsMap Tryd.prog 9 (rowElem wr (w.heap.size + 1) 3 .i64) w.heap.size ps.length (GS l ps ps.length) := by
        obtain ⟨es, clock, h1, h2, h3, h4, _⟩ := hown
        exact ⟨es, clock, h1, h2, h3, h4⟩
      have hperm := keysS_perm hmap
      have hsl := hmap.size_le
      have hkl : (KS l ps).length ≤ 5000 := Nat.le_trans (gk_len_le leS (keyS l) ps) hn
      obtain ⟨wm, hmk, hout0, hgm⟩ := run_make_own wr wr.heap.size 32 36 j0 _ 2 Tryd.underlying32 hj hy0 hy1 .i64 .i64 (Maps.size (GS l ps ps.length)) (by rw [hy2]; omega) (by unfold maxLen; omega) (Nat.le_refl _)
      have hmapm : wm.ownsMap Tryd.prog 9 (rowElem wr (w.heap.size + 1) 3 .i64) w.heap.size ps.length (GS l ps ps.length) := hmap.kept hgm (by simp)
      have SC := Lib.hid (sortedS_c w.heap.size ps.length (GS l ps ps.length) _ wm hmapm (by unfold maxLen; omega) (by omega))
      have PE := Lib.hid hperm
      clear hperm hmapm
      go_wp2_with (first
        | (at_len; refine wpList_len_own _ rfl _ 61 rfl 9 34 Tryd.underlying61 _ w.heap.size ps.length _ rfl hmap ?_)
        | (go_at_call 32; refine (keysS_c _ _).mono ?_; rintro e w' ⟨rfl, rfl⟩))
      refine SC.out.mono ?_
      rintro e w4 ⟨v, ss, rfl, hS, hrow, hnil, hb4⟩
      have hss : ss.mergeSort (fun x y => decide (x ≤ y)) = KS l ps := gk_sort leS leB_tr leB_to leB_anti (hS.trans PE.out.symm)
      have hsl2 : ss.length = (KS l ps).length := by rw [← hss, List.length_mergeSort]
      rw [hss, hsl2] at hrow
      obtain ⟨aK, capK, gK, rfl, hKeys⟩ := row_keys encStr [] hrow
      have R0 : R2 9 36 w wr.heap.size ps.length (GS l ps ps.length) (KS l ps).length gK (ES (KS l ps)) (PS l ps (KS l ps)) (fun _ => undef) 0 (.slice (some ⟨wr.heap.size, 0, none⟩) 0 (Maps.size (GS l ps ps.length))) w4 :=
        R2.start hown hnx hws hout0 hgm hb4 (fun h0 => (hKeys h0).2)
      have HR0 := Lib.hid R0
      have HKA := Lib.hid (fun h0 => (hKeys h0).1)
      have HKM := Lib.hid (fun (x : List UInt8) (hx : x ∈ KS l ps) => (show x.length ≤ maxLen from by
        obtain ⟨i, hi, rfl⟩ := (gk_mem leS).1 hx
        obtain ⟨z, hz, hzk⟩ := HIN.out (ps.getD i 0) (by rw [List.getD, List.getElem?_eq_getElem hi]; simp)
        have h := HST.out (un l z) (by unfold un; rw [List.getD, List.getElem?_eq_getElem hz]; simp)
        unfold keyS
        rw [hzk]
        exact h))
      clear R0 hKeys hrow hnil hb4 hS hss hsl2 hown hnx hws hout0 hgm hmap hmk hsl SC PE
      go_wp2_with fail
      generalize wr.heap.size = L at *
      go_loopw [9, 38] (fun o i W => ∃ (j : Nat) (V : Nat → Value), j ≤ (KS l ps).length ∧ i = .int .i64 j ∧ Hid (R2 9 36 w L ps.length (GS l ps ps.length) (KS l ps).length gK (ES (KS l ps)) (PS l ps (KS l ps)) V j o W)) (fun _ i _ => (KS l ps).length - (intOf i).toNat)
      case atStart => exact ⟨0, _, Nat.zero_le _, rfl, HR0.out⟩
      case round =>
        obtain ⟨j, V, hjm, rfl, hR⟩ := hrel
        by_cases hlt : j < (KS l ps).length
        · obtain rfl := HKA.out (by omega)
          have hlt' : (j : Int) < ((KS l ps).length : Int) := by omega
          obtain ⟨kb, hkb⟩ : ∃ kb : ByteArray, (⟨((KS l ps).getD j []).toArray⟩ : ByteArray) = kb := ⟨_, rfl⟩
          have hkd : kb.data.toList = (KS l ps).getD j [] := by rw [← hkb]
          have hcell : wr.cell? ⟨gK, j, none⟩ = some (.string kb) := by rw [← hkb]; exact (hR.out.keys (by omega)).2.2 j hlt
          have hkm : kb.size ≤ maxLen := by
            have h := HKM.out ((KS l ps).getD j []) (by rw [List.getD, List.getElem?_eq_getElem hlt]; simp)
            rw [← hkd] at h
            exact h
          have hkey2 : keyOf Tryd.prog 9 (.string kb) = some (.string ((KS l ps).getD j [])) := by rw [← hkd]; exact keyOf_string_mk Tryd.underlying9 hkm
          go_wp2_with (first
            | (at_lookup; refine wpList_lookup_groups_shuns _ rfl _ _ 61 rfl 9 34 3 .i64 lawS Tryd.underlying61 (zeroInts _) (w.heap.size + 1) w.heap.size ps.length _ rfl hR.out.grp (by unfold maxLen; omega) _ _ rfl hkey2 ?_; intro v zs hat hoi hzl hback hsh; obtain ⟨va, vc, hv, hvr⟩ := ownsInts_rd hoi (by omega); subst hv)
            | (at_builtin; refine wpList_append_own_at _ rfl _ _ 32 rfl L 36 j0 (.agg #[.string ⟨#[]⟩, .slice none 0 0]) 2 40 Tryd.underlying32 hj hy0 hy1 hy2 rfl (by decide) _ _ _ rfl (hR.out.row.alloc _) ⟨wr.heap.size, 0, none⟩ 1 1 [.string kb, .slice va zs.length vc] rfl rfl (cell_two_new _ _ _ _) (by simp [Value.oneCell']) (by unfold maxLen; omega) (by omega) (by have := hR.out.hi; simp; omega) ?_; intro v' w1 hown' hgrow hnil2 hloc))
          have hz' : zs = PS l ps (KS l ps) j := by
            rw [zs_is keysS hoi hat, pl_take ps _ ps.length (Nat.le_refl _), List.take_length]
            rfl
          subst hz'
          have he : ES (KS l ps) j = .string kb := by unfold ES encStr; rw [hkb]
          have hstep := Lib.hid (hR.out.step (v' := v') (w1 := w1) hoi hsh (by rw [he]; exact hown') hgrow hloc)
          clear hown' hgrow hloc hnil2 hsh hoi hat hback hvr
          go_roundw
          case rel => exact ⟨j + 1, _, by omega, by go_num, hstep.out⟩
          case measure => simp [intOf]; omega
        · obtain rfl : j = (KS l ps).length := by omega
          go_wp2
          go_ret
          exact ⟨_, rfl, hR.out.done (by omega) (fun i hi => by
            have h := List.length_filter_le (fun z => decide (keyS l z = (KS l ps).getD i [])) ps
            show (gp (keyS l) ps _).length ≤ _
            unfold gp
            omega), hR.out.bel⟩
end Go.Proofs.YtkppfceogknlkaaDoor
