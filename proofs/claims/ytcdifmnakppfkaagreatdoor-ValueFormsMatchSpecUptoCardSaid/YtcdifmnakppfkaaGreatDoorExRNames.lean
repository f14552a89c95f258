/-
  Names of the reference: the names of each argument in order, joined, put in order again.
-/
import Derived.Test.YtcdifmnakppfkaaGreatDoorExNames
namespace Go.Proofs.YtcdifmnakppfkaaGreatDoor
open Go.RowKit

/-- What the reference gathers of a row of arguments. -/
def outF : Fo → List (List UInt8)
  | .nil => []
  | .cons h a r => canon (nms1 h a) ++ outF r
theorem outF_mem (x : List UInt8) : ∀ xs : Fo, x ∈ outF xs ↔ x ∈ nmsF xs
  | .nil => by simp [outF, nmsF]
  | .cons h a r => by
    have ih := outF_mem x r
    simp only [outF, List.mem_append, canon_mem, ih]
    show _ ↔ x ∈ nms1 h a ++ nmsF r
    rw [List.mem_append]
theorem outF_len : ∀ xs : Fo, (outF xs).length ≤ xs.parts
  | .nil => by simp [outF]
  | .cons h a r => by
    have h1 := outF_len r
    have h2 := canon_len (nms1 h a)
    have h3 := nms1_len h a
    simp only [outF, List.length_append, Fo.parts]; omega
theorem outF_drop {k : Nat} {xs : Fo} {h : Hd} {a : Fo} (hk : xs.drop k = .cons h a (xs.drop (k + 1))) : outF (xs.drop k) = canon (nms1 h a) ++ outF (xs.drop (k + 1)) := by
  rw [hk]; rfl
def out1 (h : Hd) (a : Fo) : List (List UInt8) := (if h.k = 2 then [h.nm.data.toList] else []) ++ outF a
theorem out1_canon (h : Hd) (a : Fo) : canon (out1 h a) = canon (nms1 h a) := canon_ext fun x => by
  unfold out1 nms1
  rw [List.mem_append, List.mem_append, outF_mem]

theorem add_at (g j : Nat) : (⟨g, 0, none⟩ : Addr).add j = ⟨g, j, none⟩ := by
  unfold Addr.add
  split
  · rename_i h; subst h; rfl
  · simp
/-- The names gathered so far lie in a row of the call's own. -/
structure RSt (w : World) (L : List (List UInt8)) (v : Value) (wr : World) : Prop where
  row : RowN wr w.heap.size v L
  bel : Below w.heap.size w wr
theorem RSt.keep {w wr w' : World} {L : List (List UInt8)} {v : Value} (h : RSt w L v wr) (hb : Below wr.heap.size wr w') : RSt w L v w' := ⟨h.row.bel hb, h.bel.trans (hb.mono h.bel.size)⟩
theorem RSt.grow {w wr w2 : World} {L M : List (List UInt8)} {v v' : Value} (h : RSt w L v wr) (hown : w2.ownsRow w.heap.size 9 1 v' (L.length + M.length) (L.map encStr ++ M.map encStr)) (hg : wr.grownBy w2 v.ownBlock) : RSt w (L ++ M) v' w2 :=
  ⟨by unfold RowN; rw [List.length_append, List.map_append]; exact hown, h.bel.grown hg h.bel.size (fun b hb => (World.ownsRow.lt h.row b hb).1)⟩
def RNamesC (w0 : World) (h : Hd) (a : Fo) : Prop :=
  ∀ (v : Value) (w : World), IsX w0 h a v → Below w0.heap.size w0 w → a.parts ≤ 1048576 →
    Calls Tryz.prog 10 #[v] w fun e w' => ∃ v', e = .returned v' ∧ Hid (RSt w (canon (nms1 h a)) v' w')
/-- The loop over the arguments. -/
def RLoop (w : World) (L : List (List UInt8)) (c : Nat) (xs : Fo) (k : Nat) (v : Value) (wr : World) : Prop := ∃ M, RSt w M v wr ∧ M ++ outF (xs.drop k) = L ∧ M.length + (xs.drop k).parts ≤ c

set_option maxRecDepth 100000 in
set_option maxHeartbeats 4000000 in
theorem rnames_step (w0 : World) (h : Hd) (xs : Fo) (ih : ∀ k h' a', xs.drop k = .cons h' a' (xs.drop (k + 1)) → RNamesC w0 h' a') : RNamesC w0 h xs := by
  intro v w hx hb hsz
  have hbs := hb.size
  obtain ⟨sv, a, n, c, rfl, hL, rfl, hs⟩ := hx
  have IH := Lib.hid ih; clear ih
  have HS := Lib.hid hs; clear hs
  obtain ⟨p, m, q, rfl⟩ := hL.form
  clear hL
  have HB0 := Lib.hid hb; clear hb
  have hll := xs.len_le_parts
  have hol := outF_len xs
  have eC := Lib.hid (out1_canon h xs)
  have hlc : (out1 h xs).length ≤ xs.parts + 1 := by unfold out1; split <;> simp <;> omega
  have S0 : Hid (RSt w [] (.slice none 0 0) (w.alloc (.cells #[.int .i64 h.k, .int .i64 h.o, .string h.nm, .int .i64 h.vk, .int .i64 h.vn, .string h.vs, .slice p m q, .slice a xs.len c] 27))) := ⟨World.ownsRow_nil _ _ _ _, (Below.refl _ _).alloc (Nat.le_refl _) _⟩
  obtain ⟨i0, hi, hz0, hz1, hz2⟩ := info_parts infoN
  by_cases hk : h.k = 2
  · have k1 : (h.k == 2) = true := by simpa using hk
    have eN : Hid (out1 h xs = [h.nm.data.toList] ++ outF xs) := by unfold Hid out1; rw [if_pos hk]
    clear hk
    go_enter Tryz.func10, Tryz.ntmps10
    go_wp2_with (at_builtin; refine wpList_append_own _ rfl _ _ 33 rfl w.heap.size 9 i0 (.string ByteArray.empty) 1 16 Tryz.underlying33 hi hz0 hz1 hz2 rfl (by decide) _ _ _ rfl (World.ownsRow_nil _ _ _ _) ⟨w.heap.size + 1, 0, none⟩ 1 1 [.string h.nm] rfl rfl ?c1 ?c2 ?c3 ?c4 ?c5 ?_)
    case c1 =>
      intro j u hj
      match j, hj with
      | 0, hj => simp at hj; subst hj; simp [Addr.add]
    case c2 => intro u hu; simp at hu; subst hu; rfl
    case c3 => unfold maxLen; omega
    case c4 => omega
    case c5 => simp; omega
    intro v' w2 hown' hgrow _
    have hbx : w2.cell? ⟨w.heap.size, 7, none⟩ = some (.slice a xs.len c) := by
      refine hgrow.cell (a := ⟨w.heap.size, 7, none⟩) ?_ (by simp [Value.ownBlock])
      rw [World.cell?_alloc_past _ _ _ (by simp), World.cell?_alloc_new]; rfl
    have S1 : RSt w [h.nm.data.toList] v' w2 := by
      have := (S0.out.keep ((Below.refl _ _).alloc (Nat.le_refl _) (.cells #[.string h.nm] 9))).grow (M := [h.nm.data.toList]) (v' := v') (w2 := w2) (by simpa using hown') hgrow
      simpa using this
    have H0 : Hid (RLoop w (out1 h xs) (xs.parts + 1) xs 0 v' w2) := ⟨_, S1, by rw [eN.out]; simp [Fo.drop], by simp only [Fo.drop, List.length_cons, List.length_nil]; omega⟩
    clear hown' hgrow S1 S0
    go_wp2_with fail
    clear hbx
    go_loopw [3, 5, 17] (fun v _ i wr => ∃ (k : Nat) (vv : Value), k ≤ xs.len ∧ i = .int .i64 k ∧ vv = v ∧ Hid (RLoop w (out1 h xs) (xs.parts + 1) xs k vv wr)) (fun _ _ i _ => xs.len - (intOf i).toNat)
    case atStart => exact ⟨0, _, Nat.zero_le _, rfl, rfl, H0.out⟩
    case round =>
      obtain ⟨k, vv, hk, rfl, rfl, hR⟩ := hrel
      clear H0
      obtain ⟨M, hG, hM, hP⟩ := hR.out
      have HM := Lib.hid hM; clear hM
      have HP := Lib.hid hP; clear hP
      have HG := Lib.hid hG; clear hG hR
      by_cases hlt' : k < xs.len
      · have hkk : (k : Int) < (xs.len : Int) := by omega
        obtain ⟨b, off, rfl, hbl, hF⟩ : ∃ b off, a = some ⟨b, off, none⟩ ∧ b < w0.heap.size ∧ IsF w0 b xs off := by
          rcases HS.out with h | h
          · omega
          · exact h
        obtain ⟨h', a', hd⟩ := Fo.drop_at k xs hlt'
        obtain ⟨sp, sm, sq, p', n', c', g0, g1, g2, g3, g4, g5, g6, g7, hX⟩ := hF.cells hd
        have hBB := HB0.out.trans (HG.out.bel.mono hbs)
        have cc := fun (o : Nat) => hBB.cell (p := ⟨b, o, none⟩) hbl
        have k0 := (cc _).trans g0
        have k1 := (cc _).trans g1
        have k2 := (cc _).trans g2
        have k3 := (cc _).trans g3
        have k4 := (cc _).trans g4
        have k5 := (cc _).trans g5
        have k6 := (cc _).trans g6
        have k7 := (cc _).trans g7
        have HX := Lib.hid hX
        have HD := Lib.hid hd
        have hsub := Fo.parts_sub hd
        have hdp := Fo.parts_drop hd
        have hcl := canon_len (nms1 h' a')
        have hnl := nms1_len h' a'
        have hbd : Hid (M.length + (a'.parts + 1) ≤ 1048577) := by have := HP.out; unfold Hid; omega
        have HDP := Lib.hid hdp
        have HBB := Lib.hid hBB
        clear g0 g1 g2 g3 g4 g5 g6 g7 hX hd cc hF hdp hBB
        go_wp2_with fail
        refine (IH.out k h' a' HD.out _ _ HX.out (HBB.out.alloc HBB.out.size _) (by omega)).mono ?_
        rintro e w4 ⟨v4, rfl, hS4⟩
        have S4 := Lib.hid hS4.out; clear hS4
        have hK := (Below.refl wr.heap.size wr).alloc (Nat.le_refl _) (.cells #[.int .i64 h'.k, .int .i64 h'.o, .string h'.nm, .int .i64 h'.vk, .int .i64 h'.vn, .string h'.vs, .slice sp sm sq, .slice p' n' c'] 27)
        have SG := Lib.hid (HG.out.keep (hK.trans (S4.out.bel.mono hK.size)))
        have hbz := Lib.hid SG.out.bel.size
        have hbd2 : M.length + (canon (nms1 h' a')).length ≤ 1048577 := by have := hbd.out; omega
        have fin : Hid (∀ v5 w5, RSt w (M ++ canon (nms1 h' a')) v5 w5 → RLoop w (out1 h xs) (xs.parts + 1) xs (k + 1) v5 w5) := by
          intro v5 w5 hR5
          refine ⟨_, hR5, ?_, ?_⟩
          · rw [List.append_assoc, ← outF_drop HD.out]; exact HM.out
          · have h2 := HP.out
            have h3 := HDP.out
            rw [List.length_append]; omega
        clear k0 k1 k2 k3 k4 k5 k6 k7
        generalize canon (nms1 h' a') = N at S4 hbd2 fin hcl
        obtain ⟨hl4, ⟨rfl, h04⟩ | ⟨g4, cap4, cur4, rfl, hg4, hgb4, hnc4, hm4, hs4, ht4⟩⟩ := S4.out.row
        · obtain rfl := List.eq_nil_of_length_eq_zero h04
          go_wp2_with (at_builtin; refine wpList_append_own_none rfl _ _ 33 rfl w.heap.size 9 i0 1 Tryz.underlying33 hi _ _ _ rfl SG.out.row rfl ?_)
          have f1 : Hid (RLoop w (out1 h xs) (xs.parts + 1) xs (k + 1) vv w4) := fin.out _ _ (by rw [List.append_nil]; exact SG.out)
          go_wp2
          go_roundw
          case rel => exact ⟨k + 1, _, by omega, by go_num, rfl, f1.out⟩
          case measure => simp [intOf]; omega
        · have hcell := Lib.hid (fun j (hj : j < N.length) => World.ownsRow.cellAt S4.out.row j (by omega))
          clear hl4 hg4 hgb4 hnc4 hm4 hs4 ht4
          go_wp2_with (at_builtin; refine wpList_append_own _ rfl _ _ 33 rfl w.heap.size 9 i0 (.string ByteArray.empty) 1 16 Tryz.underlying33 hi hz0 hz1 hz2 rfl (by decide) _ _ _ rfl SG.out.row ⟨g4, 0, none⟩ N.length cap4 (N.map encStr) rfl (by simp) ?c1 ?c2 ?c3 ?c4 ?c5 ?_)
          case c1 =>
            intro j u hj
            have hjl : j < N.length := by
              rcases Nat.lt_or_ge j N.length with h1 | h1
              · exact h1
              · rw [List.getElem?_eq_none (by simpa using h1)] at hj; cases hj
            have := hcell.out j hjl
            rw [hj] at this
            rw [add_at]; exact this
          case c2 => intro u hu; obtain ⟨x, _, rfl⟩ := List.mem_map.1 hu; rfl
          case c3 => unfold maxLen; omega
          case c4 => omega
          case c5 => exact hbz.out
          intro v5 w5 hown5 hgrow5 _
          have f1 : Hid (RLoop w (out1 h xs) (xs.parts + 1) xs (k + 1) v5 w5) := fin.out _ _ (SG.out.grow hown5 hgrow5)
          clear hown5 hgrow5
          go_wp2
          go_roundw
          case rel => exact ⟨k + 1, _, by omega, by go_num, rfl, f1.out⟩
          case measure => simp [intOf]; omega
      · obtain rfl : k = xs.len := by omega
        have hz := Fo.drop_end (xs := xs) rfl
        have e1 : M = out1 h xs := by have := HM.out; rw [hz] at this; simpa [outF] using this
        subst e1
        clear hz
        go_wp2_with fail
        refine (sort_c wr w.heap.size _ (out1 h xs) (by omega) HG.out.row).mono ?_
        rintro e w5 ⟨rfl, hR5, hB5⟩
        have HR5 := Lib.hid hR5
        have HB5 := Lib.hid (HG.out.bel.trans hB5)
        clear hR5 hB5 HG
        go_wp2_with fail
        refine (compact_c w5 w.heap.size _ _ (by rw [List.length_mergeSort]; omega) HR5.out).mono ?_
        rintro e w6 ⟨v', rfl, hR6, hB6⟩
        have H6 : Hid (RSt w (canon (nms1 h xs)) v' w6) := ⟨by rw [← eC.out]; exact hR6, HB5.out.trans hB6⟩
        clear hR6 hB6
        go_wp2
        go_ret
        exact ⟨v', rfl, H6.out⟩
  · have k1 : (h.k == 2) = false := by rw [beq_eq_false_iff_ne]; exact hk
    have eN : Hid (out1 h xs = outF xs) := by unfold Hid out1; rw [if_neg hk]; rfl
    have H0 : Hid (RLoop w (out1 h xs) (xs.parts + 1) xs 0 (.slice none 0 0) (w.alloc (.cells #[.int .i64 h.k, .int .i64 h.o, .string h.nm, .int .i64 h.vk, .int .i64 h.vn, .string h.vs, .slice p m q, .slice a xs.len c] 27))) := ⟨_, S0.out, by rw [eN.out]; simp [Fo.drop], by simp only [Fo.drop, List.length_nil]; omega⟩
    clear hk S0
    go_enter Tryz.func10, Tryz.ntmps10
    go_wp2_with fail
    go_loopw [3, 5, 17] (fun v _ i wr => ∃ (k : Nat) (vv : Value), k ≤ xs.len ∧ i = .int .i64 k ∧ vv = v ∧ Hid (RLoop w (out1 h xs) (xs.parts + 1) xs k vv wr)) (fun _ _ i _ => xs.len - (intOf i).toNat)
    case atStart => exact ⟨0, _, Nat.zero_le _, rfl, rfl, H0.out⟩
    case round =>
      obtain ⟨k, vv, hk, rfl, rfl, hR⟩ := hrel
      clear H0
      obtain ⟨M, hG, hM, hP⟩ := hR.out
      have HM := Lib.hid hM; clear hM
      have HP := Lib.hid hP; clear hP
      have HG := Lib.hid hG; clear hG hR
      by_cases hlt' : k < xs.len
      · have hkk : (k : Int) < (xs.len : Int) := by omega
        obtain ⟨b, off, rfl, hbl, hF⟩ : ∃ b off, a = some ⟨b, off, none⟩ ∧ b < w0.heap.size ∧ IsF w0 b xs off := by
          rcases HS.out with h | h
          · omega
          · exact h
        obtain ⟨h', a', hd⟩ := Fo.drop_at k xs hlt'
        obtain ⟨sp, sm, sq, p', n', c', g0, g1, g2, g3, g4, g5, g6, g7, hX⟩ := hF.cells hd
        have hBB := HB0.out.trans (HG.out.bel.mono hbs)
        have cc := fun (o : Nat) => hBB.cell (p := ⟨b, o, none⟩) hbl
        have k0 := (cc _).trans g0
        have k1 := (cc _).trans g1
        have k2 := (cc _).trans g2
        have k3 := (cc _).trans g3
        have k4 := (cc _).trans g4
        have k5 := (cc _).trans g5
        have k6 := (cc _).trans g6
        have k7 := (cc _).trans g7
        have HX := Lib.hid hX
        have HD := Lib.hid hd
        have hsub := Fo.parts_sub hd
        have hdp := Fo.parts_drop hd
        have hcl := canon_len (nms1 h' a')
        have hnl := nms1_len h' a'
        have hbd : Hid (M.length + (a'.parts + 1) ≤ 1048577) := by have := HP.out; unfold Hid; omega
        have HDP := Lib.hid hdp
        have HBB := Lib.hid hBB
        clear g0 g1 g2 g3 g4 g5 g6 g7 hX hd cc hF hdp hBB
        go_wp2_with fail
        refine (IH.out k h' a' HD.out _ _ HX.out (HBB.out.alloc HBB.out.size _) (by omega)).mono ?_
        rintro e w4 ⟨v4, rfl, hS4⟩
        have S4 := Lib.hid hS4.out; clear hS4
        have hK := (Below.refl wr.heap.size wr).alloc (Nat.le_refl _) (.cells #[.int .i64 h'.k, .int .i64 h'.o, .string h'.nm, .int .i64 h'.vk, .int .i64 h'.vn, .string h'.vs, .slice sp sm sq, .slice p' n' c'] 27)
        have SG := Lib.hid (HG.out.keep (hK.trans (S4.out.bel.mono hK.size)))
        have hbz := Lib.hid SG.out.bel.size
        have hbd2 : M.length + (canon (nms1 h' a')).length ≤ 1048577 := by have := hbd.out; omega
        have fin : Hid (∀ v5 w5, RSt w (M ++ canon (nms1 h' a')) v5 w5 → RLoop w (out1 h xs) (xs.parts + 1) xs (k + 1) v5 w5) := by
          intro v5 w5 hR5
          refine ⟨_, hR5, ?_, ?_⟩
          · rw [List.append_assoc, ← outF_drop HD.out]; exact HM.out
          · have h2 := HP.out
            have h3 := HDP.out
            rw [List.length_append]; omega
        clear k0 k1 k2 k3 k4 k5 k6 k7
        generalize canon (nms1 h' a') = N at S4 hbd2 fin hcl
        obtain ⟨hl4, ⟨rfl, h04⟩ | ⟨g4, cap4, cur4, rfl, hg4, hgb4, hnc4, hm4, hs4, ht4⟩⟩ := S4.out.row
        · obtain rfl := List.eq_nil_of_length_eq_zero h04
          go_wp2_with (at_builtin; refine wpList_append_own_none rfl _ _ 33 rfl w.heap.size 9 i0 1 Tryz.underlying33 hi _ _ _ rfl SG.out.row rfl ?_)
          have f1 : Hid (RLoop w (out1 h xs) (xs.parts + 1) xs (k + 1) vv w4) := fin.out _ _ (by rw [List.append_nil]; exact SG.out)
          go_wp2
          go_roundw
          case rel => exact ⟨k + 1, _, by omega, by go_num, rfl, f1.out⟩
          case measure => simp [intOf]; omega
        · have hcell := Lib.hid (fun j (hj : j < N.length) => World.ownsRow.cellAt S4.out.row j (by omega))
          clear hl4 hg4 hgb4 hnc4 hm4 hs4 ht4
          go_wp2_with (at_builtin; refine wpList_append_own _ rfl _ _ 33 rfl w.heap.size 9 i0 (.string ByteArray.empty) 1 16 Tryz.underlying33 hi hz0 hz1 hz2 rfl (by decide) _ _ _ rfl SG.out.row ⟨g4, 0, none⟩ N.length cap4 (N.map encStr) rfl (by simp) ?c1 ?c2 ?c3 ?c4 ?c5 ?_)
          case c1 =>
            intro j u hj
            have hjl : j < N.length := by
              rcases Nat.lt_or_ge j N.length with h1 | h1
              · exact h1
              · rw [List.getElem?_eq_none (by simpa using h1)] at hj; cases hj
            have := hcell.out j hjl
            rw [hj] at this
            rw [add_at]; exact this
          case c2 => intro u hu; obtain ⟨x, _, rfl⟩ := List.mem_map.1 hu; rfl
          case c3 => unfold maxLen; omega
          case c4 => omega
          case c5 => exact hbz.out
          intro v5 w5 hown5 hgrow5 _
          have f1 : Hid (RLoop w (out1 h xs) (xs.parts + 1) xs (k + 1) v5 w5) := fin.out _ _ (SG.out.grow hown5 hgrow5)
          clear hown5 hgrow5
          go_wp2
          go_roundw
          case rel => exact ⟨k + 1, _, by omega, by go_num, rfl, f1.out⟩
          case measure => simp [intOf]; omega
      · obtain rfl : k = xs.len := by omega
        have hz := Fo.drop_end (xs := xs) rfl
        have e1 : M = out1 h xs := by have := HM.out; rw [hz] at this; simpa [outF] using this
        subst e1
        clear hz
        go_wp2_with fail
        refine (sort_c wr w.heap.size _ (out1 h xs) (by omega) HG.out.row).mono ?_
        rintro e w5 ⟨rfl, hR5, hB5⟩
        have HR5 := Lib.hid hR5
        have HB5 := Lib.hid (HG.out.bel.trans hB5)
        clear hR5 hB5 HG
        go_wp2_with fail
        refine (compact_c w5 w.heap.size _ _ (by rw [List.length_mergeSort]; omega) HR5.out).mono ?_
        rintro e w6 ⟨v', rfl, hR6, hB6⟩
        have H6 : Hid (RSt w (canon (nms1 h xs)) v' w6) := ⟨by rw [← eC.out]; exact hR6, HB5.out.trans hB6⟩
        clear hR6 hB6
        go_wp2
        go_ret
        exact ⟨v', rfl, H6.out⟩
theorem rnames_c (w0 : World) (h : Hd) (a : Fo) : RNamesC w0 h a := forest_ind (fun h a => RNamesC w0 h a) (fun h a ih => rnames_step w0 h a ih) h a
end Go.Proofs.YtcdifmnakppfkaaGreatDoor
