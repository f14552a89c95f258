/-
  check of the reference: all cells, all loops, and the places of all cells.
-/
import Derived.Test.YtngijlmokhkdjaaDoorTyRef2
import Derived.Test.YtngijlmokhkdjaaDoorTyOrd
import Derived.Test.YtngijlmokhkdjaaDoorExRName
namespace Go.Proofs.YtngijlmokhkdjaaDoor
open Go.RowKit

theorem placeF_find (nm : ByteArray) : ∀ (C : List Cl) (k : Nat), 0 ≤ placeF nm C k ↔ (findC C nm).isSome = true
  | [], k => by simp [placeF, findC]
  | c :: r, k => by
    have ih := placeF_find nm r (k + 1)
    unfold placeF findC
    rw [List.find?_cons]
    by_cases h : c.nm = nm
    · rw [if_pos h]; simp [h]
    · rw [if_neg h]
      simp only [h, decide_false]
      exact ih
theorem IsCs.take {w : World} {b : Nat} : ∀ {l : List Cl} {off : Nat} (k : Nat), IsCs w b l off → IsCs w b (l.take k) off
  | _, _, 0, _ => by simp [IsCs]
  | [], _, k + 1, _ => by simp [IsCs]
  | c :: r, off, k + 1, h => by
    simp only [IsCs] at h
    simp only [List.take_succ_cons, IsCs]
    exact ⟨h.1, h.2.take k⟩
theorem IsNs.take {w : World} {b : Nat} : ∀ {l : List Ne} {off : Nat} (k : Nat), IsNs w b l off → IsNs w b (l.take k) off
  | _, _, 0, _ => by simp [IsNs]
  | [], _, k + 1, _ => by simp [IsNs]
  | c :: r, off, k + 1, h => by
    simp only [IsNs] at h
    simp only [List.take_succ_cons, IsNs]
    exact ⟨h.1, h.2.take k⟩
theorem isC_take {w : World} {b off c : Nat} {l : List Cl} (k : Nat) (hk : k ≤ l.length) (hl : b < w.heap.size) (hc : l.length ≤ c ∧ c ≤ 9223372036854775807) (h : IsCs w b l off) : IsC w (.slice (some ⟨b, off, none⟩) k c) (l.take k) := by
  have e : (l.take k).length = k := by rw [List.length_take]; omega
  exact ⟨some ⟨b, off, none⟩, c, by rw [e], .inr ⟨b, off, rfl, hl, by rw [e]; omega, h.take k⟩⟩
theorem isM_take {w : World} {b off c : Nat} {l : List Ne} (k : Nat) (hk : k ≤ l.length) (hl : b < w.heap.size) (hc : l.length ≤ c ∧ c ≤ 9223372036854775807) (h : IsNs w b l off) : IsM w (.slice (some ⟨b, off, none⟩) k c) (l.take k) := by
  have e : (l.take k).length = k := by rw [List.length_take]; omega
  exact ⟨some ⟨b, off, none⟩, c, by rw [e], .inr ⟨b, off, rfl, hl, by rw [e]; omega, h.take k⟩⟩
/-- While cells and loops are looked at: the two lists in block G. -/
structure TSt (w : World) (vC vL : Value) (W : World) : Prop where
  c0 : W.cell? ⟨w.heap.size, 0, none⟩ = some vC
  c1 : W.cell? ⟨w.heap.size, 1, none⟩ = some vL
  bel : Below w.heap.size w W
  sz : w.heap.size < W.heap.size
theorem TSt.keep {w W W' : World} {vC vL : Value} (h : TSt w vC vL W) (hb : Below W.heap.size W W') : TSt w vC vL W' where
  c0 := by rw [hb.cell (p := ⟨w.heap.size, 0, none⟩) h.sz]; exact h.c0
  c1 := by rw [hb.cell (p := ⟨w.heap.size, 1, none⟩) h.sz]; exact h.c1
  bel := h.bel.trans (hb.mono (Nat.le_of_lt h.sz))
  sz := Nat.lt_of_lt_of_le h.sz hb.size
theorem TSt.start (w : World) (vC vL : Value) : TSt w vC vL (w.alloc (.cells #[vC, vL] 49)) where
  c0 := by rw [World.cell?_alloc_at _ _ _ _ rfl]; rfl
  c1 := by rw [World.cell?_alloc_at _ _ _ _ rfl]; rfl
  bel := (Below.refl _ _).alloc (Nat.le_refl _) _
  sz := by simp
theorem rWithin_c (n a b : Int) (w : World) : Calls Tryd.prog 28 #[.int .i64 n, .int .i64 a, .int .i64 b] w fun e w' => e = .returned (.bool (decide (a ≤ n ∧ n ≤ b))) ∧ w' = w := by
  by_cases h : a ≤ n ∧ n ≤ b
  · exact (within_y n a b w h.1 h.2).mono fun e w' ⟨he, hw⟩ => ⟨by rw [he]; simp [h], hw⟩
  · exact (within_n n a b w (by omega)).mono fun e w' ⟨he, hw⟩ => ⟨by rw [he, decide_eq_false h], hw⟩
theorem stepC_1 {C : List Cl} {c : Cl} (h : nameS c.nm = false) : stepC C c = 5 := by unfold stepC; rw [if_pos h]
theorem stepC_2 {C : List Cl} {c : Cl} (h : nameS c.nm = true) (h2 : 0 ≤ placeF c.nm C 0) : stepC C c = 6 := by
  unfold stepC; rw [if_neg (by simp [h]), if_pos ((placeF_find c.nm C 0).1 h2)]
theorem stepC_3 {C : List Cl} {c : Cl} (h : nameS c.nm = true) (h2 : ¬ 0 ≤ placeF c.nm C 0) (h3 : ¬ (2 ≤ c.kind ∧ c.kind ≤ 7)) : stepC C c = 4 := by
  unfold stepC; rw [if_neg (by simp [h]), if_neg (fun q => h2 ((placeF_find c.nm C 0).2 q)), if_pos (by omega)]
theorem stepC_4 {C : List Cl} {c : Cl} (h : nameS c.nm = true) (h2 : ¬ 0 ≤ placeF c.nm C 0) (h3 : 2 ≤ c.kind ∧ c.kind ≤ 7) : stepC C c = 0 := by
  unfold stepC; rw [if_neg (by simp [h]), if_neg (fun q => h2 ((placeF_find c.nm C 0).2 q)), if_neg (by omega)]
set_option maxRecDepth 100000 in
set_option maxHeartbeats 8000000 in
theorem check_c1 (w0 w : World) (vC vL : Value) (C : List Cl) (L : List Ne) (hb : Below w0.heap.size w0 w) (hC : IsC w0 vC C) (hL : IsM w0 vL L) (hE : Env w0) (hFC : FineC C) (hFL : FineL L) (hnC : C.length ≤ 1048576) (hnL : L.length ≤ 1048576) :
    Calls Tryd.prog 12 #[.agg #[vC, vL]] w fun e w' => e = .returned (.int .i64 (sightS C L)) ∧ Below w.heap.size w w' := by
  have hC0 := hC
  have hL0 := hL
  obtain ⟨aC, cC, rfl, hC⟩ := hC
  obtain ⟨aL, cL, rfl, hL⟩ := hL
  have HC := Lib.hid hC
  have HL := Lib.hid hL
  have HC0 := Lib.hid hC0
  have HL0 := Lib.hid hL0
  have HENV := Lib.hid hE
  have HFC := Lib.hid hFC
  have HB0 := Lib.hid hb
  clear hC hL hE hFC hFL hb hC0 hL0
  have S0 := Lib.hid (TSt.start w (.slice aC C.length cC) (.slice aL L.length cL))
  have HA0 : Hid (cellsS [] C = cellsS (C.take 0) (C.drop 0)) := rfl
  go_enter Tryd.func12, Tryd.ntmps12
  go_wp2_with fail
  go_loopw [3, 4, 12] (fun _ _ i wr => ∃ k : Nat, k ≤ C.length ∧ i = .int .i64 k ∧ Hid (TSt w (.slice aC C.length cC) (.slice aL L.length cL) wr) ∧ Hid (cellsS [] C = cellsS (C.take k) (C.drop k))) (fun _ _ i _ => C.length - (intOf i).toNat)
  case atStart => exact ⟨0, Nat.zero_le _, rfl, S0.out, HA0.out⟩
  case round =>
    obtain ⟨k, hk, rfl, hS, hA⟩ := hrel
    clear S0 HA0
    by_cases hlt : k < C.length
    · have hkk : (k : Int) < (C.length : Int) := by omega
      obtain ⟨b, off, rfl, hbl, hcap, hCs⟩ : ∃ b off, aC = some ⟨b, off, none⟩ ∧ b < w0.heap.size ∧ (C.length ≤ cC ∧ cC ≤ 9223372036854775807) ∧ IsCs w0 b C off := by
        rcases HC.out with h | ⟨b, off, h1, h2, h4, h3⟩
        · omega
        · exact ⟨b, off, h1, h2, h4, h3⟩
      obtain ⟨c, hc⟩ : ∃ c, C[k]? = some c := ⟨C[k], List.getElem?_eq_getElem hlt⟩
      obtain ⟨lv, g0, g1, g2, hi⟩ := hCs.at hc
      obtain ⟨la, lc, rfl⟩ := hi.form
      have hmem : c ∈ C := List.mem_of_getElem? hc
      have hBW := HB0.out.trans (hS.out.bel.mono HB0.out.size)
      have cc := fun (z : Nat) => hBW.cell (p := ⟨b, z, none⟩) hbl
      have k0 := (cc _).trans g0
      have k1 := (cc _).trans g1
      have k2 := (cc _).trans g2
      have hz := hS.out.sz
      have hS1 := Lib.hid (hS.out.keep ((Below.refl wr.heap.size wr).alloc (Nat.le_refl _) (.cells #[.string c.nm, .int .i64 c.kind, .slice la c.lp.length lc] 57)))
      have hIC := Lib.hid (fun W (hW : Below w0.heap.size w0 W) => cellAt_c W _ (C.take k) c.nm ((isC_take k (by omega) hbl hcap hCs).below hW) (by rw [List.length_take]; omega))
      have hE : Hid (cellsS [] C = if stepC (C.take k) c ≠ 0 then stepC (C.take k) c else cellsS (C.take (k + 1)) (C.drop (k + 1))) := by
        unfold Hid; rw [hA.out, cellsS_drop hc rfl]
      have HN := Lib.hid (fun W (hW : Below w0.heap.size w0 W) => rIsName_c c.nm W (HENV.out.below hW))
      have kc : (k : Int) ≤ (cC : Int) := by omega
      have eF : Hid (∀ q, cellsS [] C = q → q ≠ 0 → sightS C L = q) := fun q h h0 => by unfold sightS; rw [if_pos (by rw [h]; exact h0), h]
      clear g0 g1 g2 cc hc hCs hi hA hmem hbl hcap hBW
      obtain ⟨t, ht⟩ : ∃ t, t = nameS c.nm := ⟨_, rfl⟩
      rw [← ht] at HN
      have HT := Lib.hid ht
      clear ht
      cases t with
      | false =>
        have eZ : Hid (sightS C L = 5) := eF.out 5 (hE.out.trans (by rw [if_pos (by rw [stepC_1 HT.out.symm]; decide), stepC_1 HT.out.symm])) (by decide)
        clear hE eF
        go_wp2_with fail
        refine (HN.out _ (HB0.out.trans (hS1.out.bel.mono HB0.out.size))).mono ?_
        rintro e w4 ⟨rfl, hB⟩
        have hS4 := Lib.hid (hS1.out.keep hB)
        clear hB hS1 hS k0 k1 k2 hz
        go_wp2
        go_ret
        exact ⟨ret_int eZ.out.symm, hS4.out.bel⟩
      | true =>
        obtain ⟨pp, hpp⟩ : ∃ pp, pp = placeF c.nm (C.take k) 0 := ⟨_, rfl⟩
        rw [← hpp] at hIC
        have HPP := Lib.hid hpp
        clear hpp
        go_wp2_with fail
        refine (HN.out _ (HB0.out.trans (hS1.out.bel.mono HB0.out.size))).mono ?_
        rintro e w4 ⟨rfl, hB⟩
        have hS4 := Lib.hid (hS1.out.keep hB)
        have dd : ∀ i, i < 3 → w4.cell? ⟨wr.heap.size, i, none⟩ = (#[.string c.nm, .int .i64 c.kind, .slice la c.lp.length lc] : Array Value)[i]? := fun i hi => by
          rw [hB.cell (p := ⟨wr.heap.size, i, none⟩) (by simp), World.cell?_alloc_at _ _ _ _ rfl]
        have HDD := Lib.hid dd
        have hz4 : wr.heap.size < w4.heap.size := by have := hB.size; simp at this; omega
        clear hB hS1 hS k0 k1 k2 hz dd
        go_wp2_with fail
        refine wp_tail 6 (by kernel_rfl) (by kernel_rfl) ?_
        intro W hW
        have hS5 := Lib.hid (show TSt w _ _ W by rw [hW]; exact hS4.out.keep (Below.refl _ _).drew)
        have dd : ∀ i, i < 3 → W.cell? ⟨wr.heap.size, i, none⟩ = (#[.string c.nm, .int .i64 c.kind, .slice la c.lp.length lc] : Array Value)[i]? := fun i hi => by rw [hW]; exact HDD.out i hi
        have HD5 := Lib.hid dd
        have d0 := dd 0 (by omega)
        simp only [List.getElem?_toArray, List.getElem?_cons_zero, List.getElem?_cons_succ] at d0
        have c0 := hS5.out.c0
        have hz5 : wr.heap.size < W.heap.size := by rw [hW]; exact hz4
        have HW5 := Lib.hid (HB0.out.trans (hS5.out.bel.mono HB0.out.size))
        clear hW dd HDD hS4
        simp only [List.take_succ_cons, List.take_zero, List.drop_succ_cons, List.drop_zero]
        repeat still_step
        refine wpStill_nil ?_
        clear c0 d0
        by_cases hp0 : 0 ≤ pp
        · have eZ : Hid (sightS C L = 6) := eF.out 6 (hE.out.trans (by rw [if_pos (by rw [stepC_2 HT.out.symm (by rw [← HPP.out]; exact hp0)]; decide), stepC_2 HT.out.symm (by rw [← HPP.out]; exact hp0)])) (by decide)
          clear hE eF
          go_wp2_with fail
          refine (hIC.out _ HW5.out).mono ?_
          rintro e w6 ⟨rfl, hB⟩
          have hS6 := Lib.hid (hS5.out.keep hB)
          clear hB hS5 hIC
          go_wp2
          go_ret
          exact ⟨ret_int eZ.out.symm, hS6.out.bel⟩
        · have t0 : decide (0 ≤ pp) = false := by simpa using hp0
          have HP0 := Lib.hid (show ¬ 0 ≤ placeF c.nm (C.take k) 0 by rw [← HPP.out]; exact hp0)
          clear hp0
          obtain ⟨u, hu⟩ : ∃ u, u = decide (2 ≤ c.kind ∧ c.kind ≤ 7) := ⟨_, rfl⟩
          have HU := Lib.hid hu
          have HWI := Lib.hid (fun w => by have := rWithin_c c.kind 2 7 w; rw [← hu] at this; exact this)
          clear hu
          cases u with
          | false =>
            have hk3 : ¬ (2 ≤ c.kind ∧ c.kind ≤ 7) := of_decide_eq_false HU.out.symm
            have eZ : Hid (sightS C L = 4) := eF.out 4 (hE.out.trans (by rw [if_pos (by rw [stepC_3 HT.out.symm HP0.out hk3]; decide), stepC_3 HT.out.symm HP0.out hk3])) (by decide)
            clear hE eF hk3
            go_wp2_with fail
            refine (hIC.out _ HW5.out).mono ?_
            rintro e w6 ⟨rfl, hB⟩
            have hS6 := Lib.hid (hS5.out.keep hB)
            have d1 : w6.cell? ⟨wr.heap.size, 1, none⟩ = some (.int .i64 c.kind) := by
              rw [hB.cell (p := ⟨wr.heap.size, 1, none⟩) hz5, HD5.out 1 (by omega)]; rfl
            clear hB hS5 hIC hz5 hz4
            go_wp2_with fail
            refine (HWI.out _).mono ?_
            rintro e w7 ⟨rfl, rfl⟩
            go_wp2
            go_ret
            exact ⟨ret_int eZ.out.symm, hS6.out.bel⟩
          | true =>
            have hk3 : 2 ≤ c.kind ∧ c.kind ≤ 7 := of_decide_eq_true HU.out.symm
            have eZ : Hid (cellsS [] C = cellsS (C.take (k + 1)) (C.drop (k + 1))) := hE.out.trans (if_neg (by rw [stepC_4 HT.out.symm HP0.out hk3]; simp))
            clear hE eF hk3
            go_wp2_with fail
            refine (hIC.out _ HW5.out).mono ?_
            rintro e w6 ⟨rfl, hB⟩
            have hS6 := Lib.hid (hS5.out.keep hB)
            have d1 : w6.cell? ⟨wr.heap.size, 1, none⟩ = some (.int .i64 c.kind) := by
              rw [hB.cell (p := ⟨wr.heap.size, 1, none⟩) hz5, HD5.out 1 (by omega)]; rfl
            clear hB hS5 hIC hz5 hz4
            go_wp2_with fail
            refine (HWI.out _).mono ?_
            rintro e w7 ⟨rfl, rfl⟩
            clear d1
            go_wp2
            go_roundw
            case rel => exact ⟨k + 1, by omega, by go_num, hS6.out, eZ.out⟩
            case measure => simp [intOf]; omega
    · obtain rfl : k = C.length := by omega
      have hA1 : Hid (cellsS [] C = 0) := by unfold Hid; rw [hA.out, List.drop_length]; rfl
      have S0 := Lib.hid hS.out
      have c1 := hS.out.c1
      have HA0 : Hid (loopsS [] L = loopsS (L.take 0) (L.drop 0)) := rfl
      clear hA hS
      go_wp2_with fail
      clear c1
      go_loopw [5, 6, 40] (fun _ _ i wr => ∃ k : Nat, k ≤ L.length ∧ i = .int .i64 k ∧ Hid (TSt w (.slice aC C.length cC) (.slice aL L.length cL) wr) ∧ Hid (loopsS [] L = loopsS (L.take k) (L.drop k))) (fun _ _ i _ => L.length - (intOf i).toNat)
      case atStart => exact ⟨0, Nat.zero_le _, rfl, S0.out, HA0.out⟩
      case round =>
        obtain ⟨k, hk, rfl, hS, hA⟩ := hrel
        clear S0 HA0
        by_cases hlt : k < L.length
        · have hkk : (k : Int) < (L.length : Int) := by omega
          obtain ⟨b, off, rfl, hbl, hcap, hCs⟩ : ∃ b off, aL = some ⟨b, off, none⟩ ∧ b < w0.heap.size ∧ (L.length ≤ cL ∧ cL ≤ 9223372036854775807) ∧ IsNs w0 b L off := by
            rcases HL.out with h | ⟨b, off, h1, h2, h4, h3⟩
            · omega
            · exact ⟨b, off, h1, h2, h4, h3⟩
          obtain ⟨c, hc⟩ : ∃ c, L[k]? = some c := ⟨L[k], List.getElem?_eq_getElem hlt⟩
          obtain ⟨lv, g0, g1, hi⟩ := hCs.at hc
          have HI := Lib.hid hi
          obtain ⟨la, lc, rfl⟩ := hi.form
          have hBW := HB0.out.trans (hS.out.bel.mono HB0.out.size)
          have cc := fun (z : Nat) => hBW.cell (p := ⟨b, z, none⟩) hbl
          have k0 := (cc _).trans g0
          have k1 := (cc _).trans g1
          have hz := hS.out.sz
          have hS1 := Lib.hid (hS.out.keep ((Below.refl wr.heap.size wr).alloc (Nat.le_refl _) (.cells #[.string c.nm, .slice la c.lp.length lc] 60)))
          have hNE := Lib.hid (fun W (hW : Below w0.heap.size w0 W) => nest_c w0 W (.slice none 0 0) _ (L.take k) c.nm hW (isM_take k (by omega) hbl hcap hCs) (by rw [List.length_take]; omega))
          have hPL := Lib.hid (fun W (hW : Below w0.heap.size w0 W) => rIsPlace_c w0 W _ _ (L.take k) c.lp hW (isM_take k (by omega) hbl hcap hCs) (HI.out.below hW) (by rw [List.length_take]; omega))
          have hE : Hid (loopsS [] L = if stepL (L.take k) c ≠ 0 then stepL (L.take k) c else loopsS (L.take (k + 1)) (L.drop (k + 1))) := by
            unfold Hid; rw [hA.out, loopsS_drop hc rfl]
          have HN := Lib.hid (fun W (hW : Below w0.heap.size w0 W) => rIsName_c c.nm W (HENV.out.below hW))
          have kc : (k : Int) ≤ (cL : Int) := by omega
          have eF : Hid (∀ q, loopsS [] L = q → q ≠ 0 → sightS C L = q) := fun q h h0 => by unfold sightS; rw [hA1.out, if_neg (fun h => h rfl), if_pos (by rw [h]; exact h0), h]
          clear g0 g1 cc hc hCs hi hA hbl hcap hBW
          obtain ⟨t, ht⟩ : ∃ t, t = nameS c.nm := ⟨_, rfl⟩
          rw [← ht] at HN
          have HT := Lib.hid ht
          clear ht
          cases t with
          | false =>
            have es : stepL (L.take k) c = 5 := by unfold stepL; rw [if_pos HT.out.symm]
            have eZ : Hid (sightS C L = 5) := eF.out 5 (hE.out.trans (by rw [es]; rfl)) (by decide)
            clear hE eF es
            go_wp2_with fail
            refine (HN.out _ (HB0.out.trans (hS1.out.bel.mono HB0.out.size))).mono ?_
            rintro e w4 ⟨rfl, hB⟩
            have hS4 := Lib.hid (hS1.out.keep hB)
            clear hB hS1 hS k0 k1 hz
            go_wp2
            go_ret
            exact ⟨ret_int eZ.out.symm, hS4.out.bel⟩
          | true =>
            have hnt : ¬ nameS c.nm = false := by rw [HT.out.symm]; decide
            go_wp2_with fail
            refine (HN.out _ (HB0.out.trans (hS1.out.bel.mono HB0.out.size))).mono ?_
            rintro e w4 ⟨rfl, hB⟩
            have hS4 := Lib.hid (hS1.out.keep hB)
            have dd : ∀ i, i < 2 → w4.cell? ⟨wr.heap.size, i, none⟩ = (#[.string c.nm, .slice la c.lp.length lc] : Array Value)[i]? := fun i hi => by
              rw [hB.cell (p := ⟨wr.heap.size, i, none⟩) (by simp), World.cell?_alloc_at _ _ _ _ rfl]
            have HDD := Lib.hid dd
            have hz4 : wr.heap.size < w4.heap.size := by have := hB.size; simp at this; omega
            have HNT := Lib.hid hnt
            clear hB hS1 hS k0 k1 hz dd hnt
            go_wp2_with fail
            refine wp_tail 7 (by kernel_rfl) (by kernel_rfl) ?_
            intro W hW
            have hS5 := Lib.hid (show TSt w _ _ W by rw [hW]; exact hS4.out.keep (Below.refl _ _).drew)
            have dd : ∀ i, i < 2 → W.cell? ⟨wr.heap.size, i, none⟩ = (#[.string c.nm, .slice la c.lp.length lc] : Array Value)[i]? := fun i hi => by rw [hW]; exact HDD.out i hi
            have HD5 := Lib.hid dd
            have d0 := dd 0 (by omega)
            simp only [List.getElem?_toArray, List.getElem?_cons_zero, List.getElem?_cons_succ] at d0
            have c1 := hS5.out.c1
            have hz5 : wr.heap.size < W.heap.size := by rw [hW]; exact hz4
            have HW5 := Lib.hid (HB0.out.trans (hS5.out.bel.mono HB0.out.size))
            clear hW dd HDD hS4 hz4
            simp only [List.take_succ_cons, List.take_zero, List.drop_succ_cons, List.drop_zero]
            repeat still_step
            refine wpStill_nil ?_
            clear c1 d0
            go_wp2_with fail
            refine (hNE.out _ HW5.out).mono ?_
            rintro e w6 ⟨hB, hr⟩
            have hS6 := Lib.hid (hS5.out.keep hB)
            have HD6 : Hid (∀ i, i < 2 → w6.cell? ⟨wr.heap.size, i, none⟩ = (#[.string c.nm, .slice la c.lp.length lc] : Array Value)[i]?) := fun i hi => by
              rw [hB.cell (p := ⟨wr.heap.size, i, none⟩) hz5]; exact HD5.out i hi
            have hz6 : wr.heap.size < w6.heap.size := Nat.lt_of_lt_of_le hz5 hB.size
            clear hB hS5 hNE HD5 HW5 hz5
            rcases hr with ⟨hf, rfl⟩ | ⟨nb, no, l, lv, hf, rfl, _⟩
            · have HF := Lib.hid hf
              clear hf
              go_wp2_with fail
              refine wp_tail 6 (by kernel_rfl) (by kernel_rfl) ?_
              intro W hW
              have hS5 := Lib.hid (show TSt w _ _ W by rw [hW]; exact hS6.out.keep (Below.refl _ _).drew)
              have dd : ∀ i, i < 2 → W.cell? ⟨wr.heap.size, i, none⟩ = (#[.string c.nm, .slice la c.lp.length lc] : Array Value)[i]? := fun i hi => by rw [hW]; exact HD6.out i hi
              have d1 := dd 1 (by omega)
              simp only [List.getElem?_toArray, List.getElem?_cons_zero, List.getElem?_cons_succ] at d1
              have c1 := hS5.out.c1
              have HW5 := Lib.hid (HB0.out.trans (hS5.out.bel.mono HB0.out.size))
              clear hW dd HD6 hS6 hz6
              simp only [List.take_succ_cons, List.take_zero, List.drop_succ_cons, List.drop_zero]
              repeat still_step
              refine wpStill_nil ?_
              clear c1 d1
              have hfs : ¬ (findL (L.take k) c.nm).isSome = true := by rw [HF.out]; decide
              obtain ⟨u, hu⟩ : ∃ u, u = placeS (L.take k) c.lp := ⟨_, rfl⟩
              have HU := Lib.hid hu
              have HPL := Lib.hid (fun W hW => by have := hPL.out W hW; rw [← hu] at this; exact this)
              clear hu hPL
              cases u with
              | false =>
                have es : stepL (L.take k) c = 7 := by unfold stepL; rw [if_neg HNT.out, if_neg hfs, if_pos HU.out.symm]
                have eZ : Hid (sightS C L = 7) := eF.out 7 (hE.out.trans (by rw [es]; rfl)) (by decide)
                clear hE eF es hfs
                go_wp2_with fail
                refine (HPL.out _ HW5.out).mono ?_
                rintro e w7 ⟨rfl, hB⟩
                have hS7 := Lib.hid (hS5.out.keep hB)
                clear hB hS5 HPL
                go_wp2
                go_ret
                exact ⟨ret_int eZ.out.symm, hS7.out.bel⟩
              | true =>
                have es : stepL (L.take k) c = 0 := by unfold stepL; rw [if_neg HNT.out, if_neg hfs, if_neg (by rw [HU.out.symm]; decide)]
                have eZ : Hid (loopsS [] L = loopsS (L.take (k + 1)) (L.drop (k + 1))) := hE.out.trans (if_neg (by rw [es]; simp))
                clear hE eF es hfs
                go_wp2_with fail
                refine (HPL.out _ HW5.out).mono ?_
                rintro e w7 ⟨rfl, hB⟩
                have hS7 := Lib.hid (hS5.out.keep hB)
                clear hB hS5 HPL
                go_wp2
                go_roundw
                case rel => exact ⟨k + 1, by omega, by go_num, hS7.out, eZ.out⟩
                case measure => simp [intOf]; omega
            · have es : stepL (L.take k) c = 6 := by unfold stepL; rw [if_neg HNT.out, if_pos (by rw [hf]; rfl)]
              have eZ : Hid (sightS C L = 6) := eF.out 6 (hE.out.trans (by rw [es]; rfl)) (by decide)
              clear hE eF es hf
              go_wp2
              go_ret
              exact ⟨ret_int eZ.out.symm, hS6.out.bel⟩
        · obtain rfl : k = L.length := by omega
          have hB1 : Hid (loopsS [] L = 0) := by unfold Hid; rw [hA.out, List.drop_length]; rfl
          have hZ0 : Hid (sightS C L = atS L (C.drop 0)) := by unfold Hid sightS; rw [hA1.out, hB1.out, if_neg (fun h => h rfl), if_neg (fun h => h rfl)]; rfl
          have S0 := Lib.hid hS.out
          have c0 := hS.out.c0
          clear hA hS hA1 hB1
          go_wp2_with fail
          clear c0
          go_loopw [8, 73] (fun _ i wr => ∃ k : Nat, k ≤ C.length ∧ i = .int .i64 k ∧ Hid (TSt w (.slice aC C.length cC) (.slice aL L.length cL) wr) ∧ Hid (sightS C L = atS L (C.drop k))) (fun _ i _ => C.length - (intOf i).toNat)
          case atStart => exact ⟨0, Nat.zero_le _, rfl, S0.out, hZ0.out⟩
          case round =>
            obtain ⟨k, hk, rfl, hS, hA⟩ := hrel
            clear S0 hZ0
            by_cases hlt : k < C.length
            · have hkk : (k : Int) < (C.length : Int) := by omega
              obtain ⟨b, off, rfl, hbl, hcap, hCs⟩ : ∃ b off, aC = some ⟨b, off, none⟩ ∧ b < w0.heap.size ∧ (C.length ≤ cC ∧ cC ≤ 9223372036854775807) ∧ IsCs w0 b C off := by
                rcases HC.out with h | ⟨b, off, h1, h2, h4, h3⟩
                · omega
                · exact ⟨b, off, h1, h2, h4, h3⟩
              obtain ⟨c, hc⟩ : ∃ c, C[k]? = some c := ⟨C[k], List.getElem?_eq_getElem hlt⟩
              obtain ⟨lv, g0, g1, g2, hi⟩ := hCs.at hc
              have HI := Lib.hid hi
              obtain ⟨la, lc, rfl⟩ := hi.form
              have hBW := HB0.out.trans (hS.out.bel.mono HB0.out.size)
              have cc := fun (z : Nat) => hBW.cell (p := ⟨b, z, none⟩) hbl
              have k0 := (cc _).trans g0
              have k1 := (cc _).trans g1
              have k2 := (cc _).trans g2
              have hz := hS.out.sz
              have m1 := hS.out.c1
              have hS1 := Lib.hid (hS.out.keep ((Below.refl wr.heap.size wr).alloc (Nat.le_refl _) (.cells #[.string c.nm, .int .i64 c.kind, .slice la c.lp.length lc] 57)))
              have hPL := Lib.hid (fun W (hW : Below w0.heap.size w0 W) => rIsPlace_c w0 W _ _ L c.lp hW HL0.out (HI.out.below hW) hnL)
              have hE : Hid (sightS C L = if placeS L c.lp = false then 9 else atS L (C.drop (k + 1))) := by unfold Hid; rw [hA.out, atS_drop hc]
              clear g0 g1 g2 cc hc hCs hi hA hbl hcap hBW
              obtain ⟨u, hu⟩ : ∃ u, u = placeS L c.lp := ⟨_, rfl⟩
              rw [← hu] at hPL hE
              clear hu
              cases u with
              | true =>
                have eZ : Hid (sightS C L = atS L (C.drop (k + 1))) := hE.out.trans (if_neg (by decide))
                clear hE
                go_wp2_with fail
                refine (hPL.out _ (HB0.out.trans (hS1.out.bel.mono HB0.out.size))).mono ?_
                rintro e w4 ⟨rfl, hB⟩
                have hS4 := Lib.hid (hS1.out.keep hB)
                clear hB hS1 hS k0 k1 k2 hz m1 hPL
                go_wp2
                go_roundw
                case rel => exact ⟨k + 1, by omega, by go_num, hS4.out, eZ.out⟩
                case measure => simp [intOf]; omega
              | false =>
                have eZ : Hid (sightS C L = 9) := hE.out.trans (if_pos rfl)
                clear hE
                go_wp2_with fail
                refine (hPL.out _ (HB0.out.trans (hS1.out.bel.mono HB0.out.size))).mono ?_
                rintro e w4 ⟨rfl, hB⟩
                have hS4 := Lib.hid (hS1.out.keep hB)
                clear hB hS1 hS k0 k1 k2 hz m1 hPL
                go_wp2
                go_ret
                exact ⟨ret_int eZ.out.symm, hS4.out.bel⟩
            · obtain rfl : k = C.length := by omega
              have eZ : Hid (sightS C L = 0) := by unfold Hid; rw [hA.out, List.drop_length]; rfl
              clear hA
              go_wp2
              go_ret
              exact ⟨ret_int eZ.out.symm, hS.out.bel⟩
end Go.Proofs.YtngijlmokhkdjaaDoor
