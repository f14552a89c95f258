/-
  overKind of the reference, and the kind of an aggregate (its pieces made by a program).
  TypeOf of the reference.
-/
import Derived.Test.YtngijlmokhkdjaaDoorTyRKind
import Derived.Test.YtngijlmokhkdjaaDoorTyMost
import Derived.Test.YtngijlmokhkdjaaDoorTyTypeOf
import Derived.Test.YtngijlmokhkdjaaDoorExRPart
namespace Go.Proofs.YtngijlmokhkdjaaDoor
open Go.RowKit

/-- What overKind reads while it makes the place of an aggregate's argument. -/
def BoxV (W1 : World) (G : Nat) (vC vL : Value) (b off n c : Nat) (g : Hd) (sp : Option Addr) (sm sq : Nat) (p' : Option Addr) (n' c' : Nat) (nb no : Nat) (nm : ByteArray) (la : Option Addr) (ln lc : Nat) (W : World) : Prop :=
  W.cell? ⟨G, 0, none⟩ = some vC ∧ W.cell? ⟨G, 1, none⟩ = some vL ∧ W.cell? ⟨G + 1, 7, none⟩ = some (.slice (some ⟨b, off, none⟩) n c) ∧ W.cell? ⟨b, off, none⟩ = some (.int .i64 g.k) ∧ W.cell? ⟨b, off + 1, none⟩ = some (.int .i64 g.o) ∧ W.cell? ⟨b, off + 2, none⟩ = some (.string g.nm) ∧ W.cell? ⟨b, off + 3, none⟩ = some (.int .i64 g.vk) ∧ W.cell? ⟨b, off + 4, none⟩ = some (.int .i64 g.vn) ∧ W.cell? ⟨b, off + 5, none⟩ = some (.string g.vs) ∧ W.cell? ⟨b, off + 6, none⟩ = some (.slice sp sm sq) ∧ W.cell? ⟨b, off + 7, none⟩ = some (.slice p' n' c') ∧ W.cell? ⟨nb, no, none⟩ = some (.string nm) ∧ W.cell? ⟨nb, no + 1, none⟩ = some (.slice la ln lc) ∧ Hid (Below W1.heap.size W1 W)
theorem BoxV.bel {W1 W : World} {G : Nat} {vC vL : Value} {b off n c : Nat} {g : Hd} {sp : Option Addr} {sm sq : Nat} {p' : Option Addr} {n' c' : Nat} {nb no : Nat} {nm : ByteArray} {la : Option Addr} {ln lc : Nat} (h : BoxV W1 G vC vL b off n c g sp sm sq p' n' c' nb no nm la ln lc W) : Below W1.heap.size W1 W := by
  obtain ⟨_, _, _, _, _, _, _, _, _, _, _, _, _, h⟩ := h
  exact h.out
theorem BoxV.of {W1 W W' : World} {G : Nat} {vC vL : Value} {b off n c : Nat} {g : Hd} {sp : Option Addr} {sm sq : Nat} {p' : Option Addr} {n' c' : Nat} {nb no : Nat} {nm : ByteArray} {la : Option Addr} {ln lc : Nat} (hG : G + 1 < W1.heap.size) (hb : b < W1.heap.size) (hn : nb < W1.heap.size) (h : BoxV W1 G vC vL b off n c g sp sm sq p' n' c' nb no nm la ln lc W) (hB : Below W1.heap.size W1 W') : BoxV W1 G vC vL b off n c g sp sm sq p' n' c' nb no nm la ln lc W' := by
  obtain ⟨a0, a1, a2, a3, a4, a5, a6, a7, a8, a9, a10, a11, a12, hh⟩ := h
  have f := fun (g o : Nat) (hg : g < W1.heap.size) => (hB.cell (p := ⟨g, o, none⟩) hg).trans (hh.out.cell (p := ⟨g, o, none⟩) hg).symm
  refine ⟨?_, ?_, ?_, ?_, ?_, ?_, ?_, ?_, ?_, ?_, ?_, ?_, ?_, hB⟩
  all_goals (rw [f _ _ (by omega)]; assumption)
theorem isN_own {w : World} {base : Nat} {v : Value} {l : List ByteArray} (h : w.ownsRow base 9 1 v l.length (l.map Value.string)) (hm : l.length ≤ 9223372036854775807) : IsN w v l := by
  obtain ⟨_, hh⟩ := id h
  rcases hh with ⟨rfl, hn⟩ | ⟨g, cap, cur, rfl, _, hg, hnc, hcm, _⟩
  · exact .inl ⟨none, 0, by simp [List.eq_nil_of_length_eq_zero hn], List.eq_nil_of_length_eq_zero hn⟩
  · by_cases h0 : l.length = 0
    · obtain rfl := List.eq_nil_of_length_eq_zero h0
      exact .inl ⟨_, cap, rfl, rfl⟩
    · refine .inr ⟨g, 0, cap, rfl, by omega, ⟨hnc, hcm⟩, lt_of_block hg, fun j hj => ?_⟩
      rw [Nat.zero_add, h.cellAt j (by omega), List.getElem?_map, List.getElem?_eq_getElem hj, List.getD_eq_getElem?_getD, List.getElem?_eq_getElem hj]
      rfl
theorem infoT_t : (Tryd.prog.info? 9).map (fun i => (i.zero, i.size, i.bytes)) = some (some (.string noText), 1, 16) := by kernel_rfl
theorem infoT_parts : ∃ i, Tryd.prog.info? 9 = some i ∧ i.zero = some (.string noText) ∧ i.size = 1 ∧ i.bytes = 16 := by
  have h := infoT_t
  cases hi : Tryd.prog.info? 9 with
  | none => rw [hi] at h; simp at h
  | some i =>
    rw [hi] at h
    simp only [Option.map_some, Option.some.injEq, Prod.mk.injEq] at h
    exact ⟨i, rfl, h.1, h.2.1, h.2.2⟩

set_option maxRecDepth 100000 in
set_option maxHeartbeats 4000000 in
theorem rover_c (C : List Cl) (L : List Ne) (vC vL : Value) (w0 : World) (hC : IsC w0 vC C) (hL : IsM w0 vL L) (hnC : C.length ≤ 1048576) (hnL : L.length ≤ 1048576) (o : Int) (nm : ByteArray) (vk vn : Int) (vs : ByteArray) (vl : List Int) (xs : Fo) (hp : PartOk ⟨5, o, nm, vk, vn, vs, vl⟩ xs) (hLL : ∀ l ∈ L, l.lp.length ≤ 1048575) (ih : ∀ k h' a', xs.drop k = .cons h' a' (xs.drop (k + 1)) → RKindC C L vC vL w0 h' a') :
    ∀ (v pv : Value) (pl : List ByteArray) (w : World), Below w0.heap.size w0 w → IsX w ⟨5, o, nm, vk, vn, vs, vl⟩ xs v → IsN w pv pl → pl.length ≤ 1048576 →
      Calls Tryd.prog 31 #[.agg #[vC, vL], v, pv] w fun e w' => e = .returned (.tuple #[.int .i64 (kindS C L ⟨5, o, nm, vk, vn, vs, vl⟩ xs pl).1, .int .i64 (kindS C L ⟨5, o, nm, vk, vn, vs, vl⟩ xs pl).2]) ∧ Below w.heap.size w w' := by
  intro v pv pl w hb hx hN hpl
  have HNE := Lib.hid (fun W (hW : Below w.heap.size w W) => nest_c w0 W vC vL L nm (hb.trans (hW.mono hb.size)) hL hnL)
  obtain ⟨aC, cC, rfl, hC⟩ := hC
  obtain ⟨aL, cL, rfl, hL⟩ := hL
  obtain ⟨sv, a, n, c, rfl, hLv, rfl, hs⟩ := hx
  obtain ⟨p, m, q, rfl⟩ := hLv.form
  clear hLv hC hL
  have h16 := hp.over rfl
  have hone := hp.one rfl
  have hpos : 0 < xs.len := by omega
  obtain ⟨b, off, rfl, hbl, hF⟩ : ∃ b off, a = some ⟨b, off, none⟩ ∧ b < w.heap.size ∧ IsF w b xs off := by
    rcases hs with h | h
    · omega
    · exact h
  obtain ⟨g, xa, hd⟩ := Fo.drop_at 0 xs hpos
  obtain ⟨sp, sm, sq, p', n', c', g0, g1, g2, g3, g4, g5, g6, g7, hX⟩ := hF.cells hd
  simp only [Nat.zero_mul, Nat.add_zero, Nat.zero_add] at g0 g1 g2 g3 g4 g5 g6 g7 hX
  have HG : Hid (w.cell? ⟨b, off, none⟩ = some (.int .i64 g.k) ∧ w.cell? ⟨b, off + 1, none⟩ = some (.int .i64 g.o) ∧ w.cell? ⟨b, off + 2, none⟩ = some (.string g.nm) ∧ w.cell? ⟨b, off + 3, none⟩ = some (.int .i64 g.vk) ∧ w.cell? ⟨b, off + 4, none⟩ = some (.int .i64 g.vn) ∧ w.cell? ⟨b, off + 5, none⟩ = some (.string g.vs) ∧ w.cell? ⟨b, off + 6, none⟩ = some (.slice sp sm sq) ∧ w.cell? ⟨b, off + 7, none⟩ = some (.slice p' n' c')) := ⟨g0, g1, g2, g3, g4, g5, g6, g7⟩
  clear g0 g1 g2 g3 g4 g5 g6 g7
  have IH := Lib.hid (fun PL vv W (hW : Below w.heap.size w W) (hv : IsN W vv PL) (hl : PL.length ≤ 1048576) => ih 0 g xa hd _ vv PL W (hb.trans (hW.mono hb.size)) (hX.below hW) hv hl)
  have eS : Hid (kindS C L ⟨5, o, nm, vk, vn, vs, vl⟩ xs pl = (match findL L nm with | some l => if beginsS l.lp pl = true then (if (kindsF C L xs (l.lp ++ [l.nm])).2 ≠ 0 then (0, (kindsF C L xs (l.lp ++ [l.nm])).2) else orType (overR o ((kindsF C L xs (l.lp ++ [l.nm])).1.getD 0 0))) else (0, 5) | none => (0, 5))) := rfl
  have eKF : Hid (∀ PL, kindsF C L xs PL = if (kindS C L g xa PL).2 = 0 then ([(kindS C L g xa PL).1], 0) else ([], (kindS C L g xa PL).2)) := by
    intro PL
    have e0 : kindsF C L xs PL = addK [] (kindsF C L (xs.drop 0) PL) := (addK_nil _ (kindsF_fault xs PL)).symm
    by_cases hq : (kindS C L g xa PL).2 = 0
    · rw [if_pos hq, e0, addK_step PL hd hq, addK_end PL (by omega)]; rfl
    · rw [if_neg hq, e0, addK_stop PL hd hq]
  have HQ := Lib.hid (fun W (hW : Below w.heap.size w W) v l (hi : IsN W v l) => begins_c W v pv l pl hi (hN.below hW))
  obtain ⟨pa, pc, rfl⟩ := hN.form
  have HXL := Lib.hid hLL
  have h0x : (0 : Int) < (xs.len : Int) := by omega
  clear hN hs hp hb hd hF hX ih hLL hpl
  have HONE := Lib.hid hone
  clear hone
  have HBL := Lib.hid hbl
  clear hbl
  generalize kindS C L ⟨5, o, nm, vk, vn, vs, vl⟩ xs pl = Z at eS ⊢
  have HB := Lib.hid (((((Below.refl w.heap.size w).alloc (Nat.le_refl _) _).alloc (by simp) _) : Below w.heap.size w ((w.alloc (.cells #[.slice aC C.length cC, .slice aL L.length cL] 49)).alloc (.cells #[.int .i64 5, .int .i64 o, .string nm, .int .i64 vk, .int .i64 vn, .string vs, .slice p m q, .slice (some ⟨b, off, none⟩) xs.len c] 27))))
  have HW : Hid (RBox w (.slice aC C.length cC) (.slice aL L.length cL) [.int .i64 5, .int .i64 o, .string nm, .int .i64 vk, .int .i64 vn, .string vs, .slice p m q, .slice (some ⟨b, off, none⟩) xs.len c] ((w.alloc (.cells #[.slice aC C.length cC, .slice aL L.length cL] 49)).alloc (.cells #[.int .i64 5, .int .i64 o, .string nm, .int .i64 vk, .int .i64 vn, .string vs, .slice p m q, .slice (some ⟨b, off, none⟩) xs.len c] 27))) := RBox.start _ _ _ _
  go_enter Tryd.func31, Tryd.ntmps31
  go_wp2_with fail
  generalize ((w.alloc (.cells #[.slice aC C.length cC, .slice aL L.length cL] 49)).alloc (.cells #[.int .i64 5, .int .i64 o, .string nm, .int .i64 vk, .int .i64 vn, .string vs, .slice p m q, .slice (some ⟨b, off, none⟩) xs.len c] 27)) = WA at HB HW ⊢
  have s0 := HW.out.s0
  have s1 := HW.out.s1
  have y2 := HW.out.e 2 (by omega)
  simp only [List.getElem?_cons_zero, List.getElem?_cons_succ] at y2
  go_wp2_with fail
  refine (HNE.out _ HB.out).mono ?_
  rintro e w4 ⟨hB4, hcase⟩
  have HB4 := Lib.hid (HB.out.trans (hB4.mono HB.out.size))
  have HW4 := Lib.hid (HW.out.keep hB4)
  rcases hcase with ⟨hf, rfl⟩ | ⟨nb, no, l, lv, hf, rfl, hnb, n0, n1, hN1⟩
  · have e0 : Hid (Z = (0, 5)) := by unfold Hid; rw [eS.out, hf]
    clear hf s0 s1 y2 hB4
    go_wp2
    go_ret2
    exact ⟨by rw [e0.out]; rfl, HB4.out⟩
  · have hN4 := hN1.below hB4
    have n0' : w4.cell? ⟨nb, no, none⟩ = some (.string l.nm) := by rw [hB4.cell (p := ⟨nb, no, none⟩) hnb]; exact n0
    have n1' : w4.cell? ⟨nb, no + 1, none⟩ = some lv := by rw [hB4.cell (p := ⟨nb, no + 1, none⟩) hnb]; exact n1
    have HNB : Hid (nb < w4.heap.size) := Nat.lt_of_lt_of_le hnb hB4.size
    have HN4 := Lib.hid hN4
    have hxl := HXL.out l (findL_some hf).1
    have eS2 : Hid (Z = if beginsS l.lp pl = true then (if (kindsF C L xs (l.lp ++ [l.nm])).2 ≠ 0 then (0, (kindsF C L xs (l.lp ++ [l.nm])).2) else orType (overR o ((kindsF C L xs (l.lp ++ [l.nm])).1.getD 0 0))) else (0, 5)) := by unfold Hid; rw [eS.out, hf]
    obtain ⟨lnm, llp⟩ := l
    simp only at n0' n1' HN4 hN4 hxl eS2
    obtain ⟨la, lc, rfl⟩ := hN4.form
    clear hf s0 s1 y2 hB4 hN1 n0 n1 hnb eS HXL hN4
    have HQ2 := Lib.hid (HQ.out _ HB4.out _ llp HN4.out)
    obtain ⟨t, ht⟩ : ∃ t, t = beginsS llp pl := ⟨_, rfl⟩
    rw [← ht] at eS2 HQ2
    clear ht HQ
    cases t with
    | false =>
      have e0 : Hid (Z = (0, 5)) := by unfold Hid; rw [eS2.out]; rfl
      clear eS2
      go_wp2_with fail
      refine HQ2.out.mono ?_
      rintro e w5 ⟨rfl, hB⟩
      have HB5 := Lib.hid (HB4.out.trans (hB.mono HB4.out.size))
      clear hB n0' n1'
      go_wp2
      go_ret2
      exact ⟨by rw [e0.out]; rfl, HB5.out⟩
    | true =>
      obtain ⟨Q, hQe⟩ : ∃ Q, Q = kindS C L g xa (llp ++ [lnm]) := ⟨_, rfl⟩
      have eS3 : Hid (Z = if (kindsF C L xs (llp ++ [lnm])).2 ≠ 0 then (0, (kindsF C L xs (llp ++ [lnm])).2) else orType (overR o ((kindsF C L xs (llp ++ [lnm])).1.getD 0 0))) := by unfold Hid; rw [eS2.out, if_pos rfl]
      have HT2 : Hid (Q.2 ≠ 0 → Z = (0, Q.2)) := by
        intro h
        rw [eS3.out, eKF.out, ← hQe, if_neg h]
        exact if_pos h
      have HT1 : Hid (Q.2 = 0 → Z = if (overK o Q.1).2 = true then ((overK o Q.1).1, 0) else (0, 8)) := by
        intro h
        rw [eS3.out, eKF.out, ← hQe, if_pos h]
        simp only [ne_eq, not_true_eq_false, if_false, List.getD_cons_zero]
        unfold orType overR
        by_cases h2 : (overK o Q.1).2 = true
        · have h8 := over_range o Q.1 h16.1 h16.2 h2
          simp only [if_pos h2]
          rw [if_neg (by omega)]
        · simp only [if_neg h2]
          rfl
      clear eS2 eS3 eKF h16
      have HKD0 := Lib.hid (fun vv W (hW : Below w.heap.size w W) (hv : IsN W vv (llp ++ [lnm])) => IH.out _ vv W hW hv (by simp; omega))
      rw [← hQe] at HKD0
      clear hQe IH
      go_wp2_with fail
      refine HQ2.out.mono ?_
      rintro e W1 ⟨rfl, hB⟩
      have HB1 := Lib.hid (HB4.out.trans (hB.mono HB4.out.size))
      have HW1 := Lib.hid (HW4.out.keep hB)
      have m0 : W1.cell? ⟨nb, no, none⟩ = some (.string lnm) := by rw [hB.cell (p := ⟨nb, no, none⟩) HNB.out]; exact n0'
      have m1 : W1.cell? ⟨nb, no + 1, none⟩ = some (.slice la llp.length lc) := by rw [hB.cell (p := ⟨nb, no + 1, none⟩) HNB.out]; exact n1'
      have hzn : nb < W1.heap.size := Nat.lt_of_lt_of_le HNB.out hB.size
      have hzG : w.heap.size + 1 < W1.heap.size := by have := HW1.out.sz; omega
      have hzb : b < W1.heap.size := Nat.lt_of_lt_of_le HBL.out HB1.out.size
      have HN1 := Lib.hid (HN4.out.below hB)
      have HKD := Lib.hid (fun vv W (hW : Below W1.heap.size W1 W) (hv : IsN W vv (llp ++ [lnm])) => HKD0.out vv W (HB1.out.trans (hW.mono HB1.out.size)) hv)
      have HCL := Lib.hid (fun W (hW : Below W1.heap.size W1 W) => clone_c W _ llp (HN1.out.below hW) (by omega))
      have HY1 : Hid (W1.cell? ⟨w.heap.size + 1, 1, none⟩ = some (.int .i64 o)) := HW1.out.e 1 (by omega)
      have hBV : BoxV W1 w.heap.size (.slice aC C.length cC) (.slice aL L.length cL) b off xs.len c g sp sm sq p' n' c' nb no lnm la llp.length lc W1 := by
        obtain ⟨g0, g1, g2, g3, g4, g5, g6, g7⟩ := HG.out
        have f := fun (o : Nat) => HB1.out.cell (p := ⟨b, o, none⟩) HBL.out
        exact ⟨HW1.out.s0, HW1.out.s1, HW1.out.e 7 (by omega), (f _).trans g0, (f _).trans g1, (f _).trans g2, (f _).trans g3, (f _).trans g4, (f _).trans g5, (f _).trans g6, (f _).trans g7, m0, m1, Below.refl _ _⟩
      clear hB n0' n1' HN4 HB4 HW4 HNB HKD0 HQ2 m0 m1 HG HN1 HNE HB HW
      obtain ⟨i0, hi, hz0, hz1, hz2⟩ := infoT_parts
      go_wp2_with fail
      refine wp_region_noPanic ?_
      refine wp_region_held_drew (S := BoxV W1 w.heap.size (.slice aC C.length cC) (.slice aL L.length cL) b off xs.len c g sp sm sq p' n' c' nb no lnm la llp.length lc) (by kernel_rfl) (BoxV.of hzG hzb hzn hBV (Below.refl _ _).drew) (fun hHeld => ?_)
      clear hBV
      refine wpAnyH_take (i := 0) (v := ?v0z) rfl (by kernel_rfl) (by kernel_rfl) (by kernel_rfl) (fun _ _ _ h => h) (Or.inl ⟨by rfl, ?hy0z⟩) (by assumption) ?rest0z
      case hy0z =>
        intro w hSw
        dsimp only [BoxV] at hSw
        go_simp
        try with_reducible rfl
      simp only [Act.put, List.getElem_toArray, List.getElem_cons_succ, List.getElem_cons_zero, List.setIfInBounds_toArray, List.set_cons_zero, List.set_cons_succ]
      refine wpAnyH_take (i := 1) (v := ?v1z) rfl (by kernel_rfl) (by kernel_rfl) (by kernel_rfl) (fun _ _ _ h => h) (Or.inl ⟨by rfl, ?hy1z⟩) (by assumption) ?rest1z
      case hy1z =>
        intro w hSw
        dsimp only [BoxV] at hSw
        go_simp
        try with_reducible rfl
      simp only [Act.put, List.getElem_toArray, List.getElem_cons_succ, List.getElem_cons_zero, List.setIfInBounds_toArray, List.set_cons_zero, List.set_cons_succ]
      refine wpAnyH_take (i := 2) (v := ?v2z) rfl (by kernel_rfl) (by kernel_rfl) (by kernel_rfl) (fun _ _ _ h => h) (Or.inl ⟨by rfl, ?hy2z⟩) (by assumption) ?rest2z
      case hy2z =>
        intro w hSw
        dsimp only [BoxV] at hSw
        go_simp
        try with_reducible rfl
      simp only [Act.put, List.getElem_toArray, List.getElem_cons_succ, List.getElem_cons_zero, List.setIfInBounds_toArray, List.set_cons_zero, List.set_cons_succ]
      refine wpAnyH_take (i := 3) (v := ?v3z) rfl (by kernel_rfl) (by kernel_rfl) (by kernel_rfl) (fun _ _ _ h => h) (Or.inl ⟨by rfl, ?hy3z⟩) (by assumption) ?rest3z
      case hy3z =>
        intro w hSw
        dsimp only [BoxV] at hSw
        go_simp
        try with_reducible rfl
      simp only [Act.put, List.getElem_toArray, List.getElem_cons_succ, List.getElem_cons_zero, List.setIfInBounds_toArray, List.set_cons_zero, List.set_cons_succ]
      refine wpAnyH_take (i := 4) (v := ?v4z) rfl (by kernel_rfl) (by kernel_rfl) (by kernel_rfl) (fun _ _ _ h => h) (Or.inl ⟨by rfl, ?hy4z⟩) (by assumption) ?rest4z
      case hy4z =>
        intro w hSw
        dsimp only [BoxV] at hSw
        go_simp
        try with_reducible rfl
      simp only [Act.put, List.getElem_toArray, List.getElem_cons_succ, List.getElem_cons_zero, List.setIfInBounds_toArray, List.set_cons_zero, List.set_cons_succ]
      refine wpAnyH_take (i := 5) (v := ?v5z) rfl (by kernel_rfl) (by kernel_rfl) (by kernel_rfl) (fun _ _ _ h => h) (Or.inl ⟨by rfl, ?hy5z⟩) (by assumption) ?rest5z
      case hy5z =>
        intro w hSw
        dsimp only [BoxV] at hSw
        go_simp
        try with_reducible rfl
      simp only [Act.put, List.getElem_toArray, List.getElem_cons_succ, List.getElem_cons_zero, List.setIfInBounds_toArray, List.set_cons_zero, List.set_cons_succ]
      refine wpAnyH_take (i := 6) (v := ?v6z) rfl (by kernel_rfl) (by kernel_rfl) (by kernel_rfl) (fun _ _ _ h => h) (Or.inl ⟨by rfl, ?hy6z⟩) (by assumption) ?rest6z
      case hy6z =>
        intro w hSw
        dsimp only [BoxV] at hSw
        go_simp
        try with_reducible rfl
      simp only [Act.put, List.getElem_toArray, List.getElem_cons_succ, List.getElem_cons_zero, List.setIfInBounds_toArray, List.set_cons_zero, List.set_cons_succ]
      refine wpAnyH_take (i := 7) (v := ?v7z) rfl (by kernel_rfl) (by kernel_rfl) (by kernel_rfl) (fun _ _ _ h => h) (Or.inl ⟨by rfl, ?hy7z⟩) (by assumption) ?rest7z
      case hy7z =>
        intro w hSw
        dsimp only [BoxV] at hSw
        go_simp
        try with_reducible rfl
      simp only [Act.put, List.getElem_toArray, List.getElem_cons_succ, List.getElem_cons_zero, List.setIfInBounds_toArray, List.set_cons_zero, List.set_cons_succ]
      refine wpAnyH_take (i := 8) (v := ?v8z) rfl (by kernel_rfl) (by kernel_rfl) (by kernel_rfl) (fun _ _ _ h => h) (Or.inl ⟨by rfl, ?hy8z⟩) (by assumption) ?rest8z
      case hy8z =>
        intro w hSw
        dsimp only [BoxV] at hSw
        go_simp
        try with_reducible rfl
      simp only [Act.put, List.getElem_toArray, List.getElem_cons_succ, List.getElem_cons_zero, List.setIfInBounds_toArray, List.set_cons_zero, List.set_cons_succ]
      refine wpAnyH_take (i := 10) (v := ?v10z) rfl (by kernel_rfl) (by kernel_rfl) (by kernel_rfl) (fun _ _ _ h => h) (Or.inl ⟨by rfl, ?hy10z⟩) (by assumption) ?rest10z
      case hy10z =>
        intro w hSw
        dsimp only [BoxV] at hSw
        go_simp
        try with_reducible rfl
      simp only [Act.put, List.getElem_toArray, List.getElem_cons_succ, List.getElem_cons_zero, List.setIfInBounds_toArray, List.set_cons_zero, List.set_cons_succ]
      refine wpAnyH_take (i := 11) (v := ?v11z) rfl (by kernel_rfl) (by kernel_rfl) (by kernel_rfl) (fun _ _ _ h => h) (Or.inl ⟨by rfl, ?hy11z⟩) (by assumption) ?rest11z
      case hy11z =>
        intro w hSw
        dsimp only [BoxV] at hSw
        go_simp
        try with_reducible rfl
      simp only [Act.put, List.getElem_toArray, List.getElem_cons_succ, List.getElem_cons_zero, List.setIfInBounds_toArray, List.set_cons_zero, List.set_cons_succ]
      refine wpAnyH_take (i := 12) (v := ?v12z) rfl (by kernel_rfl) (by kernel_rfl) (by kernel_rfl) (fun _ _ _ h => h) (Or.inl ⟨by rfl, ?hy12z⟩) (by assumption) ?rest12z
      case hy12z =>
        intro w hSw
        dsimp only [BoxV] at hSw
        go_simp
        try with_reducible rfl
      simp only [Act.put, List.getElem_toArray, List.getElem_cons_succ, List.getElem_cons_zero, List.setIfInBounds_toArray, List.set_cons_zero, List.set_cons_succ]
      refine wpAnyH_take (i := 13) (v := ?v13z) rfl (by kernel_rfl) (by kernel_rfl) (by kernel_rfl) (fun _ _ _ h => h) (Or.inl ⟨by rfl, ?hy13z⟩) (by assumption) ?rest13z
      case hy13z =>
        intro w hSw
        dsimp only [BoxV] at hSw
        go_simp
        try with_reducible rfl
      simp only [Act.put, List.getElem_toArray, List.getElem_cons_succ, List.getElem_cons_zero, List.setIfInBounds_toArray, List.set_cons_zero, List.set_cons_succ]
      refine wpAnyH_ready (rs := [9, 14]) (by kernel_rfl) (by simp) ?_
      generalize W1.drew = WD at hHeld ⊢
      refine AllReadyH.cons rfl (fun K hK => ?_) (AllReadyH.cons rfl (fun K hK => ?_) AllReadyH.nil)
      · go_simp
        refine (HCL.out _ hHeld.bel).mono ?_
        rintro e wc ⟨v6, rfl, hown, hBc⟩
        try go_simp
        have hH2wc := BoxV.of hzG hzb hzn hHeld (hHeld.bel.trans (hBc.mono hHeld.bel.size))
        refine hK.out _ _ hH2wc (fun _ => ?_)
        clear hK K
        try simp only [Act.put, List.setIfInBounds_toArray, List.set_cons_zero, List.set_cons_succ]
        refine wpAnyH_ready (rs := [14]) (by kernel_rfl) (by simp) ?_
        refine AllReadyH.cons rfl (fun K hK => ?_) AllReadyH.nil
        go_simp
        have hH2wd := BoxV.of hzG hzb hzn hH2wc (hH2wc.bel.alloc hH2wc.bel.size (.cells #[.string lnm] 9))
        refine hK.out _ _ hH2wd (fun _ => ?_)
        clear hK K
        try simp only [Act.put, List.setIfInBounds_toArray, List.set_cons_zero, List.set_cons_succ]
        have hHX := hH2wd
        obtain ⟨base, hbase⟩ : ∃ base, base = WD.heap.size := ⟨_, rfl⟩
        have hbs : W1.heap.size ≤ base := by rw [hbase]; exact hHeld.bel.size
        have hbz : base ≤ (wc.alloc (.cells #[.string lnm] 9)).heap.size := by have := hBc.size; simp; omega
        have hown := hown.alloc (.cells #[.string lnm] 9)
        rw [← hbase] at hown
        have hit : (wc.alloc (.cells #[.string lnm] 9)).cell? ⟨wc.heap.size, 0, none⟩ = some (.string lnm) := by rw [World.cell?_alloc_at _ _ _ _ rfl]; rfl
        clear hHeld hH2wc hH2wd hBc hbase
        generalize hwX : wc.alloc (.cells #[.string lnm] 9) = wX at hHX hown hit hbz ⊢
        clear hwX
        generalize wc.heap.size = it at hit ⊢
        refine wpAnyH_ready (rs := [15]) (by kernel_rfl) (by simp) ?_
        refine AllReadyH.cons rfl (fun K hK => ?_) AllReadyH.nil
        rw [if_pos (by rfl)]
        refine wp_append_own _ _ _ 34 rfl base 9 i0 (.string noText) 1 16 Tryd.underlying34 hi hz0 hz1 hz2 rfl (by decide) _ _ _ rfl hown ⟨it, 0, none⟩ 1 1 [.string lnm] rfl rfl ?c1a ?c2a ?c3a ?c4a ?c5a ?_
        case c1a =>
          intro j u hj
          match j, hj with
          | 0, hj => simp at hj; subst hj; simpa [Addr.add] using hit
        case c2a => intro u hu; simp at hu; subst hu; rfl
        case c3a => unfold maxLen; omega
        case c4a => omega
        case c5a => omega
        intro v5 w5 hown5 hgrow _
        have hB5 : Below W1.heap.size W1 w5 := below_grown hHX.bel hgrow (fun k hk => Nat.le_trans hbs (hown.lt k hk).1)
        have hH5 := BoxV.of hzG hzb hzn hHX hB5
        refine hK.out _ _ hH5 (fun _ => ?_)
        clear hK K hgrow hHX hit
        have hN5 : IsN w5 v5 (llp ++ [lnm]) := isN_own (by simpa using hown5) (by simp; omega)
        have HC5 := Lib.hid (HKD.out _ _ hB5 hN5)
        clear hown5 hown hN5
        try simp only [Act.put, List.setIfInBounds_toArray, List.set_cons_zero, List.set_cons_succ]
        refine wpAnyH_ready (rs := [16]) (by kernel_rfl) (by simp) ?_
        refine AllReadyH.cons rfl (fun K hK => ?_) AllReadyH.nil
        go_simp
        refine HC5.out.mono ?_
        rintro e w7 ⟨rfl, hB7⟩
        try go_simp
        have hH7 := BoxV.of hzG hzb hzn hH5 (hB5.trans (hB7.mono hB5.size))
        refine hK.out _ _ hH7 (fun _ => ?_)
        clear hK K HC5 hH5
        try simp only [Act.put, List.setIfInBounds_toArray, List.set_cons_zero, List.set_cons_succ]
        refine wpAnyH_take (i := 17) (v := ?v17a) rfl (by kernel_rfl) (by kernel_rfl) (by kernel_rfl) (fun _ _ _ h => h) (Or.inl ⟨by rfl, ?hy17a⟩) (by assumption) ?rest17a
        case hy17a =>
          intro w hSw
          dsimp only [BoxV] at hSw
          go_simp
          try with_reducible rfl
        simp only [Act.put, List.getElem_toArray, List.getElem_cons_succ, List.getElem_cons_zero, List.setIfInBounds_toArray, List.set_cons_zero, List.set_cons_succ]
        refine wpAnyH_take (i := 18) (v := ?v18a) rfl (by kernel_rfl) (by kernel_rfl) (by kernel_rfl) (fun _ _ _ h => h) (Or.inl ⟨by rfl, ?hy18a⟩) (by assumption) ?rest18a
        case hy18a =>
          intro w hSw
          dsimp only [BoxV] at hSw
          go_simp
          try with_reducible rfl
        simp only [Act.put, List.getElem_toArray, List.getElem_cons_succ, List.getElem_cons_zero, List.setIfInBounds_toArray, List.set_cons_zero, List.set_cons_succ]
        refine wpAnyH_take (i := 19) (v := ?v19a) rfl (by kernel_rfl) (by kernel_rfl) (by kernel_rfl) (fun _ _ _ h => h) (Or.inl ⟨by rfl, ?hy19a⟩) (by assumption) ?rest19a
        case hy19a =>
          intro w hSw
          dsimp only [BoxV] at hSw
          go_simp
          try with_reducible rfl
        simp only [Act.put, List.getElem_toArray, List.getElem_cons_succ, List.getElem_cons_zero, List.setIfInBounds_toArray, List.set_cons_zero, List.set_cons_succ]
        refine wpAnyH_take (i := 20) (v := ?v20a) rfl (by kernel_rfl) (by kernel_rfl) (by kernel_rfl) (fun _ _ _ h => h) (Or.inl ⟨by rfl, ?hy20a⟩) (by assumption) ?rest20a
        case hy20a =>
          intro w hSw
          dsimp only [BoxV] at hSw
          go_simp
          try with_reducible rfl
        simp only [Act.put, List.getElem_toArray, List.getElem_cons_succ, List.getElem_cons_zero, List.setIfInBounds_toArray, List.set_cons_zero, List.set_cons_succ]
        refine wpAnyH_take (i := 21) (v := ?v21a) rfl (by kernel_rfl) (by kernel_rfl) (by kernel_rfl) (fun _ _ _ h => h) (Or.inl ⟨by rfl, ?hy21a⟩) (by assumption) ?rest21a
        case hy21a =>
          intro w hSw
          dsimp only [BoxV] at hSw
          go_simp
          try with_reducible rfl
        simp only [Act.put, List.getElem_toArray, List.getElem_cons_succ, List.getElem_cons_zero, List.setIfInBounds_toArray, List.set_cons_zero, List.set_cons_succ]
        refine wpAnyH_done (by kernel_rfl) ?_ _
        refine NoPanic.normal ?_
        have HB7 := Lib.hid (HB1.out.trans (hH7.bel.mono HB1.out.size))
        have y1 : w7.cell? ⟨w.heap.size + 1, 1, none⟩ = some (.int .i64 o) := by
          rw [hH7.bel.cell (p := ⟨w.heap.size + 1, 1, none⟩) hzG]; exact HY1.out
        clear hH7 hB5 hB7
        by_cases hQ0 : Q.2 = 0
        · have q1 : (Q.2 != 0) = false := by simpa using hQ0
          have HFin := Lib.hid (HT1.out hQ0)
          have HOV := Lib.hid (fun w => rOver_c o Q.1 w)
          clear hQ0
          obtain ⟨R, hRe⟩ : ∃ R, R = overK o Q.1 := ⟨_, rfl⟩
          rw [← hRe] at HOV HFin
          clear hRe
          obtain ⟨R1, R2⟩ := R
          simp only at HOV HFin
          cases R2 with
          | true =>
            go_wp2_with fail
            refine (HOV.out _).mono ?_
            rintro e w8 ⟨rfl, rfl⟩
            go_wp2
            go_ret2
            exact ⟨by rw [HFin.out]; rfl, HB7.out⟩
          | false =>
            go_wp2_with fail
            refine (HOV.out _).mono ?_
            rintro e w8 ⟨rfl, rfl⟩
            go_wp2
            go_ret2
            exact ⟨by rw [HFin.out]; rfl, HB7.out⟩
        · have q1 : (Q.2 != 0) = true := by simpa using hQ0
          have HFin := Lib.hid (HT2.out hQ0)
          clear hQ0
          go_wp2
          go_ret2
          exact ⟨by rw [HFin.out]; rfl, HB7.out⟩
      · go_simp
        have hH2wd := BoxV.of hzG hzb hzn hHeld (hHeld.bel.alloc hHeld.bel.size (.cells #[.string lnm] 9))
        refine hK.out _ _ hH2wd (fun _ => ?_)
        clear hK K
        try simp only [Act.put, List.setIfInBounds_toArray, List.set_cons_zero, List.set_cons_succ]
        refine wpAnyH_ready (rs := [9]) (by kernel_rfl) (by simp) ?_
        refine AllReadyH.cons rfl (fun K hK => ?_) AllReadyH.nil
        go_simp
        refine (HCL.out _ hH2wd.bel).mono ?_
        rintro e wX ⟨v6, rfl, hown, hBc⟩
        try go_simp
        have hH2wX := BoxV.of hzG hzb hzn hH2wd (hH2wd.bel.trans (hBc.mono hH2wd.bel.size))
        refine hK.out _ _ hH2wX (fun _ => ?_)
        clear hK K
        try simp only [Act.put, List.setIfInBounds_toArray, List.set_cons_zero, List.set_cons_succ]
        have hHX := hH2wX
        obtain ⟨base, hbase⟩ : ∃ base, base = (WD.alloc (.cells #[.string lnm] 9)).heap.size := ⟨_, rfl⟩
        have hbs : W1.heap.size ≤ base := by rw [hbase]; have := hHeld.bel.size; simp; omega
        have hbz : base ≤ wX.heap.size := by rw [hbase]; exact hBc.size
        rw [← hbase] at hown
        have hit : wX.cell? ⟨WD.heap.size, 0, none⟩ = some (.string lnm) := by rw [hBc.cell (p := ⟨WD.heap.size, 0, none⟩) (by simp), World.cell?_alloc_at _ _ _ _ rfl]; rfl
        clear hHeld hH2wd hH2wX hBc hbase
        generalize WD.heap.size = it at hit ⊢
        refine wpAnyH_ready (rs := [15]) (by kernel_rfl) (by simp) ?_
        refine AllReadyH.cons rfl (fun K hK => ?_) AllReadyH.nil
        rw [if_pos (by rfl)]
        refine wp_append_own _ _ _ 34 rfl base 9 i0 (.string noText) 1 16 Tryd.underlying34 hi hz0 hz1 hz2 rfl (by decide) _ _ _ rfl hown ⟨it, 0, none⟩ 1 1 [.string lnm] rfl rfl ?c1b ?c2b ?c3b ?c4b ?c5b ?_
        case c1b =>
          intro j u hj
          match j, hj with
          | 0, hj => simp at hj; subst hj; simpa [Addr.add] using hit
        case c2b => intro u hu; simp at hu; subst hu; rfl
        case c3b => unfold maxLen; omega
        case c4b => omega
        case c5b => omega
        intro v5 w5 hown5 hgrow _
        have hB5 : Below W1.heap.size W1 w5 := below_grown hHX.bel hgrow (fun k hk => Nat.le_trans hbs (hown.lt k hk).1)
        have hH5 := BoxV.of hzG hzb hzn hHX hB5
        refine hK.out _ _ hH5 (fun _ => ?_)
        clear hK K hgrow hHX hit
        have hN5 : IsN w5 v5 (llp ++ [lnm]) := isN_own (by simpa using hown5) (by simp; omega)
        have HC5 := Lib.hid (HKD.out _ _ hB5 hN5)
        clear hown5 hown hN5
        try simp only [Act.put, List.setIfInBounds_toArray, List.set_cons_zero, List.set_cons_succ]
        refine wpAnyH_ready (rs := [16]) (by kernel_rfl) (by simp) ?_
        refine AllReadyH.cons rfl (fun K hK => ?_) AllReadyH.nil
        go_simp
        refine HC5.out.mono ?_
        rintro e w7 ⟨rfl, hB7⟩
        try go_simp
        have hH7 := BoxV.of hzG hzb hzn hH5 (hB5.trans (hB7.mono hB5.size))
        refine hK.out _ _ hH7 (fun _ => ?_)
        clear hK K HC5 hH5
        try simp only [Act.put, List.setIfInBounds_toArray, List.set_cons_zero, List.set_cons_succ]
        refine wpAnyH_take (i := 17) (v := ?v17b) rfl (by kernel_rfl) (by kernel_rfl) (by kernel_rfl) (fun _ _ _ h => h) (Or.inl ⟨by rfl, ?hy17b⟩) (by assumption) ?rest17b
        case hy17b =>
          intro w hSw
          dsimp only [BoxV] at hSw
          go_simp
          try with_reducible rfl
        simp only [Act.put, List.getElem_toArray, List.getElem_cons_succ, List.getElem_cons_zero, List.setIfInBounds_toArray, List.set_cons_zero, List.set_cons_succ]
        refine wpAnyH_take (i := 18) (v := ?v18b) rfl (by kernel_rfl) (by kernel_rfl) (by kernel_rfl) (fun _ _ _ h => h) (Or.inl ⟨by rfl, ?hy18b⟩) (by assumption) ?rest18b
        case hy18b =>
          intro w hSw
          dsimp only [BoxV] at hSw
          go_simp
          try with_reducible rfl
        simp only [Act.put, List.getElem_toArray, List.getElem_cons_succ, List.getElem_cons_zero, List.setIfInBounds_toArray, List.set_cons_zero, List.set_cons_succ]
        refine wpAnyH_take (i := 19) (v := ?v19b) rfl (by kernel_rfl) (by kernel_rfl) (by kernel_rfl) (fun _ _ _ h => h) (Or.inl ⟨by rfl, ?hy19b⟩) (by assumption) ?rest19b
        case hy19b =>
          intro w hSw
          dsimp only [BoxV] at hSw
          go_simp
          try with_reducible rfl
        simp only [Act.put, List.getElem_toArray, List.getElem_cons_succ, List.getElem_cons_zero, List.setIfInBounds_toArray, List.set_cons_zero, List.set_cons_succ]
        refine wpAnyH_take (i := 20) (v := ?v20b) rfl (by kernel_rfl) (by kernel_rfl) (by kernel_rfl) (fun _ _ _ h => h) (Or.inl ⟨by rfl, ?hy20b⟩) (by assumption) ?rest20b
        case hy20b =>
          intro w hSw
          dsimp only [BoxV] at hSw
          go_simp
          try with_reducible rfl
        simp only [Act.put, List.getElem_toArray, List.getElem_cons_succ, List.getElem_cons_zero, List.setIfInBounds_toArray, List.set_cons_zero, List.set_cons_succ]
        refine wpAnyH_take (i := 21) (v := ?v21b) rfl (by kernel_rfl) (by kernel_rfl) (by kernel_rfl) (fun _ _ _ h => h) (Or.inl ⟨by rfl, ?hy21b⟩) (by assumption) ?rest21b
        case hy21b =>
          intro w hSw
          dsimp only [BoxV] at hSw
          go_simp
          try with_reducible rfl
        simp only [Act.put, List.getElem_toArray, List.getElem_cons_succ, List.getElem_cons_zero, List.setIfInBounds_toArray, List.set_cons_zero, List.set_cons_succ]
        refine wpAnyH_done (by kernel_rfl) ?_ _
        refine NoPanic.normal ?_
        have HB7 := Lib.hid (HB1.out.trans (hH7.bel.mono HB1.out.size))
        have y1 : w7.cell? ⟨w.heap.size + 1, 1, none⟩ = some (.int .i64 o) := by
          rw [hH7.bel.cell (p := ⟨w.heap.size + 1, 1, none⟩) hzG]; exact HY1.out
        clear hH7 hB5 hB7
        by_cases hQ0 : Q.2 = 0
        · have q1 : (Q.2 != 0) = false := by simpa using hQ0
          have HFin := Lib.hid (HT1.out hQ0)
          have HOV := Lib.hid (fun w => rOver_c o Q.1 w)
          clear hQ0
          obtain ⟨R, hRe⟩ : ∃ R, R = overK o Q.1 := ⟨_, rfl⟩
          rw [← hRe] at HOV HFin
          clear hRe
          obtain ⟨R1, R2⟩ := R
          simp only at HOV HFin
          cases R2 with
          | true =>
            go_wp2_with fail
            refine (HOV.out _).mono ?_
            rintro e w8 ⟨rfl, rfl⟩
            go_wp2
            go_ret2
            exact ⟨by rw [HFin.out]; rfl, HB7.out⟩
          | false =>
            go_wp2_with fail
            refine (HOV.out _).mono ?_
            rintro e w8 ⟨rfl, rfl⟩
            go_wp2
            go_ret2
            exact ⟨by rw [HFin.out]; rfl, HB7.out⟩
        · have q1 : (Q.2 != 0) = true := by simpa using hQ0
          have HFin := Lib.hid (HT2.out hQ0)
          clear hQ0
          go_wp2
          go_ret2
          exact ⟨by rw [HFin.out]; rfl, HB7.out⟩

set_option maxRecDepth 100000 in
set_option maxHeartbeats 4000000 in
theorem rkind_over (C : List Cl) (L : List Ne) (vC vL : Value) (w0 : World) (hC : IsC w0 vC C) (hL : IsM w0 vL L) (hnC : C.length ≤ 1048576) (hnL : L.length ≤ 1048576) (o : Int) (nm : ByteArray) (vk vn : Int) (vs : ByteArray) (vl : List Int) (xs : Fo) (hp : PartOk ⟨5, o, nm, vk, vn, vs, vl⟩ xs) (hLL : ∀ l ∈ L, l.lp.length ≤ 1048575) (ih : ∀ k h' a', xs.drop k = .cons h' a' (xs.drop (k + 1)) → RKindC C L vC vL w0 h' a') : RKindC C L vC vL w0 ⟨5, o, nm, vk, vn, vs, vl⟩ xs := by
  intro v pv pl w hb hx hN hpl
  have HR := Lib.hid (fun W (hW : Below w.heap.size w W) => rover_c C L vC vL w0 hC hL hnC hnL o nm vk vn vs vl xs hp hLL ih v pv pl W (hb.trans (hW.mono hb.size)) (hx.below hW) (hN.below hW) hpl)
  obtain ⟨aC, cC, rfl, hC⟩ := hC
  obtain ⟨aL, cL, rfl, hL⟩ := hL
  obtain ⟨sv, a, n, c, rfl, hLv, rfl, hs⟩ := hx
  obtain ⟨p, m, q, rfl⟩ := hLv.form
  obtain ⟨pa, pc, rfl⟩ := hN.form
  clear hLv hC hL hN hs hp hb ih hLL hpl
  generalize kindS C L ⟨5, o, nm, vk, vn, vs, vl⟩ xs pl = Z at HR ⊢
  have HB := Lib.hid (((((Below.refl w.heap.size w).alloc (Nat.le_refl _) _).alloc (by simp) _) : Below w.heap.size w ((w.alloc (.cells #[.slice aC C.length cC, .slice aL L.length cL] 49)).alloc (.cells #[.int .i64 5, .int .i64 o, .string nm, .int .i64 vk, .int .i64 vn, .string vs, .slice p m q, .slice a xs.len c] 27))))
  have HW : Hid (RBox w (.slice aC C.length cC) (.slice aL L.length cL) [.int .i64 5, .int .i64 o, .string nm, .int .i64 vk, .int .i64 vn, .string vs, .slice p m q, .slice a xs.len c] ((w.alloc (.cells #[.slice aC C.length cC, .slice aL L.length cL] 49)).alloc (.cells #[.int .i64 5, .int .i64 o, .string nm, .int .i64 vk, .int .i64 vn, .string vs, .slice p m q, .slice a xs.len c] 27))) := RBox.start _ _ _ _
  go_enter Tryd.func14, Tryd.ntmps14
  go_wp2_with fail
  refine (HR.out _ HB.out).mono ?_
  rintro e w4 ⟨rfl, hB⟩
  have HB4 := Lib.hid (HB.out.trans (hB.mono HB.out.size))
  clear hB
  go_wp2
  go_ret2
  exact ⟨rfl, HB4.out⟩

/-- kind of the reference, of an expression that CheckExpr accepts. -/
theorem rkind_c (C : List Cl) (L : List Ne) (vC vL : Value) (w0 : World) (hC : IsC w0 vC C) (hL : IsM w0 vL L) (hnC : C.length ≤ 1048576) (hnL : L.length ≤ 1048576) (hK : ∀ c ∈ C, 2 ≤ c.kind ∧ c.kind ≤ 7) (hP : PairC C) (hLL : ∀ l ∈ L, l.lp.length ≤ 1048575) :
    ∀ h a, oneS h a = 0 → a.parts ≤ 1000 → RKindC C L vC vL w0 h a :=
  forest_ind (fun h a => oneS h a = 0 → a.parts ≤ 1000 → RKindC C L vC vL w0 h a) (fun h a ih h1 hp => by
    obtain ⟨g1, g2⟩ := one_part h1
    have hk := part_ok g1
    have ih' : ∀ k h' a', a.drop k = .cons h' a' (a.drop (k + 1)) → RKindC C L vC vL w0 h' a' := fun k h' a' hd => ih k h' a' hd (all_at g2 hd) (by have := Fo.parts_sub hd; omega)
    have hlen : a.len ≤ 1000 := by have := a.len_le_parts; omega
    have hkk := hk.kinds
    obtain ⟨k, o, nm, vk, vn, vs, vl⟩ := h
    simp only at hkk
    rcases hkk with rfl | rfl | rfl | rfl | rfl
    · exact rkind_const C L vC vL w0 hC hL hnC hnL o nm vk vn vs vl a hk
    · exact rkind_answer C L vC vL w0 hC hL hnC hnL o nm vk vn vs vl a hk hP
    · exact rkind_row C L vC vL w0 hC hL hnC hnL o nm vk vn vs vl a hk
    · exact rkind_op C L vC vL w0 hC hL hnC hnL o nm vk vn vs vl a hk g2 hK hlen ih'
    · exact rkind_over C L vC vL w0 hC hL hnC hnL o nm vk vn vs vl a hk hLL ih')
end Go.Proofs.YtngijlmokhkdjaaDoor

namespace Go.Proofs.YtngijlmokhkdjaaDoor
open Go.RowKit

set_option maxRecDepth 100000 in
set_option maxHeartbeats 4000000 in
theorem rTypeOf_c (w0 w : World) (vC vL : Value) (C : List Cl) (L : List Ne) (h : Hd) (a : Fo) (v pv : Value) (pl : List ByteArray) (hE0 : Env w0) (hb : Below w0.heap.size w0 w)
    (hx : IsX w0 h a v) (hN : IsN w0 pv pl) (hC : IsC w0 vC C) (hL : IsM w0 vL L) (hFC : FineC C) (hFL : FineL L) (hnC : C.length ≤ 1048576) (hnL : L.length ≤ 1048576)
    (hp : a.parts ≤ 1048576) (hz : h.vs.size ≤ 9223372036854775807) (hf : a.fine) (hpl : pl.length ≤ 1048576) :
    Calls Tryd.prog 5 #[v, vC, vL, pv] w fun e w' => e = .returned (.tuple #[.int .i64 (typeS C L h a pl).1, .int .i64 (typeS C L h a pl).2]) ∧ Below w0.heap.size w0 w' := by
  have HE := Lib.hid (fun W (hW : Below w0.heap.size w0 W) => rCheckExpr_c W (hE0.below hW) h a v W hp hz hf (hx.below hW) (Below.refl _ _))
  have HS := Lib.hid (fun W (hW : Below w0.heap.size w0 W) => check_c1 w0 W vC vL C L hW hC hL hE0 hFC hFL hnC hnL)
  have HPL := Lib.hid (fun W (hW : Below w0.heap.size w0 W) => rIsPlace_c w0 W vL pv L pl hW hL (hN.below hW) hnL)
  have HK := Lib.hid (fun (h0 : exprS h a = 0) (hs0 : sightS C L = 0) W (hW : Below w0.heap.size w0 W) => rkind_c C L vC vL w0 hC hL hnC hnL (cells_kinds C [] (sight_ok hs0).1) (cells_pair C [] (sight_ok hs0).1).1 (fun l hl => (hFL l hl).2.2) h a (expr_one h0).1 (by have := (expr_one h0).2; omega) v pv pl W hW (hx.below hW) (hN.below hW) hpl)
  obtain ⟨sv, xa, n, c, rfl, hLv, rfl, _⟩ := hx
  obtain ⟨p, m, q, rfl⟩ := hLv.form
  obtain ⟨pa, pc, rfl⟩ := hN.form
  obtain ⟨aC, cC, rfl, _⟩ := hC
  obtain ⟨aL, cL, rfl, _⟩ := hL
  clear hLv hN hFC hFL hpl hp hz hf hE0
  have BB := hb.alloc hb.size (.cells #[.int .i64 h.k, .int .i64 h.o, .string h.nm, .int .i64 h.vk, .int .i64 h.vn, .string h.vs, .slice p m q, .slice xa a.len c] 27)
  have HBB := Lib.hid BB
  have hwz := hb.size
  clear BB hb
  obtain ⟨E, hE⟩ : ∃ E, E = exprS h a := ⟨_, rfl⟩
  have HEE := Lib.hid hE
  rw [← hE] at HE
  clear hE
  by_cases h0 : E = 0
  · subst h0
    obtain ⟨S, hS⟩ : ∃ S, S = sightS C L := ⟨_, rfl⟩
    have HSE := Lib.hid hS
    rw [← hS] at HS
    clear hS
    by_cases hs0 : S = 0
    · subst hs0
      have eT := Lib.hid (typeS_ok (pl := pl) HEE.out.symm HSE.out.symm)
      have eA : Hid (atPlaceS C L h a pl = if placeS L pl = false then (0, 9) else kindS C L h a pl) := rfl
      have HK2 := Lib.hid (HK.out HEE.out.symm HSE.out.symm)
      clear HK
      obtain ⟨t, ht⟩ : ∃ t, t = placeS L pl := ⟨_, rfl⟩
      rw [← ht] at HPL eA
      clear ht
      generalize kindS C L h a pl = K at eA HK2
      go_enter Tryd.func5, Tryd.ntmps5
      go_wp2_with fail
      refine (HE.out _ HBB.out).mono ?_
      rintro e w4 ⟨rfl, hB⟩
      have HB4 := Lib.hid (HBB.out.trans (hB.mono HBB.out.size))
      have hz4 := hB.size
      have yy : ∀ i, i < 8 → w4.cell? ⟨w.heap.size, i, none⟩ = (#[.int .i64 h.k, .int .i64 h.o, .string h.nm, .int .i64 h.vk, .int .i64 h.vn, .string h.vs, .slice p m q, .slice xa a.len c] : Array Value)[i]? := fun i hi => by
        rw [hB.cell (p := ⟨w.heap.size, i, none⟩) (by simp), World.cell?_alloc_at _ _ _ _ rfl]
      have HYY := Lib.hid yy
      have hz5 : w.heap.size < w4.heap.size := by simp at hz4; omega
      clear hB yy hz4
      go_wp2_with fail
      have B5 := HB4.out.alloc HB4.out.size (.cells #[.slice aC C.length cC, .slice aL L.length cL] 49)
      have HB5 := Lib.hid B5
      have XX : Hid (∀ W, Below (w4.alloc (.cells #[.slice aC C.length cC, .slice aL L.length cL] 49)).heap.size (w4.alloc (.cells #[.slice aC C.length cC, .slice aL L.length cL] 49)) W → (W.cell? ⟨w4.heap.size, 0, none⟩ = some (.slice aC C.length cC) ∧ W.cell? ⟨w4.heap.size, 1, none⟩ = some (.slice aL L.length cL)) ∧ (∀ i, i < 8 → W.cell? ⟨w.heap.size, i, none⟩ = (#[.int .i64 h.k, .int .i64 h.o, .string h.nm, .int .i64 h.vk, .int .i64 h.vn, .string h.vs, .slice p m q, .slice xa a.len c] : Array Value)[i]?)) := by
        intro W hW
        refine ⟨⟨?_, ?_⟩, fun i hi => ?_⟩
        · rw [hW.cell (p := ⟨w4.heap.size, 0, none⟩) (by simp), World.cell?_alloc_at _ _ _ _ rfl]; rfl
        · rw [hW.cell (p := ⟨w4.heap.size, 1, none⟩) (by simp), World.cell?_alloc_at _ _ _ _ rfl]; rfl
        · rw [hW.cell (p := ⟨w.heap.size, i, none⟩) (by simp; omega), World.cell?_alloc_past _ _ _ (by simpa using hz5)]; exact HYY.out i hi
      clear B5
      generalize w4.alloc (.cells #[.slice aC C.length cC, .slice aL L.length cL] 49) = W5 at HB5 XX ⊢
      refine (HS.out _ HB5.out).mono ?_
      rintro e w6 ⟨rfl, hB⟩
      have HB6 := Lib.hid (HB5.out.trans (hB.mono HB5.out.size))
      have HB56 := Lib.hid hB
      clear hB
      cases t with
      | false =>
        go_wp2_with fail
        refine (HPL.out _ HB6.out).mono ?_
        rintro e w7 ⟨rfl, hB⟩
        have HB7 := Lib.hid (HB6.out.trans (hB.mono HB6.out.size))
        clear hB
        go_wp2
        go_ret2
        exact ⟨by rw [eT.out, eA.out]; rfl, HB7.out⟩
      | true =>
        go_wp2_with fail
        refine (HPL.out _ HB6.out).mono ?_
        rintro e w7 ⟨rfl, hB⟩
        have HB7 := Lib.hid (HB6.out.trans (hB.mono HB6.out.size))
        obtain ⟨⟨m0, m1⟩, ww⟩ := XX.out _ (HB56.out.trans (hB.mono HB56.out.size))
        have y0 := ww 0 (by omega)
        have y1 := ww 1 (by omega)
        have y2 := ww 2 (by omega)
        have y3 := ww 3 (by omega)
        have y4 := ww 4 (by omega)
        have y5 := ww 5 (by omega)
        have y6 := ww 6 (by omega)
        have y7 := ww 7 (by omega)
        simp only [List.getElem?_toArray, List.getElem?_cons_zero, List.getElem?_cons_succ] at y0 y1 y2 y3 y4 y5 y6 y7
        clear hB ww
        go_wp2_with fail
        refine (HK2.out _ HB7.out).mono ?_
        rintro e w8 ⟨rfl, hB⟩
        have HB8 := Lib.hid (HB7.out.trans (hB.mono HB7.out.size))
        clear hB y0 y1 y2 y3 y4 y5 y6 y7 m0 m1
        go_wp2
        go_ret2
        exact ⟨by rw [eT.out, eA.out]; rfl, HB8.out⟩
    · have eT : Hid (typeS C L h a pl = (0, S)) := by
        unfold Hid typeS
        rw [← HEE.out, ← HSE.out, if_neg (fun h => h rfl), if_pos hs0]
      have q1 : (S != 0) = true := by simpa using hs0
      clear hs0 HK HPL
      go_enter Tryd.func5, Tryd.ntmps5
      go_wp2_with fail
      refine (HE.out _ HBB.out).mono ?_
      rintro e w4 ⟨rfl, hB⟩
      have HB4 := Lib.hid (HBB.out.trans (hB.mono HBB.out.size))
      clear hB
      go_wp2_with fail
      refine (HS.out _ (HB4.out.alloc HB4.out.size _)).mono ?_
      rintro e w5 ⟨rfl, hB⟩
      have HB5 := Lib.hid ((HB4.out.alloc HB4.out.size (.cells #[.slice aC C.length cC, .slice aL L.length cL] 49)).trans (hB.mono (HB4.out.alloc HB4.out.size (.cells #[.slice aC C.length cC, .slice aL L.length cL] 49)).size))
      clear hB
      go_wp2
      go_ret2
      exact ⟨by rw [eT.out]; rfl, HB5.out⟩
  · have eT : Hid (typeS C L h a pl = (0, E)) := by
      unfold Hid typeS
      rw [← HEE.out, if_pos h0]
    have q1 : (E != 0) = true := by simpa using h0
    clear h0 HK HPL HS
    go_enter Tryd.func5, Tryd.ntmps5
    go_wp2_with fail
    refine (HE.out _ HBB.out).mono ?_
    rintro e w4 ⟨rfl, hB⟩
    have HB := Lib.hid (HBB.out.trans (hB.mono HBB.out.size))
    clear hB
    go_wp2
    go_ret2
    exact ⟨by rw [eT.out]; rfl, HB.out⟩
end Go.Proofs.YtngijlmokhkdjaaDoor
