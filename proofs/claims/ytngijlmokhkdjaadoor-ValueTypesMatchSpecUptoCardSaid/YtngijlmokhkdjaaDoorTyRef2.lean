/-
  nest and operation of the reference, and its copies of rows of texts.
-/
import Derived.Test.YtngijlmokhkdjaaDoorTyRef1
import Derived.Test.YtngijlmokhkdjaaDoorTyWithin
namespace Go.Proofs.YtngijlmokhkdjaaDoor
open Go.RowKit

theorem findL_drop {L : List Ne} {k : Nat} {c : Ne} {nm : ByteArray} (h : L[k]? = some c) : findL (L.drop k) nm = if c.nm = nm then some c else findL (L.drop (k + 1)) nm := by
  obtain ⟨hk, he⟩ := List.getElem?_eq_some_iff.1 h
  unfold findL
  rw [List.drop_eq_getElem_cons hk, he, List.find?_cons]
  by_cases hn : c.nm = nm <;> simp [hn]
/-- What nest gives: a loop where it stands, or nil. -/
def NestP (w : World) (L : List Ne) (nm : ByteArray) (e : Ending) (w' : World) : Prop :=
  Below w.heap.size w w' ∧ ((findL L nm = none ∧ e = .returned (.pointer none)) ∨ ∃ b o l lv, findL L nm = some l ∧ e = .returned (.pointer (some ⟨b, o, none⟩)) ∧ b < w.heap.size ∧ w.cell? ⟨b, o, none⟩ = some (.string l.nm) ∧ w.cell? ⟨b, o + 1, none⟩ = some lv ∧ IsN w lv l.lp)
set_option maxRecDepth 100000 in
set_option maxHeartbeats 4000000 in
theorem nest_c (w0 w : World) (vC vL : Value) (L : List Ne) (nm : ByteArray) (hb : Below w0.heap.size w0 w) (hL : IsM w0 vL L) (hn : L.length ≤ 1048576) :
    Calls Tryd.prog 29 #[.agg #[vC, vL], .string nm] w (NestP w L nm) := by
  obtain ⟨a, q, rfl, hL⟩ := hL
  have HL := Lib.hid hL
  clear hL
  have HZ : Hid (findL L nm = findL (L.drop 0) nm) := rfl
  have S0 : Hid ((w.alloc (.cells #[vC, .slice a L.length q] 49)).cell? ⟨w.heap.size, 1, none⟩ = some (.slice a L.length q)) := by
    unfold Hid; rw [World.cell?_alloc_at _ _ _ _ rfl]; rfl
  have HB := Lib.hid ((Below.refl w.heap.size w).alloc (Nat.le_refl _) (.cells #[vC, .slice a L.length q] 49))
  go_enter Tryd.func29, Tryd.ntmps29
  go_wp2_with fail
  generalize w.alloc (.cells #[vC, .slice a L.length q] 49) = W1 at S0 HB ⊢
  go_loop [5, 9] (fun _ i => ∃ k : Nat, k ≤ L.length ∧ i = .int .i64 k ∧ Hid (findL L nm = findL (L.drop k) nm)) (fun _ i => L.length - (intOf i).toNat)
  case atStart => exact ⟨0, Nat.zero_le _, rfl, HZ.out⟩
  case round =>
    obtain ⟨k, hk, rfl, hA⟩ := hrel
    clear HZ
    have s0 := S0.out
    by_cases hlt : k < L.length
    · have hkk : (k : Int) < (L.length : Int) := by omega
      obtain ⟨b, off, rfl, hbl, hCs⟩ : ∃ b off, a = some ⟨b, off, none⟩ ∧ b < w0.heap.size ∧ IsNs w0 b L off := by
        rcases HL.out with h | ⟨b, off, h1, h2, _, h3⟩
        · omega
        · exact ⟨b, off, h1, h2, h3⟩
      obtain ⟨c, hc⟩ : ∃ c, L[k]? = some c := ⟨L[k], List.getElem?_eq_getElem hlt⟩
      obtain ⟨lv, g0, g1, hi⟩ := hCs.at hc
      have hB0 := hb.trans (HB.out.mono hb.size)
      have k0 := (hB0.cell (p := ⟨b, off + k * 2, none⟩) hbl).trans g0
      have hE := hA.out.trans (findL_drop (nm := nm) hc)
      have HF : Hid (b < w.heap.size ∧ w.cell? ⟨b, off + k * 2, none⟩ = some (.string c.nm) ∧ w.cell? ⟨b, off + k * 2 + 1, none⟩ = some lv ∧ IsN w lv c.lp) :=
        ⟨Nat.lt_of_lt_of_le hbl hb.size, (hb.cell (p := ⟨b, off + k * 2, none⟩) hbl).trans g0, (hb.cell (p := ⟨b, off + k * 2 + 1, none⟩) hbl).trans g1, hi.below hb⟩
      clear g0 g1 hCs hi hc hA hB0
      by_cases hnm : c.nm = nm
      · have eZ : Hid (findL L nm = some c) := hE.trans (if_pos hnm)
        have t1 := eqB hnm
        clear hE hnm
        go_wp2
        go_ret
        exact ⟨HB.out, .inr ⟨b, off + k * 2, c, lv, eZ.out, rfl, HF.out⟩⟩
      · have eZ : Hid (findL L nm = findL (L.drop (k + 1)) nm) := hE.trans (if_neg hnm)
        have t1 := neB hnm
        clear hE hnm
        go_wp2
        go_round
        case rel => exact ⟨k + 1, by omega, by go_num, eZ.out⟩
        case measure => simp [intOf]; omega
    · obtain rfl : k = L.length := by omega
      have eZ : Hid (findL L nm = none) := by unfold Hid; rw [hA.out, List.drop_length]; rfl
      clear hA
      go_wp2
      go_ret
      exact ⟨HB.out, .inl ⟨eZ.out, rfl⟩⟩

/-- What a copy of a row of texts is. -/
def CloneP (w : World) (l : List ByteArray) (e : Ending) (w' : World) : Prop :=
  ∃ v', e = .returned v' ∧ w'.ownsRow w.heap.size 9 1 v' l.length (l.map Value.string) ∧ Below w.heap.size w w'
theorem clone_c (w : World) (v : Value) (l : List ByteArray) (h : IsN w v l) (hn : l.length ≤ 1048576) : Calls Tryd.prog 51 #[v] w (CloneP w l) := by
  rcases h with ⟨a, c, rfl, rfl⟩ | ⟨b, off, cap, rfl, h1, h2, h3, h4⟩
  · cases a with
    | none => exact (Tryd.slices_Clone_string_nil 0 c w).mono fun e w' ⟨he, hw⟩ => ⟨_, he, by rw [hw]; exact World.ownsRow_nil _ _ _ _, by rw [hw]; exact Below.refl _ _⟩
    | some a => exact (Tryd.slices_Clone_string_zero a c w).mono fun e w' ⟨v', he, ho, _, hb⟩ => ⟨v', he, ho, hb⟩
  · refine (Tryd.slices_Clone_string b off l.length cap l w (Nat.le_refl _) (by omega) h4).mono fun e w' ⟨v', he, ho, _, hb⟩ => ⟨v', he, ?_, hb⟩
    rw [List.take_length] at ho
    exact ho

/-- The kinds from an index on, as operation goes along them. -/
theorem operF_drop {M ks : List Int} {k : Nat} {x so : Int} (h : ks[k]? = some x) : operF M k (ks.drop k) so = if (fitsS (M.getD (min k (M.length - 1)) 0) x so).2 = true then operF M (k + 1) (ks.drop (k + 1)) (fitsS (M.getD (min k (M.length - 1)) 0) x so).1 else none := by
  obtain ⟨hk, he⟩ := List.getElem?_eq_some_iff.1 h
  rw [List.drop_eq_getElem_cons hk, he]; rfl
/-- What operation gives. -/
def operR (o : Int) (z : Option Int) : Int × Bool :=
  match z with
  | none => (0, false)
  | some so => (if resultS o < 0 then so else resultS o, true)
theorem operR_S (o : Int) (ks : List Int) : (operR o (operF (marksS o) 0 ks 0)).1 = operS o ks := by
  unfold operR operS
  cases operF (marksS o) 0 ks 0 <;> rfl
theorem marks_len (o : Int) (h1 : 1 ≤ o) (h2 : o ≤ 39) : 1 ≤ (marksS o).length ∧ (marksS o).length ≤ 3 := by
  have ho : o = 1 ∨ o = 2 ∨ o = 3 ∨ o = 4 ∨ o = 5 ∨ o = 6 ∨ o = 7 ∨ o = 8 ∨ o = 9 ∨ o = 10 ∨ o = 11 ∨ o = 12 ∨ o = 13 ∨ o = 14 ∨ o = 15 ∨ o = 16 ∨ o = 17 ∨ o = 18 ∨ o = 19 ∨ o = 20 ∨ o = 21 ∨ o = 22 ∨ o = 23 ∨ o = 24 ∨ o = 25 ∨ o = 26 ∨ o = 27 ∨ o = 28 ∨ o = 29 ∨ o = 30 ∨ o = 31 ∨ o = 32 ∨ o = 33 ∨ o = 34 ∨ o = 35 ∨ o = 36 ∨ o = 37 ∨ o = 38 ∨ o = 39 := by omega
  clear h1 h2
  rcases ho with rfl | rfl | rfl | rfl | rfl | rfl | rfl | rfl | rfl | rfl | rfl | rfl | rfl | rfl | rfl | rfl | rfl | rfl | rfl | rfl | rfl | rfl | rfl | rfl | rfl | rfl | rfl | rfl | rfl | rfl | rfl | rfl | rfl | rfl | rfl | rfl | rfl | rfl | rfl
  all_goals exact ⟨by decide, by decide⟩
set_option maxRecDepth 100000 in
set_option maxHeartbeats 4000000 in
theorem operation_c (o : Int) (v : Value) (ks : List Int) (w : World) (h1 : 1 ≤ o) (h2 : o ≤ 39) (hv : IsL w v ks) (hk : ks.length ≤ 1048576) :
    Calls Tryd.prog 34 #[.int .i64 o, v] w fun e w' => e = .returned (.tuple #[.int .i64 (operR o (operF (marksS o) 0 ks 0)).1, .bool (operR o (operF (marksS o) 0 ks 0)).2]) ∧ Below w.heap.size w w' := by
  have HS := Lib.hid (rShapeM_c o w h1 h2)
  have HM := Lib.hid (marks_len o h1 h2)
  have HV := Lib.hid hv
  have HR : Hid (∀ z, operR o z = match z with | none => (0, false) | some so => (if resultS o < 0 then so else resultS o, true)) := fun z => rfl
  obtain ⟨a, c, rfl, _⟩ := hv.len
  clear hv h1 h2
  have HZ : Hid (operF (marksS o) 0 ks 0 = operF (marksS o) 0 (ks.drop 0) 0) := rfl
  generalize operF (marksS o) 0 ks 0 = Z at HZ ⊢
  obtain ⟨RR, hRR⟩ : ∃ RR, RR = operR o Z := ⟨_, rfl⟩
  rw [← hRR]
  have HRR := Lib.hid hRR
  clear hRR
  go_enter Tryd.func34, Tryd.ntmps34
  go_wp2_with fail
  refine HS.out.mono ?_
  rintro e w1 ⟨b, q, rfl, hc, hbl, hB⟩
  have HC := Lib.hid hc
  have HB := Lib.hid hB
  have HBL := Lib.hid hbl
  clear hc hB hbl HS
  generalize resultS o = res at HR ⊢
  generalize marksS o = M at HC HM HZ ⊢
  generalize moreM o = mo
  have B1 := Lib.hid ((Below.refl w1.heap.size w1).alloc (Nat.le_refl _) (.cells #[.slice (some ⟨b, 0, none⟩) M.length q, .int .i64 res, .bool mo] 96))
  have S0 : Hid (∀ i, i < 3 → (w1.alloc (.cells #[.slice (some ⟨b, 0, none⟩) M.length q, .int .i64 res, .bool mo] 96)).cell? ⟨w1.heap.size, i, none⟩ = (#[.slice (some ⟨b, 0, none⟩) M.length q, .int .i64 res, .bool mo] : Array Value)[i]?) := fun i _ => by
    rw [World.cell?_alloc_at _ _ _ _ rfl]
  go_wp2_with fail
  generalize w1.alloc (.cells #[.slice (some ⟨b, 0, none⟩) M.length q, .int .i64 res, .bool mo] 96) = W2 at B1 S0 ⊢
  have HB2 := Lib.hid (HB.out.trans (B1.out.mono HB.out.size))
  go_loop [7, 8, 9, 10, 11, 16] (fun s _ _ _ _ i => ∃ (k : Nat) (so : Int), k ≤ ks.length ∧ i = .int .i64 k ∧ s = .int .i64 so ∧ Hid (Z = operF M k (ks.drop k) so)) (fun _ _ _ _ _ i => ks.length - (intOf i).toNat)
  case atStart => exact ⟨0, 0, Nat.zero_le _, rfl, rfl, HZ.out⟩
  case round =>
    obtain ⟨k, so, hkl, rfl, rfl, hA⟩ := hrel
    clear HZ
    have s0 := S0.out 0 (by omega)
    have s1 := S0.out 1 (by omega)
    simp only [List.getElem?_toArray, List.getElem?_cons_zero, List.getElem?_cons_succ] at s0 s1
    by_cases hlt : k < ks.length
    · have hkk : (k : Int) < (ks.length : Int) := by omega
      obtain ⟨kb, ko, e1, _, hkc⟩ := HV.out.cells (by omega)
      subst e1
      have hkb : kb < w.heap.size := block_lt (hkc k hlt)
      obtain ⟨x, hx⟩ : ∃ x, ks[k]? = some x := ⟨ks[k], List.getElem?_eq_getElem hlt⟩
      have hxd : ks.getD k 0 = x := by rw [List.getD_eq_getElem?_getD, hx]; rfl
      have c1 := (HB2.out.cell (p := ⟨kb, ko + k, none⟩) hkb).trans (hkc k hlt)
      rw [hxd] at c1
      have hE := hA.out.trans (operF_drop hx)
      obtain ⟨mk, hmk⟩ : ∃ mk, mk = M.getD (min k (M.length - 1)) 0 := ⟨_, rfl⟩
      rw [← hmk] at hE
      have hM := HM.out
      have cm : ∀ j, j < M.length → W2.cell? ⟨b, j, none⟩ = some (.int .i64 (M.getD j 0)) := fun j hj => (B1.out.cell (p := ⟨b, j, none⟩) HBL.out).trans (HC.out j hj)
      have HF := Lib.hid (fun w => fits_c mk x so w)
      obtain ⟨F, hF⟩ : ∃ F, F = fitsS mk x so := ⟨_, rfl⟩
      rw [← hF] at hE HF
      have HE := Lib.hid hE
      clear hx hxd hkc hA hE hF
      obtain ⟨hM1, hM3⟩ := hM
      have m1 : (1 : Int) ≤ (M.length : Int) := by omega
      have m3 : (M.length : Int) ≤ 3 := by omega
      have mk0 : (0 : Int) ≤ (k : Int) := by omega
      obtain ⟨i, hi⟩ : ∃ i, i = min k (M.length - 1) := ⟨_, rfl⟩
      have tm : min (k : Int) ((M.length : Int) - 1) = (i : Int) := by omega
      have hiM : i < M.length := by omega
      have c2 := cm i hiM
      rw [← hi] at hmk
      rw [← hmk] at c2
      have ti : (i : Int) < (M.length : Int) := by omega
      have ti0 : (0 : Int) ≤ (i : Int) := by omega
      clear hmk hi cm hM1 hM3
      obtain ⟨F1, F2⟩ := F
      simp only at HF
      cases F2 with
      | true =>
        have eN : Hid (Z = operF M (k + 1) (ks.drop (k + 1)) F1) := HE.out.trans (if_pos rfl)
        clear HE
        go_wp2_with fail
        refine (HF.out _).mono ?_
        rintro e w4 ⟨rfl, rfl⟩
        clear tm ti ti0 c1 c2
        go_wp2
        go_round
        case rel => exact ⟨k + 1, F1, by omega, by go_num, rfl, eN.out⟩
        case measure => simp [intOf]; omega
      | false =>
        have eN : Z = none := HE.out.trans (if_neg (by simp))
        have eR : Hid (RR = (0, false)) := by unfold Hid; rw [HRR.out, eN, HR.out]
        clear HE eN
        go_wp2_with fail
        refine (HF.out _).mono ?_
        rintro e w4 ⟨rfl, rfl⟩
        clear tm ti ti0 c1 c2
        go_wp2
        go_ret2
        exact ⟨by rw [eR.out]; rfl, HB2.out⟩
    · obtain rfl : k = ks.length := by omega
      have eZ : Z = some so := by rw [hA.out, List.drop_length]; rfl
      have eR : Hid (RR = (if res < 0 then so else res, true)) := by unfold Hid; rw [HRR.out, eZ, HR.out]
      clear hA eZ
      by_cases hr : res < 0
      · have eR2 : Hid (RR = (so, true)) := by unfold Hid; rw [eR.out, if_pos hr]
        go_wp2
        go_ret2
        exact ⟨by rw [eR2.out]; rfl, HB2.out⟩
      · have eR2 : Hid (RR = (res, true)) := by unfold Hid; rw [eR.out, if_neg hr]
        have t1 : decide (res < 0) = false := by simpa using hr
        clear hr
        go_wp2
        go_ret2
        exact ⟨by rw [eR2.out]; rfl, HB2.out⟩
end Go.Proofs.YtngijlmokhkdjaaDoor
