/-
  checkRow of the reference; what its checkBound and checkRows say, as plain functions.
  checkBound of the reference (its cases made by a program).
  checkRows of the reference (its cases made by a program).
  CheckScene of the reference.
-/
import Derived.Test.YtngijlmokhkdjaaDoorTyRef3
import Derived.Test.YtngijlmokhkdjaaDoorTyScene
import Derived.Test.YtngijlmokhkdjaaDoorTxtRefChkB
namespace Go.Proofs.YtngijlmokhkdjaaDoor
open Go.RowKit

set_option maxRecDepth 100000 in
theorem rCheckRow_c (v : Value) (row : List Int) (a : Option Addr) (n c : Nat) (w : World) (h : IsL w v row) :
    Calls Tryd.prog 40 #[v, .slice a n c] w fun e w' => e = .returned (.int .i64 (rowS row n)) ∧ w' = w := by
  have HV := Lib.hid h
  have HW := Lib.hid (fun x w => rWithin_c x 1 999 w)
  obtain ⟨p, q, rfl, _⟩ := h.len
  clear h
  by_cases hn : row.length = n
  · have e : Hid (rowS row n = cNum row) := by unfold Hid rowS; rw [if_neg (by simpa using hn)]
    have t1 : ((row.length : Int) != (n : Int)) = false := by simp [hn]
    clear hn
    generalize rowS row n = R at e ⊢
    go_enter Tryd.func40, Tryd.ntmps40
    go_wp2_with fail
    go_loop [6, 14] (fun _ i => ∃ k : Nat, k ≤ row.length ∧ i = .int .i64 k ∧ Hid (∀ j, j < k → ¬ (row.getD j 0 < 1 ∨ 999 < row.getD j 0))) (fun _ i => row.length - (intOf i).toNat)
    case atStart => exact ⟨0, Nat.zero_le _, rfl, fun j h => absurd h (Nat.not_lt_zero j)⟩
    case round =>
      obtain ⟨k, hk, rfl, hE⟩ := hrel
      clear t1
      by_cases hlt : k < row.length
      · have hkk : (k : Int) < (row.length : Int) := by omega
        obtain ⟨b, off, e1, hbl, hc⟩ := HV.out.cells (by omega)
        subst e1
        have c1 := hc k hlt
        clear hc
        by_cases hb : row.getD k 0 < 1 ∨ 999 < row.getD k 0
        · have eR : Hid (R = 1) := by unfold Hid; rw [e.out]; unfold cNum; rw [if_pos ⟨k, hlt, hb⟩]
          generalize row.getD k 0 = x at c1 hb
          have hd : decide (1 ≤ x ∧ x ≤ 999) = false := by simp; omega
          have HW2 := Lib.hid (fun w => by have := HW.out x w; rw [hd] at this; exact this)
          clear hb hd
          go_wp2_with fail
          refine (HW2.out _).mono ?_
          rintro e w4 ⟨rfl, rfl⟩
          clear c1
          go_wp2
          go_ret
          exact ⟨ret_int eR.out.symm, rfl⟩
        · have hG : Hid (∀ j, j < k + 1 → ¬ (row.getD j 0 < 1 ∨ 999 < row.getD j 0)) := by
            intro j hjk
            rcases Nat.lt_or_ge j k with q | q
            · exact hE.out j q
            · obtain rfl : j = k := by omega
              exact hb
          generalize row.getD k 0 = x at c1 hb
          have hd : decide (1 ≤ x ∧ x ≤ 999) = true := by simp; omega
          have HW2 := Lib.hid (fun w => by have := HW.out x w; rw [hd] at this; exact this)
          clear hb hd
          go_wp2_with fail
          refine (HW2.out _).mono ?_
          rintro e w4 ⟨rfl, rfl⟩
          clear c1
          go_wp2
          go_round
          case rel => exact ⟨k + 1, by omega, by go_num, hG⟩
          case measure => simp [intOf]; omega
      · have eR : Hid (R = 0) := by unfold Hid; rw [e.out]; unfold cNum; rw [if_neg (fun ⟨j, hj, hb⟩ => hE.out j (by omega) hb)]
        go_wp2
        go_ret
        exact ⟨ret_int eR.out.symm, rfl⟩
  · have e : Hid (rowS row n = 3) := by unfold Hid rowS; rw [if_pos hn]
    have t1 : ((row.length : Int) != (n : Int)) = true := by simp; omega
    clear hn HV HW
    go_enter Tryd.func40, Tryd.ntmps40
    go_wp2
    go_ret
    exact ⟨ret_int e.out.symm, rfl⟩

theorem placeF_none {nm : ByteArray} : ∀ {C : List Cl} {k : Nat}, findC C nm = none → placeF nm C k = -1
  | [], _, _ => rfl
  | c :: r, k, h => by
    unfold findC at h
    rw [List.find?_cons] at h
    by_cases hn : c.nm = nm
    · simp [hn] at h
    · simp only [hn, decide_false] at h
      unfold placeF
      rw [if_neg hn]
      exact placeF_none h
theorem placeF_at {nm : ByteArray} {c : Cl} : ∀ {C : List Cl} {k : Nat}, findC C nm = some c → ∃ j : Nat, placeF nm C k = ((k + j : Nat) : Int) ∧ C[j]? = some c
  | [], _, h => by simp [findC] at h
  | x :: r, k, h => by
    unfold findC at h
    rw [List.find?_cons] at h
    by_cases hn : x.nm = nm
    · simp [hn] at h
      subst h
      exact ⟨0, by unfold placeF; rw [if_pos hn]; rfl, rfl⟩
    · simp only [hn, decide_false] at h
      obtain ⟨j, h1, h2⟩ := placeF_at (k := k + 1) h
      exact ⟨j + 1, by unfold placeF; rw [if_neg hn, h1]; congr 1; omega, by simpa using h2⟩

/-- What checkBound says of number k. -/
noncomputable def bAt (C : List Cl) (B : List Bd) (k : Nat) (x : Bd) : Int :=
  if boundS C x ≠ 0 then boundS C x else match ahead B k with
    | none => 0
    | some y => nextS (ordS y.nm y.row x.nm x.row)
/-- What checkRows says of number k. -/
noncomputable def rAt (L : List Ne) (R : List Ro) (k : Nat) (x : Ro) : Int :=
  if rowsS L x ≠ 0 then rowsS L x else match ahead R k with
    | none => 0
    | some y => nextS (ordS y.nm y.row x.nm x.row)
theorem boundsF_step {C : List Cl} {B : List Bd} {k : Nat} {x : Bd} (h : B[k]? = some x) : boundsF C (ahead B k) (B.drop k) = if bAt C B k x ≠ 0 then bAt C B k x else boundsF C (ahead B (k + 1)) (B.drop (k + 1)) := by
  rw [boundsF_drop h]
  unfold bAt
  by_cases h1 : boundS C x ≠ 0
  · simp only [if_pos h1]
  · simp only [if_neg h1]
    cases ahead B k with
    | none => simp
    | some y => rfl
theorem rowsF_step {L : List Ne} {R : List Ro} {k : Nat} {x : Ro} (h : R[k]? = some x) : rowsF L (ahead R k) (R.drop k) = if rAt L R k x ≠ 0 then rAt L R k x else rowsF L (ahead R (k + 1)) (R.drop (k + 1)) := by
  rw [rowsF_drop h]
  unfold rAt
  by_cases h1 : rowsS L x ≠ 0
  · simp only [if_pos h1]
  · simp only [if_neg h1]
    cases ahead R k with
    | none => simp
    | some y => rfl
/-- Two boxes: a scene, and one of its parts. -/
structure Bx (w : World) (T E : List Value) (W : World) : Prop where
  s : ∀ i, W.cell? ⟨w.heap.size, i, none⟩ = T[i]?
  e : ∀ i, W.cell? ⟨w.heap.size + 1, i, none⟩ = E[i]?
  bel : Below w.heap.size w W
  sz : w.heap.size + 2 ≤ W.heap.size
theorem Bx.keep {w W W' : World} {T E : List Value} (h : Bx w T E W) (hb : Below W.heap.size W W') : Bx w T E W' where
  s := fun i => by rw [hb.cell (p := ⟨w.heap.size, i, none⟩) (by have := h.sz; show w.heap.size < _; omega)]; exact h.s i
  e := fun i => by rw [hb.cell (p := ⟨w.heap.size + 1, i, none⟩) (by have := h.sz; show w.heap.size + 1 < _; omega)]; exact h.e i
  bel := h.bel.trans (hb.mono (by have := h.sz; omega))
  sz := Nat.le_trans h.sz hb.size
theorem Bx.start (w : World) (T E : List Value) (t1 t2 : TypeId) : Bx w T E ((w.alloc (.cells T.toArray t1)).alloc (.cells E.toArray t2)) where
  s := fun i => by rw [World.cell?_alloc_past _ _ _ (by simp), World.cell?_alloc_at _ _ _ _ rfl]; simp
  e := fun i => by rw [World.cell?_alloc_at _ _ _ _ (by simp)]; simp
  bel := ((Below.refl _ _).alloc (Nat.le_refl _) _).alloc (by simp) _
  sz := by simp
end Go.Proofs.YtngijlmokhkdjaaDoor

namespace Go.Proofs.YtngijlmokhkdjaaDoor
open Go.RowKit

set_option maxRecDepth 100000 in
set_option maxHeartbeats 8000000 in
theorem rCheckBound_c (w0 w : World) (aC aL aB aR : Option Addr) (cC cL cB cR nL nR : Nat) (C : List Cl) (B : List Bd) (k : Nat) (x : Bd) (hb : Below w0.heap.size w0 w) (hC : IsC w0 (.slice aC C.length cC) C) (hB : IsB w0 (.slice aB B.length cB) B) (hx : B[k]? = some x) (hFB : FineB B) (hnC : C.length ≤ 1048576) (hnB : B.length ≤ 1048576) :
    Calls Tryd.prog 16 #[.agg #[.slice aC C.length cC, .slice aL nL cL, .slice aB B.length cB, .slice aR nR cR], .int .i64 k] w fun e w' => e = .returned (.int .i64 (bAt C B k x)) ∧ Below w.heap.size w w' := by
  have hk : k < B.length := (List.getElem?_eq_some_iff.1 hx).1
  have HCA := Lib.hid (fun W (hW : Below w.heap.size w W) => cellAt_c W _ C x.nm (hC.below (hb.trans (hW.mono hb.size))) hnC)
  obtain ⟨_, _, e1, hC1⟩ := hC
  simp only [Value.slice.injEq] at e1
  obtain ⟨rfl, _, rfl⟩ := e1
  obtain ⟨_, _, e1, hB1⟩ := hB
  simp only [Value.slice.injEq] at e1
  obtain ⟨rfl, _, rfl⟩ := e1
  obtain ⟨b, off, rfl, hbl, hBs⟩ : ∃ b off, aB = some ⟨b, off, none⟩ ∧ b < w0.heap.size ∧ IsBs w0 b B off := by
    rcases hB1 with h | ⟨b, off, h1, h2, _, h3⟩
    · omega
    · exact ⟨b, off, h1, h2, h3⟩
  obtain ⟨rv, sv, g0, g1, g2, g3, g4, g5, g6, hr, hv⟩ := hBs.at hx
  have cc := fun (z : Nat) => (hb.alloc hb.size (.cells #[.slice aC C.length cC, .slice aL nL cL, .slice (some ⟨b, off, none⟩) B.length cB, .slice aR nR cR] 33)).cell (p := ⟨b, z, none⟩) hbl
  have HR := Lib.hid (fun W (hW : Below w.heap.size w W) a n c => rCheckRow_c rv x.row a n c W (hr.below (hb.trans (hW.mono hb.size))))
  have HV := Lib.hid (fun W (hW : Below w.heap.size w W) => refCheck_c x.vk x.vn x.vs sv x.vl W (hv.below (hb.trans (hW.mono hb.size))) (hFB x (List.mem_of_getElem? hx)).2)
  have HRX := Lib.hid (fun W (hW : Below w.heap.size w W) => hr.below (hb.trans (hW.mono hb.size)))
  obtain ⟨rp, rc, rfl, _⟩ := hr.len
  obtain ⟨sp, sc, rfl, _⟩ := hv.len
  have k0 := (cc _).trans g0
  have k1 := (cc _).trans g1
  have k2 := (cc _).trans g2
  have k3 := (cc _).trans g3
  have k4 := (cc _).trans g4
  have k5 := (cc _).trans g5
  have k6 := (cc _).trans g6
  have hkk : (k : Int) < (B.length : Int) := by omega
  have hk0 : (0 : Int) ≤ (k : Int) := by omega
  have HBS := Lib.hid hBs
  have HBL := Lib.hid hbl
  have HB0 := Lib.hid hb
  have HC1 := Lib.hid hC1
  have eA : Hid (bAt C B k x = if boundS C x ≠ 0 then boundS C x else match ahead B k with
    | none => 0
    | some y => nextS (ordS y.nm y.row x.nm x.row)) := rfl
  have eF : Hid (∀ p, boundS C x = p → p ≠ 0 → bAt C B k x = p) := fun p h h0 => by rw [eA.out, if_pos (by rw [h]; exact h0), h]
  have eG : Hid (boundS C x = 0 → bAt C B k x = match ahead B k with
    | none => 0
    | some y => nextS (ordS y.nm y.row x.nm x.row)) := fun h => by rw [eA.out, if_neg (by rw [h]; exact fun h => h rfl)]
  have hzn : (placeF x.nm C 0) < 1048577 := by
    cases hf : findC C x.nm with
    | none => rw [placeF_none hf]; decide
    | some c =>
      obtain ⟨j, h1, h2⟩ := placeF_at (k := 0) hf
      have := (List.getElem?_eq_some_iff.1 h2).1
      rw [h1]; omega
  clear g0 g1 g2 g3 g4 g5 g6 hBs hbl hb hC1 hr hv hFB cc hB1 eA
  have HBX : Hid (Bx w [.slice aC C.length cC, .slice aL nL cL, .slice (some ⟨b, off, none⟩) B.length cB, .slice aR nR cR] [.string x.nm, .slice rp x.row.length rc, .int .i64 x.vk, .int .i64 x.vn, .string x.vs, .slice sp x.vl.length sc, .bool x.asked] ((w.alloc (.cells #[.slice aC C.length cC, .slice aL nL cL, .slice (some ⟨b, off, none⟩) B.length cB, .slice aR nR cR] 33)).alloc (.cells #[.string x.nm, .slice rp x.row.length rc, .int .i64 x.vk, .int .i64 x.vn, .string x.vs, .slice sp x.vl.length sc, .bool x.asked] 75))) := Bx.start _ _ _ _ _
  generalize bAt C B k x = Z at eF eG ⊢
  go_enter Tryd.func16, Tryd.ntmps16
  go_wp2_with fail
  generalize ((w.alloc (.cells #[.slice aC C.length cC, .slice aL nL cL, .slice (some ⟨b, off, none⟩) B.length cB, .slice aR nR cR] 33)).alloc (.cells #[.string x.nm, .slice rp x.row.length rc, .int .i64 x.vk, .int .i64 x.vn, .string x.vs, .slice sp x.vl.length sc, .bool x.asked] 75)) = W1 at HBX ⊢
  have s0 := HBX.out.s 0
  have y0 := HBX.out.e 0
  simp only [List.getElem?_cons_zero, List.getElem?_cons_succ] at s0 y0
  clear k0 k1 k2 k3 k4 k5 k6
  go_wp2_with fail
  refine (HCA.out _ HBX.out.bel).mono ?_
  rintro e w2 ⟨rfl, hB2⟩
  have HB2 := Lib.hid (HBX.out.keep hB2)
  clear hB2 s0 y0 HBX
  cases hf : findC C x.nm with
  | none =>
    have eB : boundS C x = 5 := by unfold boundS; rw [hf]
    have eZ : Hid (Z = 5) := eF.out 5 eB (by decide)
    rw [placeF_none hf]
    clear hf eB eF eG hzn
    go_wp2
    go_ret
    exact ⟨ret_int eZ.out.symm, HB2.out.bel⟩
  | some c =>
    have eB : Hid (boundS C x = if rowS x.row c.lp.length ≠ 0 then rowS x.row c.lp.length else if cChk x.vk x.vn x.vs x.vl ≠ 0 then cChk x.vk x.vn x.vs x.vl else if x.vk ≠ 0 ∧ x.vk ≠ 1 ∧ x.vk ≠ c.kind then 8 else 0) := by unfold Hid boundS; rw [hf]
    obtain ⟨j, hj, hcj⟩ := placeF_at (k := 0) hf
    rw [Nat.zero_add] at hj
    rw [hj]
    have hjl := (List.getElem?_eq_some_iff.1 hcj).1
    obtain ⟨cb, co, rfl, hcb, hCs⟩ : ∃ b off, aC = some ⟨b, off, none⟩ ∧ b < w0.heap.size ∧ IsCs w0 b C off := by
      rcases HC1.out with h | ⟨b, off, h1, h2, _, h3⟩
      · omega
      · exact ⟨b, off, h1, h2, h3⟩
    obtain ⟨lv, g0, g1, g2, hi⟩ := hCs.at hcj
    obtain ⟨la, lc, rfl⟩ := hi.form
    have HCC : Hid (∀ W, Below w.heap.size w W → W.cell? ⟨cb, co + j * 3 + 1, none⟩ = some (.int .i64 c.kind) ∧ W.cell? ⟨cb, co + j * 3 + 2, none⟩ = some (.slice la c.lp.length lc)) := fun W hW => by
      have hz := HB0.out.trans (hW.mono HB0.out.size)
      exact ⟨(hz.cell (p := ⟨cb, _, none⟩) hcb).trans g1, (hz.cell (p := ⟨cb, _, none⟩) hcb).trans g2⟩
    have j0 : (0 : Int) ≤ (j : Int) := by omega
    have jl : (j : Int) < (C.length : Int) := by omega
    have jn : decide ((j : Int) < 0) = false := by simp
    clear hf hj hcj hCs hi g0 g1 g2 hcb hzn HC1
    obtain ⟨P, hP⟩ : ∃ P, P = rowS x.row c.lp.length := ⟨_, rfl⟩
    obtain ⟨Q, hQ⟩ : ∃ Q, Q = cChk x.vk x.vn x.vs x.vl := ⟨_, rfl⟩
    have HR2 := Lib.hid (fun W hW a cc => by have := HR.out W hW a c.lp.length cc; rw [← hP] at this; exact this)
    rw [← hQ] at HV
    rw [← hP, ← hQ] at eB
    clear hP hQ HR
    go_wp2_with fail
    refine wp_tail 8 (by kernel_rfl) (by kernel_rfl) ?_
    intro W hW
    have HB3 := Lib.hid (show Bx w _ _ W by rw [hW]; exact HB2.out.keep (Below.refl _ _).drew)
    have d0 := HB3.out.s 0
    have d1 := HB3.out.e 1
    simp only [List.getElem?_cons_zero, List.getElem?_cons_succ] at d0 d1
    obtain ⟨q1, q2⟩ := HCC.out _ HB3.out.bel
    clear hW HB2
    simp only [List.take_succ_cons, List.take_zero, List.drop_succ_cons, List.drop_zero]
    repeat still_step
    refine wpStill_nil ?_
    clear d0 d1 q1 q2
    have hR3 := Lib.hid (HR2.out _ HB3.out.bel)
    go_wp2_with fail
    refine (hR3.out _ _).mono ?_
    rintro e w3 ⟨rfl, rfl⟩
    clear hR3 HR2
    by_cases hP0 : P = 0
    · subst hP0
      have d2 := HB3.out.e 2
      have d3 := HB3.out.e 3
      have d4 := HB3.out.e 4
      have d5 := HB3.out.e 5
      simp only [List.getElem?_cons_zero, List.getElem?_cons_succ] at d2 d3 d4 d5
      go_wp2_with fail
      refine (HV.out _ HB3.out.bel).mono ?_
      rintro e w4 ⟨rfl, hB⟩
      have HB4 := Lib.hid (HB3.out.keep hB)
      clear hB d2 d3 d4 d5 HB3 HV
      by_cases hQ0 : Q = 0
      · subst hQ0
        have eB2 : Hid (boundS C x = if x.vk ≠ 0 ∧ x.vk ≠ 1 ∧ x.vk ≠ c.kind then 8 else 0) := eB.out.trans ((if_neg (fun h => h rfl)).trans (if_neg (fun h => h rfl)))
        obtain ⟨q1, q2⟩ := HCC.out _ HB4.out.bel
        have d0 := HB4.out.s 0
        have d2 := HB4.out.e 2
        simp only [List.getElem?_cons_zero, List.getElem?_cons_succ] at d0 d2
        clear eB q2
        by_cases h0 : x.vk = 0
        · have eX : boundS C x = 0 := eB2.out.trans (if_neg (fun h => h.1 h0))
          have t0 : (x.vk != 0) = false := by simp [h0]
          clear eB2 h0
          have eZ0 := Lib.hid (eG.out eX)
          clear eF eG eX
          by_cases hkz : k = 0
          · subst hkz
            have eZ : Hid (Z = 0) := eZ0.out
            clear eZ0 hx
            go_wp2_with fail
            go_quiet (fail)
            have HB5 : Hid (Below w.heap.size w (w4.drewN nq)) := below_drewN HB4.out.bel _
            clear d0 d2 q1
            go_wp2
            go_ret
            exact ⟨ret_int eZ.out.symm, HB5.out⟩
          · obtain ⟨m, rfl⟩ : ∃ m, k = m + 1 := ⟨k - 1, by omega⟩
            obtain ⟨y, hy⟩ : ∃ y, B[m]? = some y := ⟨B[m], List.getElem?_eq_getElem (by omega)⟩
            have eZ : Hid (Z = nextS (ordS y.nm y.row x.nm x.row)) := by unfold Hid; rw [eZ0.out, ahead_succ hy]
            have HCY := Lib.hid (HBS.out.at hy)
            clear eZ0 hy hx hkz
            have kj : (m : Int) < (B.length : Int) := by omega
            have kp : (0 : Int) < (m : Int) + 1 := by omega
            have kq : (((m : Int) + 1) == 0) = false := by simp; omega
            go_wp2_with fail
            go_quiet (fail)
            have HB5 : Hid (Bx w _ _ (w4.drewN nq)) := HB4.out.keep (below_drewN (Below.refl _ _) _)
            clear d0 d2 q1 HB4
            generalize w4.drewN nq = w5 at HB5 ⊢
            go_wp2_with fail
            have u3 : IntKind.i64.wrap ((m : Int) + 1 - 1) = (m : Int) := by rw [show (m : Int) + 1 - 1 = m by omega]; exact IntWalk.i64_in _ (by omega)
            have u4 : IntKind.i64.wrap (m : Int) = (m : Int) := IntWalk.i64_in _ (by omega)
            have u1 : (0 : Int) ≤ (m : Int) := by omega
            refine wp_tail 18 (by kernel_rfl) (by kernel_rfl) ?_
            intro W hW
            have HB6 := Lib.hid (show Bx w _ _ W by rw [hW]; exact HB5.out.keep (Below.refl _ _).drew)
            have c2 := HB6.out.s 2
            have d0 := HB6.out.e 0
            have d1 := HB6.out.e 1
            simp only [List.getElem?_cons_zero, List.getElem?_cons_succ] at c2 d0 d1
            obtain ⟨rv', sv', y0, y1, y2, y3, y4, y5, y6, hr', hv'⟩ := HCY.out
            obtain ⟨rp', rc', rfl, _⟩ := hr'.len
            have hz := HB0.out.trans (HB6.out.bel.mono HB0.out.size)
            have z0 := (hz.cell (p := ⟨b, _, none⟩) HBL.out).trans y0
            have z1 := (hz.cell (p := ⟨b, _, none⟩) HBL.out).trans y1
            have HBE := Lib.hid (behind_c x.nm y.nm _ _ x.row y.row W (HRX.out _ HB6.out.bel) (hr'.below hz))
            clear hW HB5 HCY y0 y1 y2 y3 y4 y5 y6 hr' hv' hz
            simp only [List.take_succ_cons, List.take_zero, List.drop_succ_cons, List.drop_zero]
            repeat still_step
            refine wpStill_nil ?_
            clear u1 u3 u4 c2 d0 d1 z0 z1
            go_wp2_with fail
            refine HBE.out.mono ?_
            rintro e w6 ⟨rfl, hB⟩
            have HB7 := Lib.hid (HB6.out.bel.trans (hB.mono HB6.out.bel.size))
            clear hB
            go_wp2
            go_ret
            exact ⟨ret_int eZ.out.symm, HB7.out⟩
        by_cases h1 : x.vk = 1
        · have eX : boundS C x = 0 := eB2.out.trans (if_neg (fun h => h.2.1 h1))
          have t0 : (x.vk != 0) = true := by simp [h0]
          have t1 : (x.vk != 1) = false := by simp [h1]
          clear eB2 h0 h1
          have eZ0 := Lib.hid (eG.out eX)
          clear eF eG eX
          by_cases hkz : k = 0
          · subst hkz
            have eZ : Hid (Z = 0) := eZ0.out
            clear eZ0 hx
            go_wp2_with fail
            go_quiet (fail)
            have HB5 : Hid (Below w.heap.size w (w4.drewN nq)) := below_drewN HB4.out.bel _
            clear d0 d2 q1
            go_wp2
            go_ret
            exact ⟨ret_int eZ.out.symm, HB5.out⟩
          · obtain ⟨m, rfl⟩ : ∃ m, k = m + 1 := ⟨k - 1, by omega⟩
            obtain ⟨y, hy⟩ : ∃ y, B[m]? = some y := ⟨B[m], List.getElem?_eq_getElem (by omega)⟩
            have eZ : Hid (Z = nextS (ordS y.nm y.row x.nm x.row)) := by unfold Hid; rw [eZ0.out, ahead_succ hy]
            have HCY := Lib.hid (HBS.out.at hy)
            clear eZ0 hy hx hkz
            have kj : (m : Int) < (B.length : Int) := by omega
            have kp : (0 : Int) < (m : Int) + 1 := by omega
            have kq : (((m : Int) + 1) == 0) = false := by simp; omega
            go_wp2_with fail
            go_quiet (fail)
            have HB5 : Hid (Bx w _ _ (w4.drewN nq)) := HB4.out.keep (below_drewN (Below.refl _ _) _)
            clear d0 d2 q1 HB4
            generalize w4.drewN nq = w5 at HB5 ⊢
            go_wp2_with fail
            have u3 : IntKind.i64.wrap ((m : Int) + 1 - 1) = (m : Int) := by rw [show (m : Int) + 1 - 1 = m by omega]; exact IntWalk.i64_in _ (by omega)
            have u4 : IntKind.i64.wrap (m : Int) = (m : Int) := IntWalk.i64_in _ (by omega)
            have u1 : (0 : Int) ≤ (m : Int) := by omega
            refine wp_tail 18 (by kernel_rfl) (by kernel_rfl) ?_
            intro W hW
            have HB6 := Lib.hid (show Bx w _ _ W by rw [hW]; exact HB5.out.keep (Below.refl _ _).drew)
            have c2 := HB6.out.s 2
            have d0 := HB6.out.e 0
            have d1 := HB6.out.e 1
            simp only [List.getElem?_cons_zero, List.getElem?_cons_succ] at c2 d0 d1
            obtain ⟨rv', sv', y0, y1, y2, y3, y4, y5, y6, hr', hv'⟩ := HCY.out
            obtain ⟨rp', rc', rfl, _⟩ := hr'.len
            have hz := HB0.out.trans (HB6.out.bel.mono HB0.out.size)
            have z0 := (hz.cell (p := ⟨b, _, none⟩) HBL.out).trans y0
            have z1 := (hz.cell (p := ⟨b, _, none⟩) HBL.out).trans y1
            have HBE := Lib.hid (behind_c x.nm y.nm _ _ x.row y.row W (HRX.out _ HB6.out.bel) (hr'.below hz))
            clear hW HB5 HCY y0 y1 y2 y3 y4 y5 y6 hr' hv' hz
            simp only [List.take_succ_cons, List.take_zero, List.drop_succ_cons, List.drop_zero]
            repeat still_step
            refine wpStill_nil ?_
            clear u1 u3 u4 c2 d0 d1 z0 z1
            go_wp2_with fail
            refine HBE.out.mono ?_
            rintro e w6 ⟨rfl, hB⟩
            have HB7 := Lib.hid (HB6.out.bel.trans (hB.mono HB6.out.bel.size))
            clear hB
            go_wp2
            go_ret
            exact ⟨ret_int eZ.out.symm, HB7.out⟩
        by_cases h2 : x.vk = c.kind
        · have eX : boundS C x = 0 := eB2.out.trans (if_neg (fun h => h.2.2 h2))
          have t0 : (x.vk != 0) = true := by simp [h0]
          have t1 : (x.vk != 1) = true := by simp [h1]
          have t2 : (x.vk != c.kind) = false := by simp [h2]
          clear eB2 h0 h1 h2
          have eZ0 := Lib.hid (eG.out eX)
          clear eF eG eX
          by_cases hkz : k = 0
          · subst hkz
            have eZ : Hid (Z = 0) := eZ0.out
            clear eZ0 hx
            go_wp2_with fail
            go_quiet (fail)
            have HB5 : Hid (Below w.heap.size w (w4.drewN nq)) := below_drewN HB4.out.bel _
            clear d0 d2 q1
            go_wp2
            go_ret
            exact ⟨ret_int eZ.out.symm, HB5.out⟩
          · obtain ⟨m, rfl⟩ : ∃ m, k = m + 1 := ⟨k - 1, by omega⟩
            obtain ⟨y, hy⟩ : ∃ y, B[m]? = some y := ⟨B[m], List.getElem?_eq_getElem (by omega)⟩
            have eZ : Hid (Z = nextS (ordS y.nm y.row x.nm x.row)) := by unfold Hid; rw [eZ0.out, ahead_succ hy]
            have HCY := Lib.hid (HBS.out.at hy)
            clear eZ0 hy hx hkz
            have kj : (m : Int) < (B.length : Int) := by omega
            have kp : (0 : Int) < (m : Int) + 1 := by omega
            have kq : (((m : Int) + 1) == 0) = false := by simp; omega
            go_wp2_with fail
            go_quiet (fail)
            have HB5 : Hid (Bx w _ _ (w4.drewN nq)) := HB4.out.keep (below_drewN (Below.refl _ _) _)
            clear d0 d2 q1 HB4
            generalize w4.drewN nq = w5 at HB5 ⊢
            go_wp2_with fail
            have u3 : IntKind.i64.wrap ((m : Int) + 1 - 1) = (m : Int) := by rw [show (m : Int) + 1 - 1 = m by omega]; exact IntWalk.i64_in _ (by omega)
            have u4 : IntKind.i64.wrap (m : Int) = (m : Int) := IntWalk.i64_in _ (by omega)
            have u1 : (0 : Int) ≤ (m : Int) := by omega
            refine wp_tail 18 (by kernel_rfl) (by kernel_rfl) ?_
            intro W hW
            have HB6 := Lib.hid (show Bx w _ _ W by rw [hW]; exact HB5.out.keep (Below.refl _ _).drew)
            have c2 := HB6.out.s 2
            have d0 := HB6.out.e 0
            have d1 := HB6.out.e 1
            simp only [List.getElem?_cons_zero, List.getElem?_cons_succ] at c2 d0 d1
            obtain ⟨rv', sv', y0, y1, y2, y3, y4, y5, y6, hr', hv'⟩ := HCY.out
            obtain ⟨rp', rc', rfl, _⟩ := hr'.len
            have hz := HB0.out.trans (HB6.out.bel.mono HB0.out.size)
            have z0 := (hz.cell (p := ⟨b, _, none⟩) HBL.out).trans y0
            have z1 := (hz.cell (p := ⟨b, _, none⟩) HBL.out).trans y1
            have HBE := Lib.hid (behind_c x.nm y.nm _ _ x.row y.row W (HRX.out _ HB6.out.bel) (hr'.below hz))
            clear hW HB5 HCY y0 y1 y2 y3 y4 y5 y6 hr' hv' hz
            simp only [List.take_succ_cons, List.take_zero, List.drop_succ_cons, List.drop_zero]
            repeat still_step
            refine wpStill_nil ?_
            clear u1 u3 u4 c2 d0 d1 z0 z1
            go_wp2_with fail
            refine HBE.out.mono ?_
            rintro e w6 ⟨rfl, hB⟩
            have HB7 := Lib.hid (HB6.out.bel.trans (hB.mono HB6.out.bel.size))
            clear hB
            go_wp2
            go_ret
            exact ⟨ret_int eZ.out.symm, HB7.out⟩
        have eZ : Hid (Z = 8) := eF.out 8 (eB2.out.trans (if_pos ⟨h0, h1, h2⟩)) (by decide)
        have t0 : (x.vk != 0) = true := by simp [h0]
        have t1 : (x.vk != 1) = true := by simp [h1]
        have t2 : (x.vk != c.kind) = true := by simp [h2]
        clear eB2 h0 h1 h2 eF eG
        go_wp2_with fail
        go_quiet (fail)
        have HB5 : Hid (Below w.heap.size w (w4.drewN nq)) := below_drewN HB4.out.bel _
        clear d0 d2 q1
        go_wp2
        go_ret
        exact ⟨ret_int eZ.out.symm, HB5.out⟩
      · have eZ : Hid (Z = Q) := eF.out Q (eB.out.trans ((if_neg (fun h => h rfl)).trans (if_pos hQ0))) hQ0
        have q1 : (Q != 0) = true := by simpa using hQ0
        clear eF eG eB hQ0
        go_wp2
        go_ret
        exact ⟨ret_int eZ.out.symm, HB4.out.bel⟩
    · have eZ : Hid (Z = P) := eF.out P (eB.out.trans (if_pos hP0)) hP0
      have q1 : (P != 0) = true := by simpa using hP0
      clear eF eG eB hP0
      go_wp2
      go_ret
      exact ⟨ret_int eZ.out.symm, HB3.out.bel⟩
end Go.Proofs.YtngijlmokhkdjaaDoor

namespace Go.Proofs.YtngijlmokhkdjaaDoor
open Go.RowKit

set_option maxRecDepth 100000 in
set_option maxHeartbeats 8000000 in
theorem rCheckRows_c (w0 w : World) (aC aL aB aR : Option Addr) (cC cL cB cR nC nB : Nat) (L : List Ne) (R : List Ro) (k : Nat) (x : Ro) (hb : Below w0.heap.size w0 w) (hL : IsM w0 (.slice aL L.length cL) L) (hR : IsR w0 (.slice aR R.length cR) R) (hx : R[k]? = some x) (hnL : L.length ≤ 1048576) (hnR : R.length ≤ 1048576) :
    Calls Tryd.prog 17 #[.agg #[.slice aC nC cC, .slice aL L.length cL, .slice aB nB cB, .slice aR R.length cR], .int .i64 k] w fun e w' => e = .returned (.int .i64 (rAt L R k x)) ∧ Below w.heap.size w w' := by
  have hk : k < R.length := (List.getElem?_eq_some_iff.1 hx).1
  have HNE := Lib.hid (fun W (hW : Below w.heap.size w W) => nest_c w0 W (.slice none 0 0) _ L x.nm (hb.trans (hW.mono hb.size)) hL hnL)
  obtain ⟨_, _, e1, hR1⟩ := hR
  simp only [Value.slice.injEq] at e1
  obtain ⟨rfl, _, rfl⟩ := e1
  obtain ⟨b, off, rfl, hbl, hRs⟩ : ∃ b off, aR = some ⟨b, off, none⟩ ∧ b < w0.heap.size ∧ IsRs w0 b R off := by
    rcases hR1 with h | ⟨b, off, h1, h2, _, h3⟩
    · omega
    · exact ⟨b, off, h1, h2, h3⟩
  obtain ⟨rv, nv, g0, g1, g2, hr, hv⟩ := hRs.at hx
  have cc := fun (z : Nat) => (hb.alloc hb.size (.cells #[.slice aC nC cC, .slice aL L.length cL, .slice aB nB cB, .slice (some ⟨b, off, none⟩) R.length cR] 33)).cell (p := ⟨b, z, none⟩) hbl
  have HRR := Lib.hid (fun W (hW : Below w.heap.size w W) a n c => rCheckRow_c rv x.row a n c W (hr.below (hb.trans (hW.mono hb.size))))
  have HRX := Lib.hid (fun W (hW : Below w.heap.size w W) => hr.below (hb.trans (hW.mono hb.size)))
  have HNX := Lib.hid (fun W (hW : Below w.heap.size w W) => hv.below (hb.trans (hW.mono hb.size)))
  have HWI := Lib.hid (fun n w => rWithin_c n 1 999 w)
  obtain ⟨rp, rc, rfl, _⟩ := hr.len
  obtain ⟨np, nc, rfl, hnl⟩ := hv.len
  have k0 := (cc _).trans g0
  have k1 := (cc _).trans g1
  have k2 := (cc _).trans g2
  have hkk : (k : Int) < (R.length : Int) := by omega
  have hk0 : (0 : Int) ≤ (k : Int) := by omega
  have HRS := Lib.hid hRs
  have HBL := Lib.hid hbl
  have HB0 := Lib.hid hb
  have eA : Hid (rAt L R k x = if rowsS L x ≠ 0 then rowsS L x else match ahead R k with
    | none => 0
    | some y => nextS (ordS y.nm y.row x.nm x.row)) := rfl
  have eF : Hid (∀ p, rowsS L x = p → p ≠ 0 → rAt L R k x = p) := fun p h h0 => by rw [eA.out, if_pos (by rw [h]; exact h0), h]
  have eG : Hid (rowsS L x = 0 → rAt L R k x = match ahead R k with
    | none => 0
    | some y => nextS (ordS y.nm y.row x.nm x.row)) := fun h => by rw [eA.out, if_neg (by rw [h]; exact fun h => h rfl)]
  clear g0 g1 g2 hRs hbl hb hr hv cc hR1 eA hL
  have HBX : Hid (Bx w [.slice aC nC cC, .slice aL L.length cL, .slice aB nB cB, .slice (some ⟨b, off, none⟩) R.length cR] [.string x.nm, .slice rp x.row.length rc, .slice np x.nums.length nc] ((w.alloc (.cells #[.slice aC nC cC, .slice aL L.length cL, .slice aB nB cB, .slice (some ⟨b, off, none⟩) R.length cR] 33)).alloc (.cells #[.string x.nm, .slice rp x.row.length rc, .slice np x.nums.length nc] 80))) := Bx.start _ _ _ _ _
  generalize rAt L R k x = Z at eF eG ⊢
  go_enter Tryd.func17, Tryd.ntmps17
  go_wp2_with fail
  generalize ((w.alloc (.cells #[.slice aC nC cC, .slice aL L.length cL, .slice aB nB cB, .slice (some ⟨b, off, none⟩) R.length cR] 33)).alloc (.cells #[.string x.nm, .slice rp x.row.length rc, .slice np x.nums.length nc] 80)) = W1 at HBX ⊢
  have s0 := HBX.out.s 1
  have y0 := HBX.out.e 0
  simp only [List.getElem?_cons_zero, List.getElem?_cons_succ] at s0 y0
  clear k0 k1 k2
  go_wp2_with fail
  refine (HNE.out _ HBX.out.bel).mono ?_
  rintro e w2 ⟨hB2, hcase⟩
  have HB2 := Lib.hid (HBX.out.keep hB2)
  clear s0 y0
  rcases hcase with ⟨hf, rfl⟩ | ⟨nb, no, l, lv, hf, rfl, hnb, n0, n1, hN1⟩
  · have eZ : Hid (Z = 5) := eF.out 5 (by unfold rowsS; rw [hf]) (by decide)
    clear hf eF eG hB2 HBX
    go_wp2
    go_ret
    exact ⟨ret_int eZ.out.symm, HB2.out.bel⟩
  · have eB : Hid (rowsS L x = if rowS x.row l.lp.length ≠ 0 then rowS x.row l.lp.length else numsF none x.nums) := by unfold Hid rowsS; rw [hf]
    have HNN : Hid (∀ W, Below w2.heap.size w2 W → W.cell? ⟨nb, no + 1, none⟩ = some lv) := fun W hW => by
      rw [(hB2.trans (hW.mono hB2.size)).cell (p := ⟨nb, no + 1, none⟩) hnb]; exact n1
    obtain ⟨la, lc, rfl⟩ := hN1.form
    clear hf hB2 hnb n0 n1 hN1 HBX
    obtain ⟨P, hP⟩ : ∃ P, P = rowS x.row l.lp.length := ⟨_, rfl⟩
    have HR2 := Lib.hid (fun W hW a cc => by have := HRR.out W hW a l.lp.length cc; rw [← hP] at this; exact this)
    rw [← hP] at eB
    clear hP HRR
    go_wp2_with fail
    refine wp_tail 6 (by kernel_rfl) (by kernel_rfl) ?_
    intro W hW
    have HB3 := Lib.hid (show Bx w _ _ W by rw [hW]; exact HB2.out.keep (Below.refl _ _).drew)
    have d1 := HB3.out.e 1
    simp only [List.getElem?_cons_zero, List.getElem?_cons_succ] at d1
    have q2 := HNN.out W (by rw [hW]; exact (Below.refl _ _).drew)
    clear hW HB2 HNN
    simp only [List.take_succ_cons, List.take_zero, List.drop_succ_cons, List.drop_zero]
    repeat still_step
    refine wpStill_nil ?_
    clear d1 q2
    have hR3 := Lib.hid (HR2.out _ HB3.out.bel)
    go_wp2_with fail
    refine (hR3.out _ _).mono ?_
    rintro e w4 ⟨rfl, rfl⟩
    clear hR3 HR2
    by_cases hP0 : P = 0
    · subst hP0
      have eB2 : Hid (rowsS L x = numsF (ahead x.nums 0) (x.nums.drop 0)) := eB.out.trans (if_neg (fun h => h rfl))
      have d2 := HB3.out.e 2
      simp only [List.getElem?_cons_zero, List.getElem?_cons_succ] at d2
      have HNW := Lib.hid (HNX.out _ HB3.out.bel)
      have HB4 := Lib.hid HB3.out
      clear eB HB3
      obtain ⟨Y, hY⟩ : ∃ Y, Y = rowsS L x := ⟨_, rfl⟩
      rw [← hY] at eB2 eF eG
      clear hY
      go_wp2_with fail
      go_loop [8, 9, 36, 41, 45] (fun _ _ i _ _ => ∃ k : Nat, k ≤ x.nums.length ∧ i = .int .i64 k ∧ Hid (Y = numsF (ahead x.nums k) (x.nums.drop k))) (fun _ _ i _ _ => x.nums.length - (intOf i).toNat)
      case atStart => exact ⟨0, Nat.zero_le _, rfl, eB2.out⟩
      case round =>
        obtain ⟨i, hi, rfl, hA⟩ := hrel
        clear eB2
        have hS := Lib.hid True.intro
        by_cases hlt : i < x.nums.length
        · have hii : (i : Int) < (x.nums.length : Int) := by omega
          obtain ⟨xb, xo, e1, hxb, hc⟩ := HNW.out.cells (by omega)
          subst e1
          obtain ⟨z, hz⟩ : ∃ z, x.nums[i]? = some z := ⟨x.nums[i], List.getElem?_eq_getElem hlt⟩
          have hzd : x.nums.getD i 0 = z := by rw [List.getD_eq_getElem?_getD, hz]; rfl
          have c1 := hc i hlt
          rw [hzd] at c1
          have hE := hA.out.trans (numsF_drop hz)
          clear hz hzd
          by_cases hbad : z < 1 ∨ 999 < z
          · have eZ : Hid (Z = 1) := eF.out 1 (hE.trans (if_pos hbad)) (by decide)
            have hd : decide (1 ≤ z ∧ z ≤ 999) = false := by simp; omega
            have HW2 := Lib.hid (fun w => by have := HWI.out z w; rw [hd] at this; exact this)
            clear hE hA hc hbad hd eF eG hS
            go_wp2_with fail
            refine (HW2.out _).mono ?_
            rintro e w5 ⟨rfl, rfl⟩
            clear c1 d2
            go_wp2
            go_ret
            exact ⟨ret_int eZ.out.symm, HB4.out.bel⟩
          · have hE2 := hE.trans (if_neg hbad)
            have hd : decide (1 ≤ z ∧ z ≤ 999) = true := by simp; omega
            have HW2 := Lib.hid (fun w => by have := HWI.out z w; rw [hd] at this; exact this)
            clear hE hbad hd
            by_cases hi0 : i = 0
            · subst hi0
              have eR : Hid (Y = numsF (ahead x.nums (0 + 1)) (x.nums.drop (0 + 1))) := hE2.trans (if_neg (by omega))
              rw [Nat.add_zero] at c1
              clear hE2 hA hc hS
              go_wp2_with fail
              refine (HW2.out _).mono ?_
              rintro e w5 ⟨rfl, rfl⟩
              go_wp2
              go_round
              case rel => exact ⟨0 + 1, by omega, by go_num, eR.out⟩
              case measure => simp [intOf]; omega
            · have c2 := hc (i - 1) (by omega)
              obtain ⟨u, hu⟩ : ∃ u, u = x.nums.getD (i - 1) 0 := ⟨_, rfl⟩
              rw [← hu] at c2 hE2
              clear hu hc
              obtain ⟨j, rfl⟩ : ∃ j, i = j + 1 := ⟨i - 1, by omega⟩
              rw [Nat.add_sub_cancel] at c2
              have j0 : (0 : Int) < ((j : Int) + 1) := by omega
              have kj : j < x.nums.length := by omega
              have kji : (j : Int) < (x.nums.length : Int) := by omega
              by_cases hle : z ≤ u
              · have eZ : Hid (Z = 7) := eF.out 7 (hE2.trans (if_pos ⟨by omega, hle⟩)) (by decide)
                have d3 : decide (z ≤ u) = true := by simpa using hle
                clear hE2 hA hi0 hle eF eG hS
                go_wp2_with fail
                refine (HW2.out _).mono ?_
                rintro e w5 ⟨rfl, rfl⟩
                go_wp2
                go_ret
                exact ⟨ret_int eZ.out.symm, HB4.out.bel⟩
              · have eR : Hid (Y = numsF (ahead x.nums (j + 1 + 1)) (x.nums.drop (j + 1 + 1))) := hE2.trans (if_neg (fun h => hle h.2))
                have d3 : decide (z ≤ u) = false := by simpa using hle
                clear hE2 hA hi0 hle hS
                go_wp2_with fail
                refine (HW2.out _).mono ?_
                rintro e w5 ⟨rfl, rfl⟩
                go_wp2
                go_round
                case rel => exact ⟨j + 1 + 1, by omega, by first | go_num | (congr 1), eR.out⟩
                case measure => simp [intOf]; omega
        · obtain rfl : i = x.nums.length := by omega
          have eX : Hid (Y = 0) := by unfold Hid; rw [hA.out, List.drop_length]; cases ahead x.nums x.nums.length <;> rfl
          clear d2
          have eZ0 := Lib.hid (eG.out eX.out)
          clear eF eG eX hA hS
          by_cases hkz : k = 0
          · subst hkz
            have eZ : Hid (Z = 0) := eZ0.out
            clear eZ0 hx
            go_wp2
            go_ret
            exact ⟨ret_int eZ.out.symm, HB4.out.bel⟩
          · obtain ⟨m, rfl⟩ : ∃ m, k = m + 1 := ⟨k - 1, by omega⟩
            obtain ⟨y, hy⟩ : ∃ y, R[m]? = some y := ⟨R[m], List.getElem?_eq_getElem (by omega)⟩
            have eZ : Hid (Z = nextS (ordS y.nm y.row x.nm x.row)) := by unfold Hid; rw [eZ0.out, ahead_succ hy]
            have HCY := Lib.hid (HRS.out.at hy)
            clear eZ0 hy hx hkz
            have kj : (m : Int) < (R.length : Int) := by omega
            have kp : (0 : Int) < (m : Int) + 1 := by omega
            have kq : (((m : Int) + 1) == 0) = false := by simp; omega
            go_wp2_with fail
            have u3 : IntKind.i64.wrap ((m : Int) + 1 - 1) = (m : Int) := by rw [show (m : Int) + 1 - 1 = m by omega]; exact IntWalk.i64_in _ (by omega)
            have u4 : IntKind.i64.wrap (m : Int) = (m : Int) := IntWalk.i64_in _ (by omega)
            have u1 : (0 : Int) ≤ (m : Int) := by omega
            refine wp_tail 18 (by kernel_rfl) (by kernel_rfl) ?_
            intro W hW
            have HB6 := Lib.hid (show Bx w _ _ W by rw [hW]; exact HB4.out.keep (Below.refl _ _).drew)
            have c2 := HB6.out.s 3
            have d0 := HB6.out.e 0
            have d1 := HB6.out.e 1
            simp only [List.getElem?_cons_zero, List.getElem?_cons_succ] at c2 d0 d1
            obtain ⟨rv', nv', y0, y1, y2, hr', hv'⟩ := HCY.out
            obtain ⟨rp', rc', rfl, _⟩ := hr'.len
            have hz := HB0.out.trans (HB6.out.bel.mono HB0.out.size)
            have z0 := (hz.cell (p := ⟨b, _, none⟩) HBL.out).trans y0
            have z1 := (hz.cell (p := ⟨b, _, none⟩) HBL.out).trans y1
            have HBE := Lib.hid (behind_c x.nm y.nm _ _ x.row y.row W (HRX.out _ HB6.out.bel) (hr'.below hz))
            clear hW HB4 HCY y0 y1 y2 hr' hv' hz
            simp only [List.take_succ_cons, List.take_zero, List.drop_succ_cons, List.drop_zero]
            repeat still_step
            refine wpStill_nil ?_
            clear u1 u3 u4 c2 d0 d1 z0 z1
            go_wp2_with fail
            refine HBE.out.mono ?_
            rintro e w6 ⟨rfl, hB⟩
            have HB7 := Lib.hid (HB6.out.bel.trans (hB.mono HB6.out.bel.size))
            clear hB
            go_wp2
            go_ret
            exact ⟨ret_int eZ.out.symm, HB7.out⟩
    · have eZ : Hid (Z = P) := eF.out P (eB.out.trans (if_pos hP0)) hP0
      have q1 : (P != 0) = true := by simpa using hP0
      clear eF eG eB hP0
      go_wp2
      go_ret
      exact ⟨ret_int eZ.out.symm, HB3.out.bel⟩
end Go.Proofs.YtngijlmokhkdjaaDoor

namespace Go.Proofs.YtngijlmokhkdjaaDoor
open Go.RowKit

/-- A box: a scene. -/
structure Sx (w : World) (T : List Value) (W : World) : Prop where
  s : ∀ i, W.cell? ⟨w.heap.size, i, none⟩ = T[i]?
  bel : Below w.heap.size w W
  sz : w.heap.size < W.heap.size
theorem Sx.keep {w W W' : World} {T : List Value} (h : Sx w T W) (hb : Below W.heap.size W W') : Sx w T W' where
  s := fun i => by rw [hb.cell (p := ⟨w.heap.size, i, none⟩) h.sz]; exact h.s i
  bel := h.bel.trans (hb.mono (Nat.le_of_lt h.sz))
  sz := Nat.lt_of_lt_of_le h.sz hb.size
theorem Sx.start (w : World) (T : List Value) (t : TypeId) : Sx w T (w.alloc (.cells T.toArray t)) where
  s := fun i => by rw [World.cell?_alloc_at _ _ _ _ rfl]; simp
  bel := (Below.refl _ _).alloc (Nat.le_refl _) _
  sz := by simp
set_option maxRecDepth 100000 in
set_option maxHeartbeats 8000000 in
theorem rCheckScene_c (w0 w : World) (vC vL vB vR : Value) (C : List Cl) (L : List Ne) (B : List Bd) (R : List Ro) (hE : Env w0) (hb : Below w0.heap.size w0 w) (hC : IsC w0 vC C) (hL : IsM w0 vL L) (hB : IsB w0 vB B) (hR : IsR w0 vR R)
    (hFC : FineC C) (hFL : FineL L) (hFB : FineB B) (hnC : C.length ≤ 1048576) (hnL : L.length ≤ 1048576) (hnB : B.length ≤ 1048576) (hnR : R.length ≤ 1048576) :
    Calls Tryd.prog 7 #[.agg #[vC, vL, vB, vR]] w fun e w' => e = .returned (.int .i64 (sceneS C L B R)) ∧ Below w.heap.size w w' := by
  have HS := Lib.hid (fun W (hW : Below w0.heap.size w0 W) => check_c1 w0 W vC vL C L hW hC hL hE hFC hFL hnC hnL)
  have hC0 := hC
  have hL0 := hL
  have hB0 := hB
  have hR0 := hR
  obtain ⟨aC, cC, rfl, _⟩ := hC
  obtain ⟨aL, cL, rfl, _⟩ := hL
  obtain ⟨aB, cB, rfl, _⟩ := hB
  obtain ⟨aR, cR, rfl, _⟩ := hR
  have HBO := Lib.hid (fun k x (hx : B[k]? = some x) W (hW : Below w0.heap.size w0 W) => rCheckBound_c w0 W aC aL aB aR cC cL cB cR L.length R.length C B k x hW hC0 hB0 hx hFB hnC hnB)
  have HRO := Lib.hid (fun k x (hx : R[k]? = some x) W (hW : Below w0.heap.size w0 W) => rCheckRows_c w0 W aC aL aB aR cC cL cB cR C.length B.length L R k x hW hL0 hR0 hx hnL hnR)
  have HB0 := Lib.hid hb
  clear hC0 hL0 hB0 hR0 hFC hFL hFB hE hb
  have HSX : Hid (Sx w [.slice aC C.length cC, .slice aL L.length cL, .slice aB B.length cB, .slice aR R.length cR] (w.alloc (.cells #[.slice aC C.length cC, .slice aL L.length cL, .slice aB B.length cB, .slice aR R.length cR] 33))) := Sx.start _ _ _
  obtain ⟨S, hS⟩ : ∃ S, S = sightS C L := ⟨_, rfl⟩
  have HSE := Lib.hid hS
  rw [← hS] at HS
  clear hS
  obtain ⟨Y, hY⟩ : ∃ Y, Y = sceneS C L B R := ⟨_, rfl⟩
  rw [← hY]
  have HY := Lib.hid hY
  clear hY
  go_enter Tryd.func7, Tryd.ntmps7
  go_wp2_with fail
  generalize w.alloc (.cells #[.slice aC C.length cC, .slice aL L.length cL, .slice aB B.length cB, .slice aR R.length cR] 33) = W1 at HSX ⊢
  have s0 := HSX.out.s 0
  have s1 := HSX.out.s 1
  simp only [List.getElem?_cons_zero, List.getElem?_cons_succ] at s0 s1
  go_wp2_with fail
  refine (HS.out _ (HB0.out.trans (HSX.out.bel.mono HB0.out.size))).mono ?_
  rintro e w2 ⟨rfl, hB⟩
  have HS2 := Lib.hid (HSX.out.keep hB)
  clear hB s0 s1 HSX HS
  by_cases hS0 : S = 0
  · subst hS0
    have s2 := HS2.out.s 2
    have s3 := HS2.out.s 3
    simp only [List.getElem?_cons_zero, List.getElem?_cons_succ] at s2 s3
    by_cases hlB : 20000 < B.length
    · have eF : Hid (Y = 2) := HY.out.trans <| scene_large HSE.out.symm (.inl hlB)
      have t1 : (20000 : Int) < (B.length : Int) := by omega
      clear hlB
      go_wp2
      go_ret
      exact ⟨ret_int eF.out.symm, HS2.out.bel⟩
    · have t1 : decide ((20000 : Int) < (B.length : Int)) = false := by simp; omega
      by_cases hlR : 20000 < R.length
      · have eF : Hid (Y = 2) := HY.out.trans <| scene_large HSE.out.symm (.inr hlR)
        have t2 : (20000 : Int) < (R.length : Int) := by omega
        clear hlR hlB
        go_wp2
        go_ret
        exact ⟨ret_int eF.out.symm, HS2.out.bel⟩
      · have t2 : decide ((20000 : Int) < (R.length : Int)) = false := by simp; omega
        have hS0 := scene_on (B := B) (R := R) HSE.out.symm (fun h => by omega)
        have EZ : Hid (∀ {p}, boundsF C none B = p → p ≠ 0 → Y = p) := fun {p} h hp => by rw [HY.out, hS0, if_pos (by rw [h]; exact hp), h]
        have ER : Hid (boundsF C none B = 0 → Y = rowsF L none R) := fun h => by rw [HY.out, hS0, if_neg (by rw [h]; exact fun h => h rfl)]
        have HZ0 : Hid (boundsF C none B = boundsF C (ahead B 0) (B.drop 0)) := rfl
        clear hlR hlB hS0
        go_wp2_with fail
        clear s2 s3 t1 t2
        generalize boundsF C none B = Z at HZ0 EZ ER
        go_loopw [4, 5, 30] (fun _ _ i wr => ∃ k : Nat, k ≤ B.length ∧ i = .int .i64 k ∧ Hid (Sx w [.slice aC C.length cC, .slice aL L.length cL, .slice aB B.length cB, .slice aR R.length cR] wr) ∧ Hid (Z = boundsF C (ahead B k) (B.drop k))) (fun _ _ i _ => B.length - (intOf i).toNat)
        case atStart => exact ⟨0, Nat.zero_le _, rfl, HS2.out, HZ0.out⟩
        case round =>
          obtain ⟨k, hk, rfl, hS, hA⟩ := hrel
          clear HS2 HZ0
          have s0 := hS.out.s 0
          have s1 := hS.out.s 1
          have s2 := hS.out.s 2
          have s3 := hS.out.s 3
          simp only [List.getElem?_cons_zero, List.getElem?_cons_succ] at s0 s1 s2 s3
          by_cases hlt : k < B.length
          · have hkk : (k : Int) < (B.length : Int) := by omega
            obtain ⟨c, hc⟩ : ∃ c, B[k]? = some c := ⟨B[k], List.getElem?_eq_getElem hlt⟩
            have hBO := Lib.hid (HBO.out k c hc wr (HB0.out.trans (hS.out.bel.mono HB0.out.size)))
            have hE := hA.out.trans (boundsF_step hc)
            clear hA hc
            obtain ⟨f, hf⟩ : ∃ f, f = bAt C B k c := ⟨_, rfl⟩
            rw [← hf] at hE hBO
            clear hf
            by_cases hf0 : f = 0
            · subst hf0
              have eN : Hid (Z = boundsF C (ahead B (k + 1)) (B.drop (k + 1))) := hE.trans (if_neg (fun h => h rfl))
              clear hE
              go_wp2_with fail
              refine hBO.out.mono ?_
              rintro e w4 ⟨rfl, hB⟩
              have hS4 := Lib.hid (hS.out.keep hB)
              clear hB hS s0 s1 s2 s3 hBO
              go_wp2
              go_roundw
              case rel => exact ⟨k + 1, by omega, by go_num, hS4.out, eN.out⟩
              case measure => simp [intOf]; omega
            · have eZ : Hid (Y = f) := EZ.out (hE.trans (if_pos hf0)) hf0
              have q1 : (f != 0) = true := by simpa using hf0
              clear hE hf0
              go_wp2_with fail
              refine hBO.out.mono ?_
              rintro e w4 ⟨rfl, hB⟩
              have hS4 := Lib.hid (hS.out.keep hB)
              clear hB hS s0 s1 s2 s3 hBO
              go_wp2
              go_ret
              exact ⟨ret_int eZ.out.symm, hS4.out.bel⟩
          · obtain rfl : k = B.length := by omega
            have hZ : Hid (Z = 0) := by unfold Hid; rw [hA.out, List.drop_length]; cases ahead B B.length <;> rfl
            have eY : Hid (Y = rowsF L (ahead R 0) (R.drop 0)) := ER.out hZ.out
            have HST := Lib.hid hS.out
            clear hA hS ER EZ s0 s1 s2
            go_wp2_with fail
            clear s3
            go_loopw [6, 7, 43] (fun _ _ i wr => ∃ k : Nat, k ≤ R.length ∧ i = .int .i64 k ∧ Hid (Sx w [.slice aC C.length cC, .slice aL L.length cL, .slice aB B.length cB, .slice aR R.length cR] wr) ∧ Hid (Y = rowsF L (ahead R k) (R.drop k))) (fun _ _ i _ => R.length - (intOf i).toNat)
            case atStart => exact ⟨0, Nat.zero_le _, rfl, HST.out, eY.out⟩
            case round =>
              obtain ⟨k, hk, rfl, hS, hA⟩ := hrel
              clear HST eY
              have s0 := hS.out.s 0
              have s1 := hS.out.s 1
              have s2 := hS.out.s 2
              have s3 := hS.out.s 3
              simp only [List.getElem?_cons_zero, List.getElem?_cons_succ] at s0 s1 s2 s3
              by_cases hlt : k < R.length
              · have hkk : (k : Int) < (R.length : Int) := by omega
                obtain ⟨c, hc⟩ : ∃ c, R[k]? = some c := ⟨R[k], List.getElem?_eq_getElem hlt⟩
                have hBO := Lib.hid (HRO.out k c hc wr (HB0.out.trans (hS.out.bel.mono HB0.out.size)))
                have hE := hA.out.trans (rowsF_step hc)
                clear hA hc
                obtain ⟨f, hf⟩ : ∃ f, f = rAt L R k c := ⟨_, rfl⟩
                rw [← hf] at hE hBO
                clear hf
                by_cases hf0 : f = 0
                · subst hf0
                  have eN : Hid (Y = rowsF L (ahead R (k + 1)) (R.drop (k + 1))) := hE.trans (if_neg (fun h => h rfl))
                  clear hE
                  go_wp2_with fail
                  refine hBO.out.mono ?_
                  rintro e w4 ⟨rfl, hB⟩
                  have hS4 := Lib.hid (hS.out.keep hB)
                  clear hB hS s0 s1 s2 s3 hBO
                  go_wp2
                  go_roundw
                  case rel => exact ⟨k + 1, by omega, by go_num, hS4.out, eN.out⟩
                  case measure => simp [intOf]; omega
                · have eZ : Hid (Y = f) := hE.trans (if_pos hf0)
                  have q1 : (f != 0) = true := by simpa using hf0
                  clear hE hf0
                  go_wp2_with fail
                  refine hBO.out.mono ?_
                  rintro e w4 ⟨rfl, hB⟩
                  have hS4 := Lib.hid (hS.out.keep hB)
                  clear hB hS s0 s1 s2 s3 hBO
                  go_wp2
                  go_ret
                  exact ⟨ret_int eZ.out.symm, hS4.out.bel⟩
              · obtain rfl : k = R.length := by omega
                have eZ : Hid (Y = 0) := by unfold Hid; rw [hA.out, List.drop_length]; cases ahead R R.length <;> rfl
                have HST := Lib.hid hS.out
                clear hA hS s0 s1 s2 s3
                go_wp2
                go_ret
                exact ⟨ret_int eZ.out.symm, HST.out.bel⟩
  · have eF : Hid (Y = S) := by unfold Hid; rw [HY.out, scene_sight (by rw [← HSE.out]; exact hS0), ← HSE.out]
    have q1 : (S != 0) = true := by simpa using hS0
    clear hS0
    go_wp2
    go_ret
    exact ⟨ret_int eF.out.symm, HS2.out.bel⟩
end Go.Proofs.YtngijlmokhkdjaaDoor
