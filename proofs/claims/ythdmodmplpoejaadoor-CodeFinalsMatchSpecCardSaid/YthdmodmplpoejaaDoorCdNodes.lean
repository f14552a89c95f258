/-
  Package code: checkNodes.
-/
import Derived.Test.YthdmodmplpoejaaDoorCdChk
namespace Go.Proofs.YthdmodmplpoejaaDoor
open Go.RowKit Go.WideMaps Go.Maps

/-- What lies there in the loop of checkNodes. -/
structure InK (w wr : World) (bb : Nat) (l : List Nd) (k : Nat) : Prop where
  kn : KnIs wr w.heap.size l k
  box : wr.cell? ⟨bb, 0, none⟩ = some (.map (some w.heap.size))
  bel : Below w.heap.size w wr
  gt : w.heap.size < bb
  lt : bb < wr.heap.size
theorem InK.keep {w wr W : World} {bb : Nat} {l : List Nd} {k : Nat} (h : InK w wr bb l k) (hb : Below wr.heap.size wr W) : InK w W bb l k where
  kn := h.kn.below hb (Nat.lt_trans h.gt h.lt)
  box := (hb.cell (p := ⟨bb, 0, none⟩) h.lt).trans h.box
  bel := h.bel.trans (hb.mono h.bel.size)
  gt := h.gt
  lt := Nat.lt_of_lt_of_le h.lt hb.size
theorem InK.store {w wr : World} {bb : Nat} {l : List Nd} {k : Nat} (h : InK w wr bb l k) (hk : k < 600) (hf : Fits l) (hkl : k < l.length) :
    ∃ W, (Instr.mapUpdate 117 (.map (some w.heap.size)) (.int .i64 (nd l k).cd) (.bool true)).run Tryd.prog wr = .ok () W ∧ InK w W bb l (k + 1) := by
  obtain ⟨W, h1, h2, h3⟩ := h.kn.store (by unfold maxLen; omega) (hf _ (nd_mem hkl)).1
  refine ⟨W, h1, h2, ?_, ?_, h.gt, Nat.lt_of_lt_of_le h.lt h3.size⟩
  · rw [grown_cell (p := ⟨bb, 0, none⟩) h3 h.lt (Nat.ne_of_gt h.gt)]; exact h.box
  · exact h.bel.grown h3 h.bel.size (fun j hj => by cases hj; exact Nat.le_refl _)
set_option maxRecDepth 100000 in
set_option maxHeartbeats 4000000 in
theorem checkNodes_c (a : Option Addr) (c : Nat) (l : List Nd) (w : World) (hl : RdN w a l) (hf : Fits l) :
    Calls Tryd.prog 61 #[.slice a l.length c] w (IntP (chkS l) w) := by
  have h9 := hl.1
  by_cases h1 : l.length = 0
  · have e : Hid (chkS l = 9) := by unfold Hid chkS; rw [if_pos h1]
    clear hl hf
    have h1' : (l.length : Int) = 0 := by omega
    go_enter Tryd.func61, Tryd.ntmps61
    go_wp2
    go_ret
    exact ⟨by rw [e.out]; rfl, Below.refl _ _⟩
  have h1' : ((l.length : Int) == 0) = false := by rw [beq_eq_false_iff_ne]; omega
  by_cases h2 : 600 < l.length
  · have e : Hid (chkS l = 2) := by unfold Hid chkS; rw [if_neg h1, if_pos h2]
    have h2' : (600 : Int) < (l.length : Int) := by omega
    clear hl hf h1 h2
    go_enter Tryd.func61, Tryd.ntmps61
    go_wp2
    go_ret
    exact ⟨by rw [e.out]; rfl, Below.refl _ _⟩
  have h2' : ¬ (600 : Int) < (l.length : Int) := by omega
  have hmm := @run_makeMap Tryd.prog
  have HL := Lib.hid hl
  have HF := Lib.hid hf
  have HAT : Hid (∀ k, k < l.length → fe (ndE l) k = 0 → ndE l k ≠ 0 → chkS l = ndE l k) := fun k hk h0 h => chkS_at h1 h2 hk h0 h
  have HEND : Hid (fe (ndE l) l.length = 0 → chkS l = if fe (prE l) l.length ≠ 0 then 5 else 0) := fun h => by unfold chkS; rw [if_neg h1, if_neg h2, if_neg (by rw [h]; simp)]
  have hle : Hid (l.length ≤ 600) := by unfold Hid; omega
  obtain ⟨W0, hup, k0, g0⟩ := knIs_start w l
  have K0 := Lib.hid k0
  have G0 := Lib.hid g0
  clear hl hf h1 h2 k0 g0
  have S0 : Hid (InK w (W0.alloc (.cells #[.map (some w.heap.size)] 117)) W0.heap.size l 0) := by
    have s0 : w.heap.size + 1 ≤ W0.heap.size := by have := G0.out.size; simpa using this
    refine ⟨K0.out.below (bel_one _ _) (by omega), ?_, ?_, by omega, by simp⟩
    · rw [World.cell?_alloc_at _ _ _ _ rfl]; rfl
    · exact (((bel_one w _).grown G0.out (by simp) (fun j hj => by cases hj; exact Nat.le_refl _))).trans ((bel_one _ _).mono (by omega))
  go_enter Tryd.func61, Tryd.ntmps61
  go_wp2
  obtain ⟨bb, hbb⟩ : ∃ bb, W0.heap.size = bb := ⟨_, rfl⟩
  rw [hbb] at S0 ⊢
  go_loopw [4, 18] (fun _ i wr => ∃ k : Nat, k ≤ l.length ∧ i = .int .i64 k ∧ Hid (InK w wr bb l k ∧ fe (ndE l) k = 0)) (fun _ i _ => l.length - (intOf i).toNat)
  case atStart => exact ⟨0, Nat.zero_le _, rfl, S0.out, rfl⟩
  case round =>
    clear S0 hup K0 G0 hbb
    obtain ⟨k, hk, rfl, hS⟩ := hrel
    by_cases hlt : k < l.length
    · obtain ⟨b', off, rfl, u0, u1, u2⟩ := (HL.out.below hS.out.1.bel).at_ hlt
      have hlt' : (k : Int) < (l.length : Int) := by omega
      have hF : Hid (ndE l k ≠ 0 → chkS l = ndE l k) := fun h => HAT.out k hlt hS.out.2 h
      have hN : Hid (fe (ndE l) (k + 1) = ndE l k) := fe_next hS.out.2
      obtain ⟨W1, hW1⟩ : ∃ W1, wr.alloc (.cells #[.int .i64 (nd l k).cd, .int .i64 (nd l k).pr, .string (nd l k).ti] 56) = W1 := ⟨_, rfl⟩
      have B1 : Hid (NodeB wr W1 (nd l k)) := by unfold Hid; rw [← hW1]; exact node_b _ _
      have S1 := Lib.hid (hS.out.1.keep B1.out.1)
      have v0 := B1.out.2.2.1
      have v2 := B1.out.2.2.2.2
      have HTI := Lib.hid ((HF.out _ (nd_mem hlt)).2.2)
      by_cases h1 : (nd l k).cd < 1
      · have hE : ndE l k = 1 := ndE_1 (Or.inl h1)
        have R : Hid (chkS l = 1) := by unfold Hid; rw [hF.out (by rw [hE]; decide), hE]
        clear hE hF hN
        go_wp2
        go_ret
        exact ⟨by rw [R.out]; rfl, S1.out.bel⟩
      by_cases h2 : 999 < (nd l k).cd
      · have hE : ndE l k = 1 := ndE_1 (Or.inr h2)
        have R : Hid (chkS l = 1) := by unfold Hid; rw [hF.out (by rw [hE]; decide), hE]
        have h1' : decide ((nd l k).cd < 1) = false := by rw [decide_eq_false_iff_not]; exact h1
        clear hE hF hN h1
        go_wp2
        go_ret
        exact ⟨by rw [R.out]; rfl, S1.out.bel⟩
      have hr : Hid (¬ ((nd l k).cd < 1 ∨ 999 < (nd l k).cd)) := by unfold Hid; omega
      by_cases h3 : k ≠ 0 ∧ (nd l k).cd ≤ (nd l (k - 1)).cd
      · have hE : ndE l k = 7 := ndE_2 hr.out h3
        have R : Hid (chkS l = 7) := by unfold Hid; rw [hF.out (by rw [hE]; decide), hE]
        obtain ⟨m, rfl⟩ : ∃ m, k = m + 1 := ⟨k - 1, by omega⟩
        obtain ⟨_, _, e, p0, _, _⟩ := (HL.out.below S1.out.bel).at_ (k := m) (by omega)
        injection e with e; injection e with e1 e2; subst e1; subst e2
        have hpos : (0 : Int) < ((m + 1 : Nat) : Int) := by omega
        have hm1 : ((m + 1 : Nat) : Int) - 1 = (m : Int) := by omega
        have hm2 : (m : Int) < (l.length : Int) := by omega
        have h3' : (nd l (m + 1)).cd ≤ (nd l m).cd := h3.2
        clear hE hF hN h3
        go_wp2_with fail
        go_quiet (fail)
        go_wp2
        go_ret
        exact ⟨by rw [R.out]; rfl, below_drewN S1.out.bel _⟩
      have h1' : decide ((nd l k).cd < 1) = false := by rw [decide_eq_false_iff_not]; exact h1
      have h2'' : ¬ 999 < (nd l k).cd := h2
      have h3 := Lib.hid h3
      clear h1 h2
      by_cases hk0 : k = 0
      · subst hk0
        simp only [Nat.zero_mul, Nat.add_zero] at u0 u1 u2
        go_wp2_with fail
        go_quiet (fail)
        clear h1' h2''
        have S2 : Hid (InK w (W1.drewN nq) bb l 0 ∧ (W1.drewN nq).cell? ⟨wr.heap.size, 0, none⟩ = some (.int .i64 (nd l 0).cd) ∧ (W1.drewN nq).cell? ⟨wr.heap.size, 2, none⟩ = some (.string (nd l 0).ti) ∧ wr.heap.size < (W1.drewN nq).heap.size) := ⟨S1.out.keep (below_drewN (Below.refl _ _) nq), B1.out.2.2.1, B1.out.2.2.2.2, by have := B1.out.2.1; show wr.heap.size < W1.heap.size; omega⟩
        clear hW1 v0 v2 u0 u1 u2 S1 B1
        generalize W1.drewN nq = W2 at S2 ⊢
        obtain ⟨x0, x2⟩ := And.intro S2.out.2.1 S2.out.2.2.1
        by_cases h4 : 60 < (nd l 0).ti.size
        · have hE : ndE l 0 = 2 := ndE_3 hr.out h3.out h4
          have R : Hid (chkS l = 2) := by unfold Hid; rw [hF.out (by rw [hE]; decide), hE]
          have h4' : (60 : Int) < ((nd l 0).ti.size : Int) := by omega
          clear hE hF hN h4
          go_wp2
          go_ret
          exact ⟨by rw [R.out]; rfl, S2.out.1.bel⟩
        · have hE := Lib.hid (ndE_4 hr.out h3.out h4)
          have h4' : ¬ (60 : Int) < ((nd l 0).ti.size : Int) := by omega
          have HC := Lib.hid (isTitle_c (nd l 0).ti W2 HTI.out)
          by_cases h5 : titS (nd l 0).ti = false
          · have e : ndE l 0 = 3 := by rw [hE.out, if_pos h5]
            have R : Hid (chkS l = 3) := by unfold Hid; rw [hF.out (by rw [e]; decide), e]
            rw [h5] at HC
            clear hE hF hN h4 h5 e
            go_wp2_with fail
            refine HC.out.mono ?_
            rintro e w' ⟨rfl, b2⟩
            have BB := Lib.hid ((S2.out.1.keep b2).bel)
            clear b2 x0 x2
            go_wp2
            go_ret
            exact ⟨by rw [R.out]; rfl, BB.out⟩
          · have h5' : titS (nd l 0).ti = true := by simpa using h5
            have e : ndE l 0 = 0 := by rw [hE.out, if_neg h5]
            have hz : Hid (fe (ndE l) (0 + 1) = 0) := by unfold Hid; rw [hN.out, e]
            rw [h5'] at HC
            clear hE hF hN h4 h5 h5' e
            go_wp2_with fail
            refine HC.out.mono ?_
            rintro e w' ⟨rfl, b2⟩
            have S3 := Lib.hid (S2.out.1.keep b2)
            have y0 : w'.cell? ⟨wr.heap.size, 0, none⟩ = some (.int .i64 (nd l 0).cd) := (b2.cell (p := ⟨wr.heap.size, 0, none⟩) S2.out.2.2.2).trans S2.out.2.1
            have yb := S3.out.box
            obtain ⟨W4, hup, hS4⟩ := S3.out.store (by have := hle.out; omega) HF.out hlt
            have S4 := Lib.hid hS4
            clear b2 x0 x2 hS4
            go_wp2
            go_roundw
            case rel => exact ⟨1, by omega, by go_num, S4.out, hz.out⟩
            case measure => simp [intOf]; omega
      · obtain ⟨m, rfl⟩ : ∃ m, k = m + 1 := ⟨k - 1, by omega⟩
        obtain ⟨_, _, e, p0, _, _⟩ := (HL.out.below S1.out.bel).at_ (k := m) (by omega)
        injection e with e; injection e with e1 e2; subst e1; subst e2
        have hpos : (0 : Int) < ((m + 1 : Nat) : Int) := by omega
        have hm1 : ((m + 1 : Nat) : Int) - 1 = (m : Int) := by omega
        have hm2 : (m : Int) < (l.length : Int) := by omega
        have h3' : decide ((nd l (m + 1)).cd ≤ (nd l m).cd) = false := by rw [decide_eq_false_iff_not]; exact fun h => h3.out ⟨hk0, h⟩
        clear hk0
        go_wp2_with fail
        go_quiet (fail)
        clear h1' h2'' hpos hm1 hm2 p0
        have S2 : Hid (InK w (W1.drewN nq) bb l (m + 1) ∧ (W1.drewN nq).cell? ⟨wr.heap.size, 0, none⟩ = some (.int .i64 (nd l (m + 1)).cd) ∧ (W1.drewN nq).cell? ⟨wr.heap.size, 2, none⟩ = some (.string (nd l (m + 1)).ti) ∧ wr.heap.size < (W1.drewN nq).heap.size) := ⟨S1.out.keep (below_drewN (Below.refl _ _) nq), B1.out.2.2.1, B1.out.2.2.2.2, by have := B1.out.2.1; show wr.heap.size < W1.heap.size; omega⟩
        clear hW1 v0 v2 u0 u1 u2 S1 B1
        generalize W1.drewN nq = W2 at S2 ⊢
        obtain ⟨x0, x2⟩ := And.intro S2.out.2.1 S2.out.2.2.1
        by_cases h4 : 60 < (nd l (m + 1)).ti.size
        · have hE : ndE l (m + 1) = 2 := ndE_3 hr.out h3.out h4
          have R : Hid (chkS l = 2) := by unfold Hid; rw [hF.out (by rw [hE]; decide), hE]
          have h4' : (60 : Int) < ((nd l (m + 1)).ti.size : Int) := by omega
          clear hE hF hN h4
          go_wp2
          go_ret
          exact ⟨by rw [R.out]; rfl, S2.out.1.bel⟩
        · have hE := Lib.hid (ndE_4 hr.out h3.out h4)
          have h4' : ¬ (60 : Int) < ((nd l (m + 1)).ti.size : Int) := by omega
          have HC := Lib.hid (isTitle_c (nd l (m + 1)).ti W2 HTI.out)
          by_cases h5 : titS (nd l (m + 1)).ti = false
          · have e : ndE l (m + 1) = 3 := by rw [hE.out, if_pos h5]
            have R : Hid (chkS l = 3) := by unfold Hid; rw [hF.out (by rw [e]; decide), e]
            rw [h5] at HC
            clear hE hF hN h4 h5 e
            go_wp2_with fail
            refine HC.out.mono ?_
            rintro e w' ⟨rfl, b2⟩
            have BB := Lib.hid ((S2.out.1.keep b2).bel)
            clear b2 x0 x2
            go_wp2
            go_ret
            exact ⟨by rw [R.out]; rfl, BB.out⟩
          · have h5' : titS (nd l (m + 1)).ti = true := by simpa using h5
            have e : ndE l (m + 1) = 0 := by rw [hE.out, if_neg h5]
            have hz : Hid (fe (ndE l) (m + 1 + 1) = 0) := by unfold Hid; rw [hN.out, e]
            rw [h5'] at HC
            clear hE hF hN h4 h5 h5' e
            go_wp2_with fail
            refine HC.out.mono ?_
            rintro e w' ⟨rfl, b2⟩
            have S3 := Lib.hid (S2.out.1.keep b2)
            have y0 : w'.cell? ⟨wr.heap.size, 0, none⟩ = some (.int .i64 (nd l (m + 1)).cd) := (b2.cell (p := ⟨wr.heap.size, 0, none⟩) S2.out.2.2.2).trans S2.out.2.1
            have yb := S3.out.box
            obtain ⟨W4, hup, hS4⟩ := S3.out.store (by have := hle.out; omega) HF.out hlt
            have S4 := Lib.hid hS4
            clear b2 x0 x2 hS4
            go_wp2
            go_roundw
            case rel => exact ⟨m + 1 + 1, by omega, by go_num, S4.out, hz.out⟩
            case measure => simp [intOf]; omega
    · obtain rfl : k = l.length := by omega
      have hR := Lib.hid (HEND.out hS.out.2)
      have BB := Lib.hid hS.out.1
      have yb := BB.out.box
      have HC := Lib.hid (anyUnknown2_c a c bb w.heap.size l wr (HL.out.below BB.out.bel) HF.out BB.out.kn BB.out.box BB.out.lt (Nat.lt_trans BB.out.gt BB.out.lt))
      clear hlt hS
      by_cases hp : fe (prE l) l.length ≠ 0
      · have R : Hid (chkS l = 5) := by unfold Hid; rw [hR.out, if_pos hp]
        rw [decide_eq_true hp] at HC
        clear hp hR
        go_wp2_with fail
        refine HC.out.mono ?_
        rintro e w' ⟨rfl, b2⟩
        have B2 := Lib.hid (BB.out.keep b2).bel
        clear b2 yb
        go_wp2
        go_ret
        exact ⟨by rw [R.out]; rfl, B2.out⟩
      · have R : Hid (chkS l = 0) := by unfold Hid; rw [hR.out, if_neg hp]
        rw [decide_eq_false hp] at HC
        clear hp hR
        go_wp2_with fail
        refine HC.out.mono ?_
        rintro e w' ⟨rfl, b2⟩
        have B2 := Lib.hid (BB.out.keep b2).bel
        clear b2 yb
        go_wp2
        go_ret
        exact ⟨by rw [R.out]; rfl, B2.out⟩
end Go.Proofs.YthdmodmplpoejaaDoor
