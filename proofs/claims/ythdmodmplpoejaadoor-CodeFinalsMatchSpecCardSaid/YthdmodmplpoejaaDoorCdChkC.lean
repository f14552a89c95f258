/-
  Package code: checkCodings.
-/
import Derived.Test.YthdmodmplpoejaaDoorCdCgs
namespace Go.Proofs.YthdmodmplpoejaaDoor
open Go.RowKit Go.WideMaps Go.Maps

section
variable {h : Int → Bool} {C : List Cg} {k : Nat}
theorem cgE_1 (a : (cg C k).ca < 1 ∨ (cg C k).co < 1 ∨ 50 < (cg C k).co) : cgE h C k = 1 := by unfold cgE; rw [if_pos a]
theorem cgE_5 (a : ¬ ((cg C k).ca < 1 ∨ (cg C k).co < 1 ∨ 50 < (cg C k).co)) (b : h (cg C k).cd = false) : cgE h C k = 5 := by unfold cgE; rw [if_neg a, if_pos b]
theorem cgE_r (a : ¬ ((cg C k).ca < 1 ∨ (cg C k).co < 1 ∨ 50 < (cg C k).co)) (b : ¬ h (cg C k).cd = false) : cgE h C k = if (cg C k).ca < (lst C k).ca ∨ ((cg C k).ca = (lst C k).ca ∧ (cg C k).co < (lst C k).co) then 7
  else if (cg C k).ca = (lst C k).ca ∧ (cg C k).co = (lst C k).co then 6 else 0 := by unfold cgE; rw [if_neg a, if_neg b]
end
set_option maxRecDepth 100000 in
set_option maxHeartbeats 4000000 in
theorem checkCodings_c (bp bl : Nat) (lv : Nat → Nat) (a : Option Addr) (c : Nat) (C : List Cg) (w : World) (hl : Arr w bl lv) (hC : RdC w a C) :
    Calls Tryd.prog 55 #[fv bp bl, .slice a C.length c] w (IntP (cgsS (hasB lv) C) w) := by
  have h9 := hC.1
  by_cases h2 : 20000 < C.length
  · have R : Hid (cgsS (hasB lv) C = 2) := by unfold Hid cgsS; rw [if_pos h2]
    have h2' : (20000 : Int) < (C.length : Int) := by omega
    clear hl hC h2
    go_enter Tryd.func55, Tryd.ntmps55
    go_wp2
    go_ret
    exact ⟨by rw [R.out]; rfl, bel_one _ _⟩
  have h2' : ¬ (20000 : Int) < (C.length : Int) := by omega
  have HAT : Hid (cgsS (hasB lv) C = fe (cgE (hasB lv) C) C.length) := by unfold Hid cgsS; rw [if_neg h2]
  have HL := Lib.hid hl
  have HC := Lib.hid hC
  have S0 : Hid (InC w ((w.alloc (.cells #[row bp, row bl] 71)).alloc (.cells #[.int .i64 0, .int .i64 0, .int .i64 0] 49)) bp bl C 0) := by
    refine ⟨(B2.made _ _ _ _).keep (bel_one _ _), ?_, (bel_one _ _).trans ((bel_one _ _).mono (by simp))⟩
    have e := B3.made (w.alloc (.cells #[row bp, row bl] 71)) (.int .i64 0) (.int .i64 0) (.int .i64 0) 49
    have hs : (w.alloc (.cells #[row bp, row bl] 71)).heap.size = w.heap.size + 1 := by simp
    rw [hs] at e
    exact e
  clear hl hC h2
  go_enter Tryd.func55, Tryd.ntmps55
  go_wp2
  go_loopw [4, 13] (fun fl i wr => ∃ k : Nat, k ≤ C.length ∧ i = .int .i64 k ∧ fl = .int .i64 0 ∧ Hid (InC w wr bp bl C k ∧ fe (cgE (hasB lv) C) k = 0)) (fun _ i _ => C.length - (intOf i).toNat)
  case atStart => exact ⟨0, Nat.zero_le _, rfl, rfl, S0.out, rfl⟩
  case round =>
    clear S0
    obtain ⟨k, hk, rfl, rfl, hS⟩ := hrel
    by_cases hlt : k < C.length
    · obtain ⟨b', off, rfl, u0, u1, u2⟩ := (HC.out.below hS.out.1.bel).at_ hlt
      have hlt' : (k : Int) < (C.length : Int) := by omega
      have hF : Hid (cgE (hasB lv) C k ≠ 0 → cgsS (hasB lv) C = cgE (hasB lv) C k) := fun h => by rw [HAT.out, fe_at hlt hS.out.2 h]
      have hN : Hid (fe (cgE (hasB lv) C) (k + 1) = cgE (hasB lv) C k) := fe_next hS.out.2
      obtain ⟨W1, hW1⟩ : ∃ W1, wr.alloc (.cells #[.int .i64 (cg C k).ca, .int .i64 (cg C k).co, .int .i64 (cg C k).cd] 49) = W1 := ⟨_, rfl⟩
      have N1 : Hid (CodB wr W1 (cg C k)) := by unfold Hid; rw [← hW1]; exact cod_b _ _
      have S1 := Lib.hid (hS.out.1.keep N1.out.1)
      have v0 := N1.out.2.c0
      have v1 := N1.out.2.c1
      have v2 := N1.out.2.c2
      have b0 := S1.out.box.c0
      have b1 := S1.out.box.c1
      have HI := Lib.hid (isCoder_c (cg C k).co W1)
      have HH := Lib.hid (has_c bp bl lv (cg C k).cd W1 (HL.out.below S1.out.bel))
      clear hS
      by_cases g1 : (cg C k).ca < 1
      · have hE : cgE (hasB lv) C k = 1 := cgE_1 (Or.inl g1)
        have R : Hid (cgsS (hasB lv) C = 1) := by unfold Hid; rw [hF.out (by rw [hE]; decide), hE]
        clear hE hF hN HI HH
        go_wp2
        go_ret
        exact ⟨by rw [R.out]; rfl, S1.out.bel⟩
      have g1' : decide ((cg C k).ca < 1) = false := decide_eq_false g1
      by_cases g2 : 1 ≤ (cg C k).co ∧ (cg C k).co ≤ 50
      rotate_left
      · have hE : cgE (hasB lv) C k = 1 := cgE_1 (Or.inr (by omega))
        have R : Hid (cgsS (hasB lv) C = 1) := by unfold Hid; rw [hF.out (by rw [hE]; decide), hE]
        rw [decide_eq_false g2] at HI
        clear hE hF hN HH g1 g2
        go_wp2_with fail
        (with_reducible refine HI.out.mono ?_)
        rintro e w' ⟨rfl, hw⟩
        have hw := hw.symm
        subst hw
        go_wp2
        go_ret
        exact ⟨by rw [R.out]; rfl, S1.out.bel⟩
      have gr : Hid (¬ ((cg C k).ca < 1 ∨ (cg C k).co < 1 ∨ 50 < (cg C k).co)) := by unfold Hid; omega
      rw [decide_eq_true g2] at HI
      by_cases g3 : hasB lv (cg C k).cd = false
      · have hE : cgE (hasB lv) C k = 5 := cgE_5 gr.out g3
        have R : Hid (cgsS (hasB lv) C = 5) := by unfold Hid; rw [hF.out (by rw [hE]; decide), hE]
        rw [g3] at HH
        go_wp2_with fail
        (with_reducible refine HI.out.mono ?_)
        rintro e w' ⟨rfl, hw⟩
        have hw := hw.symm
        subst hw
        go_wp2_with fail
        (with_reducible refine HH.out.mono ?_)
        rintro e w4 ⟨rfl, b4⟩
        have S4 := Lib.hid (S1.out.keep b4)
        have N4 := Lib.hid (N1.out.2.keep b4)
        clear b4 v0 v1 v2 b0 b1 u0 u1 u2 hW1 HH HI
        clear hE hF hN g1 g2 g3
        go_wp2
        go_ret
        exact ⟨by rw [R.out]; rfl, S4.out.bel⟩
      have g3' : hasB lv (cg C k).cd = true := by simpa using g3
      have hR := Lib.hid (cgE_r (h := hasB lv) gr.out g3)
      rw [g3'] at HH
      go_wp2_with fail
      (with_reducible refine HI.out.mono ?_)
      rintro e w' ⟨rfl, hw⟩
      have hw := hw.symm
      subst hw
      go_wp2_with fail
      (with_reducible refine HH.out.mono ?_)
      rintro e w4 ⟨rfl, b4⟩
      have S4 := Lib.hid (S1.out.keep b4)
      have N4 := Lib.hid (N1.out.2.keep b4)
      clear b4 v0 v1 v2 b0 b1 u0 u1 u2 hW1 HH HI
      clear g1 g2 g3 g3' g1'
      have t0 := N4.out.c0
      have t1 := N4.out.c1
      have t2 := N4.out.c2
      have s0 := S4.out.last.c0
      have s1 := S4.out.last.c1
      have s2 := S4.out.last.c2
      by_cases q1 : (cg C k).ca < (lst C k).ca
      · have hE : cgE (hasB lv) C k = 7 := by rw [hR.out, if_pos (Or.inl q1)]
        have R : Hid (cgsS (hasB lv) C = 7) := by unfold Hid; rw [hF.out (by rw [hE]; decide), hE]
        clear hE hF hN
        go_wp2
        go_ret
        exact ⟨by rw [R.out]; rfl, S4.out.bel⟩
      by_cases q2 : (cg C k).ca = (lst C k).ca
      rotate_left
      · have hz : Hid (fe (cgE (hasB lv) C) (k + 1) = 0) := by unfold Hid; rw [hN.out, hR.out, if_neg (fun h => h.elim q1 fun h => q2 h.1), if_neg fun h => q2 h.1]
        have d1 : decide ((cg C k).ca < (lst C k).ca) = false := decide_eq_false q1
        have d2 : ((cg C k).ca == (lst C k).ca) = false := by rw [beq_eq_false_iff_ne]; exact q2
        have f0 := S4.out.last.fr 0
        have f1 := S4.out.last.fr 1
        have f2 := S4.out.last.fr 2
        obtain ⟨W9, hW9⟩ : ∃ W9, three w4 (w.heap.size + 1) (.int .i64 (cg C k).ca) (.int .i64 (cg C k).co) (.int .i64 (cg C k).cd) = W9 := ⟨_, rfl⟩
        have NX : Hid (InC w W9 bp bl C (k + 1) ∧ fe (cgE (hasB lv) C) (k + 1) = 0) := by rw [← hW9]; exact ⟨S4.out.next, hz.out⟩
        unfold three at hW9
        clear hF hN q1 q2
        go_wp2
        go_roundw
        case rel => exact ⟨k + 1, by omega, by go_num, rfl, NX.out⟩
        case measure => simp [intOf]; omega
      have d1 : decide ((cg C k).ca < (lst C k).ca) = false := decide_eq_false q1
      have d2 : ((cg C k).ca == (lst C k).ca) = true := by rw [beq_iff_eq]; exact q2
      by_cases q3 : (cg C k).co < (lst C k).co
      · have hE : cgE (hasB lv) C k = 7 := by rw [hR.out, if_pos (Or.inr ⟨q2, q3⟩)]
        have R : Hid (cgsS (hasB lv) C = 7) := by unfold Hid; rw [hF.out (by rw [hE]; decide), hE]
        clear hE hF hN q1 q2
        go_wp2
        go_ret
        exact ⟨by rw [R.out]; rfl, S4.out.bel⟩
      have d3 : decide ((cg C k).co < (lst C k).co) = false := decide_eq_false q3
      by_cases q4 : (cg C k).co = (lst C k).co
      · have hE : cgE (hasB lv) C k = 6 := by rw [hR.out, if_neg (fun h => h.elim q1 fun h => q3 h.2), if_pos ⟨q2, q4⟩]
        have R : Hid (cgsS (hasB lv) C = 6) := by unfold Hid; rw [hF.out (by rw [hE]; decide), hE]
        have d4 : ((cg C k).co == (lst C k).co) = true := by rw [beq_iff_eq]; exact q4
        clear hE hF hN q1 q2 q3 q4
        go_wp2
        go_ret
        exact ⟨by rw [R.out]; rfl, S4.out.bel⟩
      have d4 : ((cg C k).co == (lst C k).co) = false := by rw [beq_eq_false_iff_ne]; exact q4
      have hz : Hid (fe (cgE (hasB lv) C) (k + 1) = 0) := by unfold Hid; rw [hN.out, hR.out, if_neg (fun h => h.elim q1 fun h => q3 h.2), if_neg fun h => q4 h.2]
      have f0 := S4.out.last.fr 0
      have f1 := S4.out.last.fr 1
      have f2 := S4.out.last.fr 2
      obtain ⟨W9, hW9⟩ : ∃ W9, three w4 (w.heap.size + 1) (.int .i64 (cg C k).ca) (.int .i64 (cg C k).co) (.int .i64 (cg C k).cd) = W9 := ⟨_, rfl⟩
      have NX : Hid (InC w W9 bp bl C (k + 1) ∧ fe (cgE (hasB lv) C) (k + 1) = 0) := by rw [← hW9]; exact ⟨S4.out.next, hz.out⟩
      unfold three at hW9
      clear hF hN q1 q2 q3 q4
      go_wp2
      go_roundw
      case rel => exact ⟨k + 1, by omega, by go_num, rfl, NX.out⟩
      case measure => simp [intOf]; omega
    · obtain rfl : k = C.length := by omega
      have R : Hid (cgsS (hasB lv) C = 0) := by unfold Hid; rw [HAT.out, hS.out.2]
      clear hlt
      go_wp2
      go_ret
      exact ⟨by rw [R.out]; rfl, hS.out.1.bel⟩
end Go.Proofs.YthdmodmplpoejaaDoor
