/-
  The reference of package code: CheckCodings.
-/
import Derived.Test.YthdmodmplpoejaaDoorCdRchk
namespace Go.Proofs.YthdmodmplpoejaaDoor
open Go.RowKit Go.WideMaps Go.Maps

theorem fnd_has {l : List Nd} (Fl : Fr l) {c : Int} {r : Int} (h : FndP l c r) : decide (r < 0) = !(hasS l c) := by
  rcases h with ⟨rfl, h⟩ | ⟨j, hj, rfl, e⟩
  · have : hasS l c = false := by
      rw [Bool.eq_false_iff]
      intro q
      obtain ⟨k, rfl, j, hj, e⟩ := (hasS_iff Fl).1 q
      exact h j hj e
    rw [this]; rfl
  · have : hasS l c = true := (hasS_iff Fl).2 ⟨c.toNat, by have := Fl.ord.rng j hj; omega, j, hj, by have := Fl.ord.rng j hj; omega⟩
    rw [this]
    simp
theorem lst_z (C : List Cg) : lst C 0 = cg0 := rfl
theorem lst_s (C : List Cg) (m : Nat) : lst C (m + 1) = cg C m := by unfold lst; rw [if_neg (by omega)]; rfl
set_option maxRecDepth 100000 in
set_option maxHeartbeats 4000000 in
theorem rCheckCodings_c (a : Option Addr) (ca : Nat) (l : List Nd) (a2 : Option Addr) (c2 : Nat) (C : List Cg) (w : World) (hl : RdN w a l) (hf : Fits l) (hC : RdC w a2 C) :
    Calls Tryd.prog 22 #[.slice a l.length ca, .slice a2 C.length c2] w (IntP (forS l C) w) := by
  have h9 := hC.1
  have HK := Lib.hid (rCheckFrame_c a ca l w hl hf)
  have HL := Lib.hid hl
  have HC := Lib.hid hC
  clear hl hf hC
  by_cases hz : frS l ≠ 0
  · have R : forS l C = frS l := by unfold forS; rw [if_pos hz]
    obtain ⟨f, hfl⟩ : ∃ f, frS l = f := ⟨_, rfl⟩
    rw [hfl] at HK R hz
    have R := Lib.hid R
    have f1 : (f == 0) = false := by rw [beq_eq_false_iff_ne]; exact hz
    have f2 : (f != 0) = true := by rw [bne, f1]; rfl
    clear hfl hz
    go_enter Tryd.func22, Tryd.ntmps22
    go_wp2_with fail
    (with_reducible refine HK.out.mono ?_)
    rintro e w1 ⟨rfl, b1⟩
    have B1 := Lib.hid b1
    clear b1
    go_wp2
    go_ret
    exact ⟨by rw [R.out]; rfl, B1.out⟩
  have hz : frS l = 0 := by omega
  have HFr := Lib.hid (fr_of hz)
  have HS : Hid (forS l C = cgsS (hasB (lev l)) C) := by unfold Hid forS; rw [if_neg (by simpa using hz)]
  rw [hz] at HK
  clear hz
  by_cases h2 : 20000 < C.length
  · have R : Hid (forS l C = 2) := by unfold Hid; rw [HS.out]; unfold cgsS; rw [if_pos h2]
    have h2' : (20000 : Int) < (C.length : Int) := by omega
    clear h2
    go_enter Tryd.func22, Tryd.ntmps22
    go_wp2_with fail
    (with_reducible refine HK.out.mono ?_)
    rintro e w1 ⟨rfl, b1⟩
    have B1 := Lib.hid b1
    clear b1
    go_wp2
    go_ret
    exact ⟨by rw [R.out]; rfl, B1.out⟩
  have h2' : ¬ (20000 : Int) < (C.length : Int) := by omega
  have HAT : Hid (forS l C = fe (cgE (hasB (lev l)) C) C.length) := by unfold Hid; rw [HS.out]; unfold cgsS; rw [if_neg h2]
  clear h2 HS
  go_enter Tryd.func22, Tryd.ntmps22
  go_wp2_with fail
  (with_reducible refine HK.out.mono ?_)
  rintro e w1 ⟨rfl, b1⟩
  have B1 := Lib.hid b1
  clear b1
  go_wp2
  go_loopw [4, 6, 19] (fun fl _ i wr => ∃ k : Nat, k ≤ C.length ∧ i = .int .i64 k ∧ fl = .int .i64 0 ∧ Hid (Below w.heap.size w wr ∧ fe (cgE (hasB (lev l)) C) k = 0)) (fun _ _ i _ => C.length - (intOf i).toNat)
  case atStart => exact ⟨0, Nat.zero_le _, rfl, rfl, B1.out, rfl⟩
  case round =>
    obtain ⟨k, hk, rfl, rfl, hS⟩ := hrel
    by_cases hlt : k < C.length
    · obtain ⟨b', off, rfl, u0, u1, u2⟩ := (HC.out.below hS.out.1).at_ hlt
      have hlt' : (k : Int) < (C.length : Int) := by omega
      have hF : Hid (cgE (hasB (lev l)) C k ≠ 0 → forS l C = cgE (hasB (lev l)) C k) := fun h => by rw [HAT.out, fe_at hlt hS.out.2 h]
      have hN : Hid (fe (cgE (hasB (lev l)) C) (k + 1) = cgE (hasB (lev l)) C k) := fe_next hS.out.2
      obtain ⟨W1, hW1⟩ : ∃ W1, wr.alloc (.cells #[.int .i64 (cg C k).ca, .int .i64 (cg C k).co, .int .i64 (cg C k).cd] 49) = W1 := ⟨_, rfl⟩
      have N1 : Hid (CodB wr W1 (cg C k)) := by unfold Hid; rw [← hW1]; exact cod_b _ _
      have S1 := Lib.hid (hS.out.1.trans (N1.out.1.mono hS.out.1.size))
      have v0 := N1.out.2.c0
      have v1 := N1.out.2.c1
      have v2 := N1.out.2.c2
      have HI := Lib.hid (rwithin_c (cg C k).co 1 50 W1)
      have HH := Lib.hid (rfind_c _ ca l (cg C k).cd W1 (HL.out.below S1.out))
      clear hS
      by_cases g1 : (cg C k).ca < 1
      · have hE : cgE (hasB (lev l)) C k = 1 := cgE_1 (Or.inl g1)
        have R : Hid (forS l C = 1) := by unfold Hid; rw [hF.out (by rw [hE]; decide), hE]
        clear hE hF hN HI HH
        go_wp2
        go_ret
        exact ⟨by rw [R.out]; rfl, S1.out⟩
      have g1' : decide ((cg C k).ca < 1) = false := decide_eq_false g1
      by_cases g2 : 1 ≤ (cg C k).co ∧ (cg C k).co ≤ 50
      rotate_left
      · have hE : cgE (hasB (lev l)) C k = 1 := cgE_1 (Or.inr (by omega))
        have R : Hid (forS l C = 1) := by unfold Hid; rw [hF.out (by rw [hE]; decide), hE]
        rw [decide_eq_false g2] at HI
        clear hE hF hN HH g1 g2
        go_wp2_with fail
        (with_reducible refine HI.out.mono ?_)
        rintro e w' ⟨rfl, hw⟩
        have hw := hw.symm
        subst hw
        go_wp2
        go_ret
        exact ⟨by rw [R.out]; rfl, S1.out⟩
      have gr : Hid (¬ ((cg C k).ca < 1 ∨ (cg C k).co < 1 ∨ 50 < (cg C k).co)) := by unfold Hid; omega
      rw [decide_eq_true g2] at HI
      have G1 : Hid (1 ≤ (cg C k).ca) := by unfold Hid; omega
      by_cases g3 : hasB (lev l) (cg C k).cd = false
      · have hE : cgE (hasB (lev l)) C k = 5 := cgE_5 gr.out g3
        have R : Hid (forS l C = 5) := by unfold Hid; rw [hF.out (by rw [hE]; decide), hE]
        have G3 := Lib.hid g3
        clear hE hF hN g1 g2 g3
        go_wp2_with fail
        (with_reducible refine HI.out.mono ?_)
        rintro e w' ⟨rfl, hw⟩
        have hw := hw.symm
        subst hw
        go_wp2_with fail
        (with_reducible refine HH.out.mono ?_)
        rintro e w4 ⟨⟨r, rfl, hr⟩, b4⟩
        have hr2 : decide (r < 0) = true := by rw [fnd_has HFr.out hr]; unfold hasS; rw [G3.out]; rfl
        have S4 := Lib.hid (S1.out.trans (b4.mono S1.out.size))
        have N4 := Lib.hid (N1.out.2.keep b4)
        have B14 := Lib.hid b4
        clear b4 hr v0 v1 v2 u0 u1 u2 hW1 HH HI
        go_wp2
        go_ret
        exact ⟨by rw [R.out]; rfl, S4.out⟩
      have g3' : hasB (lev l) (cg C k).cd = true := by simpa using g3
      have hR := Lib.hid (cgE_r (h := hasB (lev l)) gr.out g3)
      have G3 := Lib.hid g3'
      clear g1 g2 g3 g3'
      go_wp2_with fail
      (with_reducible refine HI.out.mono ?_)
      rintro e w' ⟨rfl, hw⟩
      have hw := hw.symm
      subst hw
      go_wp2_with fail
      (with_reducible refine HH.out.mono ?_)
      rintro e w4 ⟨⟨r, rfl, hr⟩, b4⟩
      have hr2 : decide (r < 0) = false := by rw [fnd_has HFr.out hr]; unfold hasS; rw [G3.out]; rfl
      have S4 := Lib.hid (S1.out.trans (b4.mono S1.out.size))
      have N4 := Lib.hid (N1.out.2.keep b4)
      have B14 := Lib.hid b4
      clear b4 hr v0 v1 v2 u0 u1 u2 hW1 HH HI
      clear g1'
      by_cases hk0 : k = 0
      · subst hk0
        have hz : Hid (fe (cgE (hasB (lev l)) C) (0 + 1) = 0) := by
          unfold Hid
          rw [hN.out, hR.out, lst_z]
          have := G1.out
          rw [if_neg (by show ¬ ((cg C 0).ca < 0 ∨ (cg C 0).ca = 0 ∧ _); omega), if_neg (by show ¬ ((cg C 0).ca = 0 ∧ _); omega)]
        have NX : Hid (Below w.heap.size w w4 ∧ fe (cgE (hasB (lev l)) C) (0 + 1) = 0) := ⟨S4.out, hz.out⟩
        clear hF hN hR
        go_wp2
        go_roundw
        case rel => exact ⟨1, by omega, by go_num, rfl, NX.out⟩
        case measure => simp [intOf]; omega
      obtain ⟨m, rfl⟩ : ∃ m, k = m + 1 := ⟨k - 1, by omega⟩
      rw [lst_s] at hR
      obtain ⟨_, _, e, p0, p1, p2⟩ := (HC.out.below S4.out).at_ (k := m) (by omega)
      injection e with e; injection e with e1 e2; subst e1; subst e2
      have k0f : ((((m + 1 : Nat)) : Int) == 0) = false := by rw [beq_eq_false_iff_ne]; omega
      have hm1 : ((m + 1 : Nat) : Int) - 1 = (m : Int) := by omega
      have hm2 : (m : Int) < (C.length : Int) := by omega
      obtain ⟨W5, hW5⟩ : ∃ W5, w4.alloc (.cells #[.int .i64 (cg C m).ca, .int .i64 (cg C m).co, .int .i64 (cg C m).cd] 49) = W5 := ⟨_, rfl⟩
      have N5 : Hid (CodB w4 W5 (cg C m)) := by unfold Hid; rw [← hW5]; exact cod_b _ _
      have S5 := Lib.hid (S4.out.trans (N5.out.1.mono S4.out.size))
      have N6 := Lib.hid (N4.out.keep N5.out.1)
      have t0 := N6.out.c0
      have t1 := N6.out.c1
      have s0 := N5.out.2.c0
      have s1 := N5.out.2.c1
      clear hk0 N5
      by_cases q1 : (cg C (m + 1)).ca < (cg C m).ca
      · have hE : cgE (hasB (lev l)) C (m + 1) = 7 := by rw [hR.out, if_pos (Or.inl q1)]
        have R : Hid (forS l C = 7) := by unfold Hid; rw [hF.out (by rw [hE]; decide), hE]
        clear hE hF hN
        go_wp2
        go_ret
        exact ⟨by rw [R.out]; rfl, S5.out⟩
      by_cases q2 : (cg C (m + 1)).ca = (cg C m).ca
      rotate_left
      · have hz : Hid (fe (cgE (hasB (lev l)) C) (m + 1 + 1) = 0) := by unfold Hid; rw [hN.out, hR.out, if_neg (fun h => h.elim q1 fun h => q2 h.1), if_neg fun h => q2 h.1]
        have d1 : decide ((cg C (m + 1)).ca < (cg C m).ca) = false := decide_eq_false q1
        have d2 : ((cg C (m + 1)).ca == (cg C m).ca) = false := by rw [beq_eq_false_iff_ne]; exact q2
        have NX : Hid (Below w.heap.size w W5 ∧ fe (cgE (hasB (lev l)) C) (m + 1 + 1) = 0) := ⟨S5.out, hz.out⟩
        clear hF hN q1 q2
        go_wp2
        go_roundw
        case rel => exact ⟨m + 1 + 1, by omega, by go_num, rfl, NX.out⟩
        case measure => simp [intOf]; omega
      have d1 : decide ((cg C (m + 1)).ca < (cg C m).ca) = false := decide_eq_false q1
      have d2 : ((cg C (m + 1)).ca == (cg C m).ca) = true := by rw [beq_iff_eq]; exact q2
      by_cases q3 : (cg C (m + 1)).co < (cg C m).co
      · have hE : cgE (hasB (lev l)) C (m + 1) = 7 := by rw [hR.out, if_pos (Or.inr ⟨q2, q3⟩)]
        have R : Hid (forS l C = 7) := by unfold Hid; rw [hF.out (by rw [hE]; decide), hE]
        clear hE hF hN q1 q2
        go_wp2
        go_ret
        exact ⟨by rw [R.out]; rfl, S5.out⟩
      have d3 : decide ((cg C (m + 1)).co < (cg C m).co) = false := decide_eq_false q3
      by_cases q4 : (cg C (m + 1)).co = (cg C m).co
      · have hE : cgE (hasB (lev l)) C (m + 1) = 6 := by rw [hR.out, if_neg (fun h => h.elim q1 fun h => q3 h.2), if_pos ⟨q2, q4⟩]
        have R : Hid (forS l C = 6) := by unfold Hid; rw [hF.out (by rw [hE]; decide), hE]
        have d4 : ((cg C (m + 1)).co == (cg C m).co) = true := by rw [beq_iff_eq]; exact q4
        clear hE hF hN q1 q2 q3 q4
        go_wp2
        go_ret
        exact ⟨by rw [R.out]; rfl, S5.out⟩
      have d4 : ((cg C (m + 1)).co == (cg C m).co) = false := by rw [beq_eq_false_iff_ne]; exact q4
      have hz : Hid (fe (cgE (hasB (lev l)) C) (m + 1 + 1) = 0) := by unfold Hid; rw [hN.out, hR.out, if_neg (fun h => h.elim q1 fun h => q3 h.2), if_neg fun h => q4 h.2]
      have NX : Hid (Below w.heap.size w W5 ∧ fe (cgE (hasB (lev l)) C) (m + 1 + 1) = 0) := ⟨S5.out, hz.out⟩
      clear hF hN q1 q2 q3 q4
      go_wp2
      go_roundw
      case rel => exact ⟨m + 1 + 1, by omega, by go_num, rfl, NX.out⟩
      case measure => simp [intOf]; omega
    · obtain rfl : k = C.length := by omega
      have R : Hid (forS l C = 0) := by unfold Hid; rw [HAT.out, hS.out.2]
      clear hlt
      go_wp2
      go_ret
      exact ⟨by rw [R.out]; rfl, hS.out.1⟩
end Go.Proofs.YthdmodmplpoejaaDoor
