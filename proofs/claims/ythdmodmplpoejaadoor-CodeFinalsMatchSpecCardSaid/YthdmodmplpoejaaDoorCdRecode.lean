/-
  Package code: Recode.
-/
import Derived.Test.YthdmodmplpoejaaDoorCdRec
namespace Go.Proofs.YthdmodmplpoejaaDoor
open Go.RowKit Go.WideMaps Go.Maps

/-- Recode's error. -/
def reE (l1 l2 : List Nd) (M : List Mv) (C : List Cg) : Int :=
  if frS l1 ≠ 0 then frS l1 else if frS l2 ≠ 0 then frS l2 else if mvS (hasB (lev l1)) (hasB (lev l2)) M ≠ 0 then mvS (hasB (lev l1)) (hasB (lev l2)) M else cgsS (hasB (lev l1)) C
def RcP (l1 l2 : List Nd) (M : List Mv) (C : List Cg) (w : World) (e : Ending) (w' : World) : Prop :=
  (reE l1 l2 M C = 0 ∧ ∃ v4 v5, e = .returned (.tuple #[v4, v5, .int .i64 0]) ∧ (∃ a c, v4 = .slice a (carL (suS l1 l2 M) C).length c ∧ RdC w' a (carL (suS l1 l2 M) C)) ∧ (∃ a c, v5 = .slice a (lefL (suS l1 l2 M) C).length c ∧ RdC w' a (lefL (suS l1 l2 M) C)) ∧ Below w.heap.size w w') ∨
  (reE l1 l2 M C ≠ 0 ∧ e = .returned (.tuple #[.slice none 0 0, .slice none 0 0, .int .i64 (reE l1 l2 M C)]) ∧ Below w.heap.size w w')
theorem len_of {l : List Nd} (h : frS l = 0) : l.length ≤ 600 := (fr_of h).le
set_option maxRecDepth 100000 in
set_option maxHeartbeats 4000000 in
theorem Recode_c (a1 : Option Addr) (c1 : Nat) (l1 : List Nd) (a2 : Option Addr) (c2 : Nat) (l2 : List Nd) (a3 : Option Addr) (c3 : Nat) (M : List Mv) (a4 : Option Addr) (c4 : Nat) (C : List Cg) (w : World)
    (h1 : RdN w a1 l1) (f1 : Fits l1) (h2 : RdN w a2 l2) (f2 : Fits l2) (h3 : RdM w a3 M) (f3 : FitsM M) (h4 : RdC w a4 C) (f4 : FitsC C) :
    Calls Tryd.prog 27 #[.slice a1 l1.length c1, .slice a2 l2.length c2, .slice a3 M.length c3, .slice a4 C.length c4] w (RcP l1 l2 M C w) := by
  have H1 := Lib.hid h1
  have H2 := Lib.hid h2
  have H3 := Lib.hid h3
  have H4 := Lib.hid h4
  have F1 := Lib.hid f1
  have F2 := Lib.hid f2
  have F3 := Lib.hid f3
  have F4 := Lib.hid f4
  have K1 := Lib.hid (frameOf_c a1 c1 l1 w h1 f1)
  have K2 := Lib.hid (fun W (hb : Below w.heap.size w W) => frameOf_c a2 c2 l2 W (h2.below hb) f2)
  clear h1 h2 h3 h4 f1 f2 f3 f4
  by_cases z1 : frS l1 ≠ 0
  · have HP : reE l1 l2 M C = frS l1 := by unfold reE; rw [if_pos z1]
    obtain ⟨f, hfl⟩ : ∃ f, frS l1 = f := ⟨_, rfl⟩
    have HZ := Lib.hid z1
    have f1 : (f == 0) = false := by rw [beq_eq_false_iff_ne, ← hfl]; exact z1
    have f2 : (f != 0) = true := by rw [bne, f1]; rfl
    have HP : Hid (reE l1 l2 M C = f ∧ reE l1 l2 M C ≠ 0) := ⟨HP.trans hfl, by rw [HP]; exact z1⟩
    have HFL := Lib.hid hfl
    clear hfl z1
    go_enter Tryd.func27, Tryd.ntmps27
    go_wp2_with fail
    (with_reducible refine K1.out.mono ?_)
    intro e W2 he
    obtain ⟨rfl, b2⟩ := frame_no he HZ.out
    rw [HFL.out]
    have BB := Lib.hid (b2.trans ((bel_one W2 (.cells #[.slice none 0 0, .slice none 0 0] 71)).mono b2.size))
    clear b2
    go_wp2_with fail
    exact bodyPost_ret (v := .tuple #[.slice none 0 0, .slice none 0 0, .int .i64 f]) (by simp [results, Tryd.results27, go_sem]) rfl (Or.inr ⟨HP.out.2, by rw [HP.out.1], BB.out⟩)
  have z1 : frS l1 = 0 := by omega
  have HP1 : reE l1 l2 M C = if frS l2 ≠ 0 then frS l2 else if mvS (hasB (lev l1)) (hasB (lev l2)) M ≠ 0 then mvS (hasB (lev l1)) (hasB (lev l2)) M else cgsS (hasB (lev l1)) C := by unfold reE; rw [if_neg (by simpa using z1)]
  have HP1 := Lib.hid HP1
  have Z1 := Lib.hid z1
  clear z1
  go_enter Tryd.func27, Tryd.ntmps27
  go_wp2_with fail
  (with_reducible refine K1.out.mono ?_)
  intro e W2 he
  obtain ⟨x, y, rfl, hx, hy, b2, _, _⟩ := frame_ok he Z1.out
  obtain ⟨W3, hWn⟩ : ∃ W, W2.alloc (.cells #[row x, row y] 71) = W := ⟨_, rfl⟩
  have b3 : Below W2.heap.size W2 W3 := by rw [← hWn]; exact bel_one _ _
  have D3 : Hid (B2 W3 W2.heap.size (row x) (row y)) := by rw [← hWn]; exact B2.made _ _ _ _
  have X3 := Lib.hid (hx.below b3)
  have Y3 := Lib.hid (hy.below b3)
  have B3 := Lib.hid (b2.trans (b3.mono b2.size))
  clear b2 b3 hx hy
  by_cases z2 : frS l2 ≠ 0
  · have HP : reE l1 l2 M C = frS l2 := by rw [HP1.out, if_pos z2]
    obtain ⟨f, hfl⟩ : ∃ f, frS l2 = f := ⟨_, rfl⟩
    have HZ := Lib.hid z2
    have f1 : (f == 0) = false := by rw [beq_eq_false_iff_ne, ← hfl]; exact z2
    have f2 : (f != 0) = true := by rw [bne, f1]; rfl
    have HP : Hid (reE l1 l2 M C = f ∧ reE l1 l2 M C ≠ 0) := ⟨HP.trans hfl, by rw [HP]; exact z2⟩
    have HFL := Lib.hid hfl
    clear hfl z2
    go_wp2_with fail
    clear hWn
    (with_reducible refine (K2.out W3 B3.out).mono ?_)
    intro e W4 he
    obtain ⟨rfl, b2⟩ := frame_no he HZ.out
    rw [HFL.out]
    have B4 := B3.out.trans (b2.mono B3.out.size)
    have BB := Lib.hid (B4.trans ((bel_one W4 (.cells #[.slice none 0 0, .slice none 0 0] 71)).mono B4.size))
    clear b2 B4
    go_wp2_with fail
    exact bodyPost_ret (v := .tuple #[.slice none 0 0, .slice none 0 0, .int .i64 f]) (by simp [results, Tryd.results27, go_sem]) rfl (Or.inr ⟨HP.out.2, by rw [HP.out.1], BB.out⟩)
  have z2 : frS l2 = 0 := by omega
  have HP2 : reE l1 l2 M C = if mvS (hasB (lev l1)) (hasB (lev l2)) M ≠ 0 then mvS (hasB (lev l1)) (hasB (lev l2)) M else cgsS (hasB (lev l1)) C := by rw [HP1.out, if_neg (by simpa using z2)]
  have HP2 := Lib.hid HP2
  have Z2 := Lib.hid z2
  clear z2 HP1
  go_wp2_with fail
  clear hWn
  (with_reducible refine (K2.out W3 B3.out).mono ?_)
  intro e W4 he
  obtain ⟨x2, y2, rfl, hx, hy, b2, _, _⟩ := frame_ok he Z2.out
  obtain ⟨W5, hWn⟩ : ∃ W, W4.alloc (.cells #[row x2, row y2] 71) = W := ⟨_, rfl⟩
  have b3 : Below W4.heap.size W4 W5 := by rw [← hWn]; exact bel_one _ _
  have b5 : Below W3.heap.size W3 W5 := b2.trans (b3.mono b2.size)
  have D5 := Lib.hid (D3.out.keep b5)
  have X5 := Lib.hid (X3.out.below b5)
  have Y5 := Lib.hid (Y3.out.below b5)
  have B5 := Lib.hid (B3.out.trans (b5.mono B3.out.size))
  have E5 : Hid (B2 W5 W4.heap.size (row x2) (row y2)) := by rw [← hWn]; exact B2.made _ _ _ _
  have P5 := Lib.hid (hx.below b3)
  have Q5 := Lib.hid (hy.below b3)
  clear b2 b3 b5 hx hy D3 X3 Y3 B3
  have d0 := D5.out.c0
  have d1 := D5.out.c1
  have e0 := E5.out.c0
  have e1 := E5.out.c1
  have KM := Lib.hid (checkMoves_c x y x2 y2 (lev l1) (lev l2) a3 c3 M W5 Y5.out Q5.out (H3.out.below B5.out))
  obtain ⟨f, hfl⟩ : ∃ f, mvS (hasB (lev l1)) (hasB (lev l2)) M = f := ⟨_, rfl⟩
  rw [hfl] at KM
  have HP2 : Hid (reE l1 l2 M C = if f ≠ 0 then f else cgsS (hasB (lev l1)) C) := by unfold Hid; rw [HP2.out, hfl]
  have HFL := Lib.hid hfl
  clear hfl
  go_wp2_with fail
  clear hWn d0 d1 e0 e1
  (with_reducible refine KM.out.mono ?_)
  rintro e W6 ⟨rfl, b6⟩
  have D6 := Lib.hid (D5.out.keep b6)
  have X6 := Lib.hid (X5.out.below b6)
  have Y6 := Lib.hid (Y5.out.below b6)
  have B6 := Lib.hid (B5.out.trans (b6.mono B5.out.size))
  clear b6 D5 X5 Y5 B5 E5 P5 Q5
  by_cases z3 : f ≠ 0
  · have HP : Hid (reE l1 l2 M C = f ∧ reE l1 l2 M C ≠ 0) := by
      have e : reE l1 l2 M C = f := by rw [HP2.out, if_pos z3]
      exact ⟨e, by rw [e]; exact z3⟩
    have f1 : (f == 0) = false := by rw [beq_eq_false_iff_ne]; exact z3
    have f2 : (f != 0) = true := by rw [bne, f1]; rfl
    clear z3
    go_wp2_with fail
    exact bodyPost_ret (v := .tuple #[.slice none 0 0, .slice none 0 0, .int .i64 f]) (by simp [results, Tryd.results27, go_sem]) rfl (Or.inr ⟨HP.out.2, by rw [HP.out.1], B6.out⟩)
  have z3 : f = 0 := by omega
  subst z3
  have HP3 : Hid (reE l1 l2 M C = cgsS (hasB (lev l1)) C) := by unfold Hid; rw [HP2.out, if_neg (by simp)]
  have d0 := D6.out.c0
  have d1 := D6.out.c1
  have KC := Lib.hid (checkCodings_c x y (lev l1) a4 c4 C W6 Y6.out (H4.out.below B6.out))
  obtain ⟨f, hfl⟩ : ∃ f, cgsS (hasB (lev l1)) C = f := ⟨_, rfl⟩
  rw [hfl] at KC HP3
  have HGL := Lib.hid hfl
  clear hfl HP2
  go_wp2_with fail
  clear d0 d1
  (with_reducible refine KC.out.mono ?_)
  rintro e W7 ⟨rfl, b7⟩
  have B7 := Lib.hid (B6.out.trans (b7.mono B6.out.size))
  clear b7 D6 X6 Y6 B6
  by_cases z4 : f ≠ 0
  · have HP : Hid (reE l1 l2 M C = f ∧ reE l1 l2 M C ≠ 0) := ⟨HP3.out, by rw [HP3.out]; exact z4⟩
    have f1 : (f == 0) = false := by rw [beq_eq_false_iff_ne]; exact z4
    have f2 : (f != 0) = true := by rw [bne, f1]; rfl
    clear z4
    go_wp2_with fail
    exact bodyPost_ret (v := .tuple #[.slice none 0 0, .slice none 0 0, .int .i64 f]) (by simp [results, Tryd.results27, go_sem]) rfl (Or.inr ⟨HP.out.2, by rw [HP.out.1], B7.out⟩)
  have z4 : f = 0 := by omega
  subst z4
  have LM := mv_len (M := M) HFL.out (fun c h => hasB_rng h)
  have LC := cgs_ok HGL.out
  have hmn := LM.1
  have hcn := LC.1
  have KS := Lib.hid (successors_c a1 c1 l1 a2 c2 l2 a3 c3 M W7 (H1.out.below B7.out) F1.out (H2.out.below B7.out) F2.out (H3.out.below B7.out) F3.out (len_of Z1.out) (len_of Z2.out) hmn)
  clear LM LC hmn
  go_wp2_with fail
  (with_reducible refine KS.out.mono ?_)
  rintro e W8 ⟨mb, rfl, hnu, b8⟩
  have B8 := Lib.hid (B7.out.trans (b8.mono B7.out.size))
  have KR := Lib.hid (recoded_c a4 c4 C mb _ (suO l1 l2 M) W8 (H4.out.below B8.out) F4.out hcn hnu)
  clear hnu b8
  go_wp2_with fail
  (with_reducible refine KR.out.mono ?_)
  rintro e W9 ⟨v4, v5, rfl, hR⟩
  have L9 := carL_len (suS l1 l2 M) C
  have R4 : Hid (∃ a c, v4 = .slice a (carL (suS l1 l2 M) C).length c ∧ RdC W9 a (carL (suS l1 l2 M) C)) := rdC_own hR.o4 (by have := L9.1; unfold suS at this; omega)
  have R5 : Hid (∃ a c, v5 = .slice a (lefL (suS l1 l2 M) C).length c ∧ RdC W9 a (lefL (suS l1 l2 M) C)) := rdC_own hR.o5 (by have := L9.2; unfold suS at this; omega)
  have B9 := Lib.hid (B8.out.trans (hR.bel.mono B8.out.size))
  clear hR L9 hcn
  go_wp2_with fail
  exact bodyPost_ret (v := .tuple #[v4, v5, .int .i64 0]) (by simp [results, Tryd.results27, go_sem]) rfl (Or.inl ⟨HP3.out, v4, v5, rfl, R4.out, R5.out, B9.out⟩)
end Go.Proofs.YthdmodmplpoejaaDoor
