/-
  Package code: frameFor, CheckFrame, CheckCodings.
-/
import Derived.Test.YthdmodmplpoejaaDoorCdChkC
namespace Go.Proofs.YthdmodmplpoejaaDoor
open Go.RowKit Go.WideMaps Go.Maps

/-- CheckCodings' answer. -/
def forS (l : List Nd) (C : List Cg) : Int := if frS l ≠ 0 then frS l else cgsS (hasB (lev l)) C
set_option maxRecDepth 100000 in
set_option maxHeartbeats 4000000 in
theorem frameFor_c (a : Option Addr) (c : Nat) (l : List Nd) (a2 : Option Addr) (c2 : Nat) (C : List Cg) (w : World) (hl : RdN w a l) (hf : Fits l) (hcs : RdC w a2 C) :
    Calls Tryd.prog 47 #[.slice a l.length c, .slice a2 C.length c2] w (FwP l (forS l C) w) := by
  have h9 := hl.1
  have h8 := hcs.1
  obtain ⟨W1, hW1⟩ : ∃ W1, w.alloc (.cells #[.slice none 0 0, .slice none 0 0] 71) = W1 := ⟨_, rfl⟩
  have B1 : Hid (Below w.heap.size w W1) := by rw [← hW1]; exact bel_one _ _
  have R1 : Hid (B2 W1 w.heap.size (.slice none 0 0) (.slice none 0 0)) := by rw [← hW1]; exact B2.made _ _ _ _
  have HC := Lib.hid (frameOf_c a c l W1 (hl.below B1.out) hf)
  have HCS := Lib.hid hcs
  clear hl hf hcs
  by_cases hz : frS l ≠ 0
  · have HP : Hid (forS l C = frS l) := by unfold Hid forS; rw [if_pos hz]
    have HZ := Lib.hid hz
    obtain ⟨f, hfl⟩ : ∃ f, frS l = f := ⟨_, rfl⟩
    have HFL := Lib.hid hfl
    rw [hfl] at hz
    have f1 : (f == 0) = false := by rw [beq_eq_false_iff_ne]; exact hz
    have f2 : (f != 0) = true := by rw [bne, f1]; rfl
    clear hfl hz
    go_enter Tryd.func47, Tryd.ntmps47
    go_wp2_with fail
    (with_reducible refine HC.out.mono ?_)
    intro e W2 he
    obtain ⟨rfl, b2⟩ := frame_no he HZ.out
    rw [HFL.out]
    have R2 := R1.out.keep b2
    have BW2 := B1.out.trans (b2.mono B1.out.size)
    have b3 : Below W2.heap.size W2 (W2.alloc (.cells #[.slice none 0 0, .slice none 0 0] 71)) := bel_one _ _
    have R3 := R2.keep b3
    have BW3 := BW2.trans (b3.mono BW2.size)
    obtain ⟨W9, hW9⟩ : ∃ W9, two (W2.alloc (.cells #[.slice none 0 0, .slice none 0 0] 71)) w.heap.size (.slice none 0 0) (.slice none 0 0) = W9 := ⟨_, rfl⟩
    have R9 : B2 W9 w.heap.size (.slice none 0 0) (.slice none 0 0) := by rw [← hW9]; exact R3.set _ _
    have PP : Hid (FwP l (forS l C) w (.returned (.tuple #[.agg #[.slice none 0 0, .slice none 0 0], .int .i64 f])) W9) := by
      rw [← hW9, HP.out]
      exact Or.inr ⟨HZ.out, by rw [HFL.out], below_two BW3 (Nat.le_refl _) _ _⟩
    have q0 := R3.c0
    have q1 := R3.c1
    have g0 := R3.fr 0
    have g1 := R3.fr 1
    obtain ⟨r0, r1, _, _⟩ := id R9
    unfold two at hW9
    clear R9 R3 b3 R2 b2 BW2 BW3 hW1 R1
    go_wp2_with fail
    exact bodyPost_ret (v := .tuple #[.agg #[.slice none 0 0, .slice none 0 0], .int .i64 f]) (by simp [results, Tryd.results47, go_sem, r0, r1]) rfl PP.out
  have hz : frS l = 0 := by omega
  have HP : Hid (forS l C = cgsS (hasB (lev l)) C) := by unfold Hid forS; rw [if_neg (by simpa using hz)]
  have HZ := Lib.hid hz
  clear hz
  go_enter Tryd.func47, Tryd.ntmps47
  go_wp2_with fail
  (with_reducible refine HC.out.mono ?_)
  intro e W2 he
  obtain ⟨x, y, rfl, hx, hy, b2, lx, ly⟩ := frame_ok he HZ.out
  have R2 := R1.out.keep b2
  have BW2 := B1.out.trans (b2.mono B1.out.size)
  obtain ⟨W3, hW3⟩ : ∃ W3, W2.alloc (.cells #[row x, row y] 71) = W3 := ⟨_, rfl⟩
  have b3 : Below W2.heap.size W2 W3 := by rw [← hW3]; exact bel_one _ _
  have R3 := Lib.hid (R2.keep b3)
  have BW3 := Lib.hid (BW2.trans (b3.mono BW2.size))
  have D3 : Hid (B2 W3 W2.heap.size (row x) (row y)) := by rw [← hW3]; exact B2.made _ _ _ _
  have X3 := Lib.hid (hx.below b3)
  have Y3 := Lib.hid (hy.below b3)
  have hW3' : Hid (w.heap.size < W2.heap.size) := R2.lt
  have LXY : Hid (w.heap.size < x ∧ w.heap.size < y) := by have := R1.out.lt; exact ⟨by omega, by omega⟩
  clear R2 b2 BW2 hx hy b3 hW1 R1 HC he lx ly
  have d0 := D3.out.c0
  have d1 := D3.out.c1
  have HK := Lib.hid (checkCodings_c x y (lev l) a2 c2 C W3 Y3.out (HCS.out.below BW3.out))
  obtain ⟨f, hfl⟩ : ∃ f, cgsS (hasB (lev l)) C = f := ⟨_, rfl⟩
  rw [hfl] at HK HP
  clear hfl
  go_wp2_with fail
  clear hW3 d0 d1
  (with_reducible refine HK.out.mono ?_)
  rintro e W4 ⟨rfl, b4⟩
  have R4 := Lib.hid (R3.out.keep b4)
  have B4 := Lib.hid (BW3.out.trans (b4.mono BW3.out.size))
  have D4 := Lib.hid (D3.out.keep b4)
  have X4 := Lib.hid (X3.out.below b4)
  have Y4 := Lib.hid (Y3.out.below b4)
  clear b4
  by_cases hz : f = 0
  · subst hz
    have d0 := D4.out.c0
    have d1 := D4.out.c1
    obtain ⟨W9, hW9⟩ : ∃ W9, two W4 w.heap.size (row x) (row y) = W9 := ⟨_, rfl⟩
    have R9 : B2 W9 w.heap.size (row x) (row y) := by rw [← hW9]; exact R4.out.set _ _
    have PP : Hid (FwP l (forS l C) w (.returned (.tuple #[fv x y, .int .i64 0])) W9) := by
      rw [← hW9, HP.out]
      have hx := X4.out
      have hy := Y4.out
      have lx := LXY.out.1
      have ly := LXY.out.2
      refine Or.inl ⟨rfl, x, y, rfl, ⟨by rw [two_size]; exact hx.1, fun j hj => by rw [two_cell (by omega)]; exact hx.2 j hj⟩, ⟨by rw [two_size]; exact hy.1, fun j hj => by rw [two_cell (by omega)]; exact hy.2 j hj⟩, below_two B4.out (Nat.le_refl _) _ _, lx, ly⟩
    have q0 := R4.out.c0
    have q1 := R4.out.c1
    have g0 := R4.out.fr 0
    have g1 := R4.out.fr 1
    obtain ⟨r0, r1, _, _⟩ := id R9
    unfold two at hW9
    clear R9
    go_wp2_with fail
    exact bodyPost_ret (v := .tuple #[fv x y, .int .i64 0]) (by simp [results, Tryd.results47, go_sem, r0, r1]) rfl PP.out
  · have f1 : (f == 0) = false := by rw [beq_eq_false_iff_ne]; exact hz
    have f2 : (f != 0) = true := by rw [bne, f1]; rfl
    have HZ2 := Lib.hid hz
    clear hz
    obtain ⟨W9, hW9⟩ : ∃ W9, two W4 w.heap.size (.slice none 0 0) (.slice none 0 0) = W9 := ⟨_, rfl⟩
    have R9 : B2 W9 w.heap.size (.slice none 0 0) (.slice none 0 0) := by rw [← hW9]; exact R4.out.set _ _
    have PP : Hid (FwP l (forS l C) w (.returned (.tuple #[.agg #[.slice none 0 0, .slice none 0 0], .int .i64 f])) W9) := by
      rw [← hW9, HP.out]
      exact Or.inr ⟨HZ2.out, rfl, below_two B4.out (Nat.le_refl _) _ _⟩
    have q0 := R4.out.c0
    have q1 := R4.out.c1
    have g0 := R4.out.fr 0
    have g1 := R4.out.fr 1
    obtain ⟨r0, r1, _, _⟩ := id R9
    unfold two at hW9
    clear R9
    go_wp2_with fail
    exact bodyPost_ret (v := .tuple #[.agg #[.slice none 0 0, .slice none 0 0], .int .i64 f]) (by simp [results, Tryd.results47, go_sem, r0, r1]) rfl PP.out
end Go.Proofs.YthdmodmplpoejaaDoor
