/-
  Package code: frameWith, Meeting.
-/
import Derived.Test.YthdmodmplpoejaaDoorCdFr
namespace Go.Proofs.YthdmodmplpoejaaDoor
open Go.RowKit Go.WideMaps Go.Maps

/-- The code is one of the frame's. -/
def hasS (l : List Nd) (c : Int) : Bool := hasB (lev l) c
theorem hasS_iff {l : List Nd} (h : Fr l) {c : Int} : hasS l c = true ↔ ∃ k : Nat, c = k ∧ Has l k := by
  unfold hasS hasB
  rw [Bool.and_eq_true, Bool.and_eq_true, decide_eq_true_iff, decide_eq_true_iff, decide_eq_true_iff]
  constructor
  · rintro ⟨h1, h2, h3⟩
    refine ⟨c.toNat, by omega, ?_⟩
    by_cases hh : Has l c.toNat
    · exact hh
    · rw [lev_no hh] at h3; omega
  · rintro ⟨k, rfl, hk⟩
    have a := has_pos h.ord hk
    have b := h.lev hk
    rw [Int.toNat_natCast]
    exact ⟨by omega, by omega, by omega⟩
def codeE (l : List Nd) (cs : List Int) (k : Nat) : Int := if hasS l (fn cs k) = false then 5 else 0
def withS (l : List Nd) (cs : List Int) : Int := if frS l ≠ 0 then frS l else fe (codeE l cs) cs.length
def FwP (l : List Nd) (f : Int) (w : World) (e : Ending) (w' : World) : Prop :=
  (f = 0 ∧ ∃ x y, e = .returned (.tuple #[fv x y, .int .i64 0]) ∧ Arr w' x (par l) ∧ Arr w' y (lev l) ∧ Below w.heap.size w w' ∧ w.heap.size < x ∧ w.heap.size < y) ∨
  (f ≠ 0 ∧ e = .returned (.tuple #[.agg #[.slice none 0 0, .slice none 0 0], .int .i64 f]) ∧ Below w.heap.size w w')
theorem frame_ok {l : List Nd} {w w' : World} {e : Ending} (h : FrP l w e w') (hz : frS l = 0) : ∃ x y, e = .returned (.tuple #[fv x y, .int .i64 0]) ∧ Arr w' x (par l) ∧ Arr w' y (lev l) ∧ Below w.heap.size w w' ∧ w.heap.size < x ∧ w.heap.size < y := by
  rcases h with ⟨_, h⟩ | ⟨h, _⟩
  · exact h
  · exact absurd hz h
theorem frame_no {l : List Nd} {w w' : World} {e : Ending} (h : FrP l w e w') (hz : frS l ≠ 0) : e = .returned (.tuple #[.agg #[.slice none 0 0, .slice none 0 0], .int .i64 (frS l)]) ∧ Below w.heap.size w w' := by
  rcases h with ⟨h, _⟩ | ⟨_, h⟩
  · exact absurd h hz
  · exact h
theorem B2.frame (w : World) (x0 x1 : Value) (T : TypeId) : Below w.heap.size w (w.alloc (.cells #[x0, x1] T)) ∧ B2 (w.alloc (.cells #[x0, x1] T)) w.heap.size x0 x1 := ⟨bel_one _ _, B2.made _ _ _ _⟩
set_option maxRecDepth 100000 in
set_option maxHeartbeats 4000000 in
theorem frameWith_c (a : Option Addr) (c : Nat) (l : List Nd) (a2 : Option Addr) (c2 : Nat) (cs : List Int) (w : World) (hl : RdN w a l) (hf : Fits l) (hcs : Rd w a2 cs) :
    Calls Tryd.prog 41 #[.slice a l.length c, .slice a2 cs.length c2] w (FwP l (withS l cs) w) := by
  have h9 := hl.1
  have h8 := hcs.1
  obtain ⟨W1, hW1⟩ : ∃ W1, w.alloc (.cells #[.slice none 0 0, .slice none 0 0] 71) = W1 := ⟨_, rfl⟩
  have B1 : Hid (Below w.heap.size w W1) := by rw [← hW1]; exact bel_one _ _
  have R1 : Hid (B2 W1 w.heap.size (.slice none 0 0) (.slice none 0 0)) := by rw [← hW1]; exact B2.made _ _ _ _
  have HC := Lib.hid (frameOf_c a c l W1 (hl.below B1.out) hf)
  have HCS := Lib.hid hcs
  clear hl hf hcs
  by_cases hz : frS l ≠ 0
  · have HP : Hid (withS l cs = frS l) := by unfold Hid withS; rw [if_pos hz]
    have HZ := Lib.hid hz
    obtain ⟨f, hfl⟩ : ∃ f, frS l = f := ⟨_, rfl⟩
    have HFL := Lib.hid hfl
    rw [hfl] at hz
    have f1 : (f == 0) = false := by rw [beq_eq_false_iff_ne]; exact hz
    have f2 : (f != 0) = true := by rw [bne, f1]; rfl
    clear hfl hz
    go_enter Tryd.func41, Tryd.ntmps41
    go_wp2_with fail
    (with_reducible refine HC.out.mono ?_)
    intro e W2 he
    obtain ⟨rfl, b2⟩ := frame_no he HZ.out
    rw [HFL.out]
    have R2 := R1.out.keep b2
    have BW2 := B1.out.trans (b2.mono B1.out.size)
    have b3 : Below W2.heap.size W2 (W2.alloc (.cells #[.slice none 0 0, .slice none 0 0] 71)) := bel_one _ _
    have R3 := R2.keep b3
    have BW3 := BW2.trans (b3.mono BW2.size)
    obtain ⟨W9, hW9⟩ : ∃ W9, two (W2.alloc (.cells #[.slice none 0 0, .slice none 0 0] 71)) w.heap.size (.slice none 0 0) (.slice none 0 0) = W9 := ⟨_, rfl⟩
    have R9 : B2 W9 w.heap.size (.slice none 0 0) (.slice none 0 0) := by rw [← hW9]; exact R3.set _ _
    have PP : Hid (FwP l (withS l cs) w (.returned (.tuple #[.agg #[.slice none 0 0, .slice none 0 0], .int .i64 f])) W9) := by
      rw [← hW9, HP.out]
      exact Or.inr ⟨HZ.out, by rw [HFL.out], below_two BW3 (Nat.le_refl _) _ _⟩
    have q0 := R3.c0
    have q1 := R3.c1
    have g0 := R3.fr 0
    have g1 := R3.fr 1
    obtain ⟨r0, r1, _, _⟩ := id R9
    unfold two at hW9
    clear R9 R3 b3 R2 b2 BW2 BW3 hW1 R1
    go_wp2_with fail
    exact bodyPost_ret (v := .tuple #[.agg #[.slice none 0 0, .slice none 0 0], .int .i64 f]) (by simp [results, Tryd.results41, go_sem, r0, r1]) rfl PP.out
  have hz : frS l = 0 := by omega
  have HP : Hid (withS l cs = fe (codeE l cs) cs.length) := by unfold Hid withS; rw [if_neg (by simpa using hz)]
  have HZ := Lib.hid hz
  clear hz
  go_enter Tryd.func41, Tryd.ntmps41
  go_wp2_with fail
  (with_reducible refine HC.out.mono ?_)
  intro e W2 he
  obtain ⟨x, y, rfl, hx, hy, b2, lx, ly⟩ := frame_ok he HZ.out
  have R2 := R1.out.keep b2
  have BW2 := B1.out.trans (b2.mono B1.out.size)
  obtain ⟨W3, hW3⟩ : ∃ W3, W2.alloc (.cells #[row x, row y] 71) = W3 := ⟨_, rfl⟩
  have b3 : Below W2.heap.size W2 W3 := by rw [← hW3]; exact bel_one _ _
  have R3 := Lib.hid (R2.keep b3)
  have BW3 := Lib.hid (BW2.trans (b3.mono BW2.size))
  have D3 : Hid (B2 W3 W2.heap.size (row x) (row y)) := by rw [← hW3]; exact B2.made _ _ _ _
  have X3 := Lib.hid (hx.below b3)
  have Y3 := Lib.hid (hy.below b3)
  have hW3' : Hid (w.heap.size < W2.heap.size) := R2.lt
  have LXY : Hid (w.heap.size < x ∧ w.heap.size < y) := by have := R1.out.lt; exact ⟨by omega, by omega⟩
  clear R2 b2 BW2 hx hy b3 hW1 R1 HC he lx ly
  go_wp2_with fail
  obtain ⟨z, hzz⟩ : ∃ z, W2.heap.size = z := ⟨_, rfl⟩
  rw [hzz] at D3 hW3' ⊢
  clear hW3
  go_loopw [5, 9, 21] (fun fl _ i wr => ∃ k : Nat, k ≤ cs.length ∧ i = .int .i64 k ∧ fl = .int .i64 0 ∧ Hid (Below W3.heap.size W3 wr ∧ fe (codeE l cs) k = 0)) (fun _ _ i _ => cs.length - (intOf i).toNat)
  case atStart => exact ⟨0, Nat.zero_le _, rfl, rfl, Below.refl _ _, rfl⟩
  case round =>
    obtain ⟨k, hk, rfl, rfl, hS⟩ := hrel
    have D4 := Lib.hid (D3.out.keep hS.out.1)
    have R4 := Lib.hid (R3.out.keep hS.out.1)
    have B4 := Lib.hid (BW3.out.trans (hS.out.1.mono BW3.out.size))
    have d0 := D4.out.c0
    have d1 := D4.out.c1
    by_cases hlt : k < cs.length
    · obtain ⟨b', off, rfl, u0⟩ := (HCS.out.below B4.out).at_ hlt
      have hlt' : (k : Int) < (cs.length : Int) := by omega
      have HH := Lib.hid (has_c x y (lev l) (fn cs k) wr (Y3.out.below hS.out.1))
      have hN : Hid (fe (codeE l cs) (k + 1) = codeE l cs k) := fe_next hS.out.2
      by_cases hb : hasS l (fn cs k) = true
      · have hz : Hid (fe (codeE l cs) (k + 1) = 0) := by unfold Hid; rw [hN.out]; unfold codeE; rw [if_neg (by rw [hb]; simp)]
        unfold hasS at hb
        rw [hb] at HH
        clear hb hN
        go_wp2_with fail
        (with_reducible refine HH.out.mono ?_)
        rintro e w' ⟨rfl, b5⟩
        have NX : Hid (Below W3.heap.size W3 w' ∧ fe (codeE l cs) (k + 1) = 0) := ⟨hS.out.1.trans (b5.mono hS.out.1.size), hz.out⟩
        clear b5 d0 d1 u0
        go_wp2
        go_roundw
        case rel => exact ⟨k + 1, by omega, by go_num, rfl, NX.out⟩
        case measure => simp [intOf]; omega
      · have hb' : hasS l (fn cs k) = false := by simpa using hb
        have hE : codeE l cs k = 5 := by unfold codeE; rw [if_pos hb']
        have RR : Hid (withS l cs = 5) := by unfold Hid; rw [HP.out, fe_at hlt hS.out.2 (by rw [hE]; decide), hE]
        unfold hasS at hb'
        rw [hb'] at HH
        clear hb hb' hN hE
        go_wp2_with fail
        (with_reducible refine HH.out.mono ?_)
        rintro e w' ⟨rfl, b5⟩
        have R5 := R4.out.keep b5
        have B5 := B4.out.trans (b5.mono B4.out.size)
        obtain ⟨W9, hW9⟩ : ∃ W9, two w' w.heap.size (.slice none 0 0) (.slice none 0 0) = W9 := ⟨_, rfl⟩
        have R9 : B2 W9 w.heap.size (.slice none 0 0) (.slice none 0 0) := by rw [← hW9]; exact R5.set _ _
        have PP : Hid (FwP l (withS l cs) w (.returned (.tuple #[.agg #[.slice none 0 0, .slice none 0 0], .int .i64 5])) W9) := by
          rw [← hW9, RR.out]
          exact Or.inr ⟨by decide, rfl, below_two B5 (Nat.le_refl _) _ _⟩
        have q0 := R5.c0
        have q1 := R5.c1
        have g0 := R5.fr 0
        have g1 := R5.fr 1
        obtain ⟨r0, r1, _, _⟩ := id R9
        unfold two at hW9
        clear R9 R5 b5 B5 d0 d1 u0
        go_wp2_with fail
        exact bodyPost_ret (v := .tuple #[.agg #[.slice none 0 0, .slice none 0 0], .int .i64 5]) (by simp [results, Tryd.results41, go_sem, r0, r1]) rfl PP.out
    · obtain rfl : k = cs.length := by omega
      have RR : Hid (withS l cs = 0) := by unfold Hid; rw [HP.out, hS.out.2]
      obtain ⟨wA, hwA⟩ : ∃ x : World, x = wr := ⟨wr, rfl⟩
      subst hwA
      clear hlt
      obtain ⟨W9, hW9⟩ : ∃ W9, two wA w.heap.size (row x) (row y) = W9 := ⟨_, rfl⟩
      have R9 : B2 W9 w.heap.size (row x) (row y) := by rw [← hW9]; exact R4.out.set _ _
      have PP : Hid (FwP l (withS l cs) w (.returned (.tuple #[fv x y, .int .i64 0])) W9) := by
        rw [← hW9, RR.out]
        have hx := X3.out.below hS.out.1
        have hy := Y3.out.below hS.out.1
        have lx := LXY.out.1
        have ly := LXY.out.2
        refine Or.inl ⟨rfl, x, y, rfl, ⟨by rw [two_size]; exact hx.1, fun j hj => by rw [two_cell (by omega)]; exact hx.2 j hj⟩, ⟨by rw [two_size]; exact hy.1, fun j hj => by rw [two_cell (by omega)]; exact hy.2 j hj⟩, below_two B4.out (Nat.le_refl _) _ _, lx, ly⟩
      have q0 := R4.out.c0
      have q1 := R4.out.c1
      have g0 := R4.out.fr 0
      have g1 := R4.out.fr 1
      obtain ⟨r0, r1, _, _⟩ := id R9
      unfold two at hW9
      clear R9
      go_wp2_with fail
      exact bodyPost_ret (v := .tuple #[fv x y, .int .i64 0]) (by simp [results, Tryd.results41, go_sem, r0, r1]) rfl PP.out
end Go.Proofs.YthdmodmplpoejaaDoor
