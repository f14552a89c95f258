/-
  Groups and Overlap, on both sides.
-/
import Derived.Test.YtiengbhncgnjnaaGreatDoorPanGrp
namespace Go.Proofs.YtiengbhncgnjnaaGreatDoor
open Go.RowKit

theorem chk_zero {i o g : Int} (h : chkRot i o g = 0) : (1 ≤ i ∧ i ≤ 1000) ∧ (0 ≤ o ∧ o ≤ 1000) ∧ (0 ≤ g ∧ g ≤ 1000) := by
  unfold chkRot at h
  split at h
  · omega
  · omega
def gF (i o g wave : Int) : Int := if chkRot i o g ≠ 0 then chkRot i o g else if wave < 1 ∨ 1000 < wave then 1 else 0
def gL (i o g wave : Int) : List Int := if chkRot i o g ≠ 0 then [] else if wave < 1 ∨ 1000 < wave then [] else grpL i o g wave wave.toNat
/-- The box of a rotation. -/
def RB (w : World) (i o g : Int) (W : World) : Prop :=
  W.cell? ⟨w.heap.size, 0, none⟩ = some (.int .i64 i) ∧ W.cell? ⟨w.heap.size, 1, none⟩ = some (.int .i64 o) ∧ W.cell? ⟨w.heap.size, 2, none⟩ = some (.int .i64 g) ∧ Hid (Below w.heap.size w W ∧ w.heap.size < W.heap.size)
theorem RB.keep {w W W' : World} {i o g : Int} (h : RB w i o g W) (hb : Below W.heap.size W W') : RB w i o g W' := by
  obtain ⟨a0, a1, a2, s⟩ := h
  obtain ⟨bl, hx⟩ := s.out
  have f := fun (o : Nat) => hb.cell (p := ⟨w.heap.size, o, none⟩) hx
  exact ⟨(f _).trans a0, (f _).trans a1, (f _).trans a2, bl.trans (hb.mono (by omega)), Nat.lt_of_lt_of_le hx hb.size⟩
theorem RB.make (w : World) (i o g : Int) : RB w i o g (w.alloc (.cells #[.int .i64 i, .int .i64 o, .int .i64 g] 23)) :=
  ⟨by rw [World.cell?_alloc_at _ _ _ _ rfl]; rfl, by rw [World.cell?_alloc_at _ _ _ _ rfl]; rfl, by rw [World.cell?_alloc_at _ _ _ _ rfl]; rfl, bel_one _ _, by simp⟩
theorem Grown.nil {w W : World} (h : Below w.heap.size w W) : Grown w.heap.size w [] (.slice none 0 0) W := ⟨World.ownsRow_nil _ _ _ _, h, h.size⟩
theorem Grown.from {w W wr : World} {L : List Int} {v : Value} (hb : Below w.heap.size w W) (h : Grown W.heap.size W L v wr) : Grown w.heap.size w L v wr := by
  refine ⟨⟨h.row.1, ?_⟩, hb.trans (h.bel.mono hb.size), Nat.le_trans hb.size h.size⟩
  rcases h.row.2 with h | ⟨g, cap, cur, e1, e2, e3⟩
  · exact .inl h
  · exact .inr ⟨g, cap, cur, e1, Nat.le_trans hb.size e2, e3⟩
def GPost (L : List Int) (f : Int) (w : World) (e : Ending) (w' : World) : Prop := ∃ v, e = .returned (.tuple #[v, .int .i64 f]) ∧ Grown w.heap.size w L v w'
set_option maxHeartbeats 2000000 in
theorem Groups_c (i o g wave : Int) (w : World) : Calls Tryz.prog 5 #[rotV i o g, .int .i64 wave] w (GPost (gL i o g wave) (gF i o g wave) w) := by
  have HC := Lib.hid (fun W => chk_c i o g W)
  have R0 := RB.make w i o g
  by_cases h0 : chkRot i o g = 0
  · obtain ⟨hi, ho, hg⟩ := chk_zero h0
    have n0 : ¬ chkRot i o g ≠ 0 := fun h => h h0
    by_cases hw : wave < 1 ∨ 1000 < wave
    · have e1 : Hid (gL i o g wave = []) := by unfold Hid gL; rw [if_neg n0, if_pos hw]
      have e2 : Hid (gF i o g wave = 1) := by unfold Hid gF; rw [if_neg n0, if_pos hw]
      rw [h0] at HC
      rw [e1.out, e2.out]
      have hww : (decide (wave < 1) || decide (1000 < wave)) = true := by simpa using hw
      have hww2 : (decide (1 ≤ wave) && decide (wave ≤ 1000)) = false := by simp; omega
      clear hi ho hg h0 n0
      obtain ⟨W1, hW1⟩ : ∃ W1, w.alloc (.cells #[.int .i64 i, .int .i64 o, .int .i64 g] 23) = W1 := ⟨_, rfl⟩
      rw [hW1] at R0
      have HR := Lib.hid R0
      dsimp only [RB] at R0
      go_enter Tryz.func5, Tryz.ntmps5
      go_wp2_with fail
      clear R0 hW1
      refine (HC.out W1).mono ?_
      rintro e w2 ⟨rfl, b2⟩
      have R2 := HR.out.keep b2
      have H2 := Lib.hid R2
      clear b2 HR
      dsimp only [RB] at R2
      go_wp2_with (fail)
      all_goals first
        | omega
        | (go_ret2; exact ⟨_, rfl, Grown.nil H2.out.2.2.2.out.1⟩)
    · obtain ⟨m, rfl⟩ : ∃ m : Nat, wave = (m : Int) := ⟨wave.toNat, by omega⟩
      have hm : 1 ≤ m ∧ m ≤ 1000 := by omega
      have e1 : Hid (gL i o g m = grpL i o g m m) := by unfold Hid gL; rw [if_neg n0, if_neg hw, Int.toNat_natCast]
      have e2 : Hid (gF i o g m = 0) := by unfold Hid gF; rw [if_neg n0, if_neg hw]
      rw [h0] at HC
      rw [e1.out, e2.out]
      have HG := Lib.hid (fun W => groupsIn_c i o g m W hi ho hg hm.2)
      have hw1 : (1 : Int) ≤ (m : Int) := by omega
      have hw2 : (m : Int) ≤ 1000 := by omega
      clear hi ho hg h0 n0 hw hm
      obtain ⟨W1, hW1⟩ : ∃ W1, w.alloc (.cells #[.int .i64 i, .int .i64 o, .int .i64 g] 23) = W1 := ⟨_, rfl⟩
      rw [hW1] at R0
      have HR := Lib.hid R0
      dsimp only [RB] at R0
      go_enter Tryz.func5, Tryz.ntmps5
      go_wp2_with fail
      clear R0 hW1
      refine (HC.out W1).mono ?_
      rintro e w2 ⟨rfl, b2⟩
      have R2 := HR.out.keep b2
      have H2 := Lib.hid R2
      clear b2 HR
      dsimp only [RB] at R2
      go_wp2_with (fail)
      refine (HG.out w2).mono ?_
      rintro e w3 ⟨v, rfl, hv⟩
      have HV := Lib.hid hv
      clear hv R2
      go_wp2
      go_ret2
      exact ⟨v, rfl, Grown.from H2.out.2.2.2.out.1 HV.out⟩
  · have e1 : Hid (gL i o g wave = []) := by unfold Hid gL; rw [if_pos h0]
    have e2 : Hid (gF i o g wave = chkRot i o g) := by unfold Hid gF; rw [if_pos h0]
    rw [e1.out, e2.out]
    generalize chkRot i o g = x at *
    have hx : (x == 0) = false := by simpa using h0
    obtain ⟨W1, hW1⟩ : ∃ W1, w.alloc (.cells #[.int .i64 i, .int .i64 o, .int .i64 g] 23) = W1 := ⟨_, rfl⟩
    rw [hW1] at R0
    have HR := Lib.hid R0
    dsimp only [RB] at R0
    go_enter Tryz.func5, Tryz.ntmps5
    go_wp2_with fail
    clear R0 hW1
    refine (HC.out W1).mono ?_
    rintro e w2 ⟨rfl, b2⟩
    have R2 := HR.out.keep b2
    clear b2 HR
    go_wp2
    go_ret2
    exact ⟨_, rfl, Grown.nil R2.2.2.2.out.1⟩
set_option maxHeartbeats 2000000 in
theorem RGroups_c (i o g wave : Int) (w : World) : Calls Tryz.prog 6 #[rotV i o g, .int .i64 wave] w (GPost (gL i o g wave) (gF i o g wave) w) := by
  have HC := Lib.hid (fun W => rchk_c i o g W)
  have R0 := RB.make w i o g
  by_cases h0 : chkRot i o g = 0
  · obtain ⟨hi, ho, hg⟩ := chk_zero h0
    have n0 : ¬ chkRot i o g ≠ 0 := fun h => h h0
    by_cases hw : wave < 1 ∨ 1000 < wave
    · have e1 : Hid (gL i o g wave = []) := by unfold Hid gL; rw [if_neg n0, if_pos hw]
      have e2 : Hid (gF i o g wave = 1) := by unfold Hid gF; rw [if_neg n0, if_pos hw]
      rw [h0] at HC
      rw [e1.out, e2.out]
      have hww : (decide (wave < 1) || decide (1000 < wave)) = true := by simpa using hw
      have hww2 : (decide (1 ≤ wave) && decide (wave ≤ 1000)) = false := by simp; omega
      clear hi ho hg h0 n0
      obtain ⟨W1, hW1⟩ : ∃ W1, w.alloc (.cells #[.int .i64 i, .int .i64 o, .int .i64 g] 23) = W1 := ⟨_, rfl⟩
      rw [hW1] at R0
      have HR := Lib.hid R0
      dsimp only [RB] at R0
      go_enter Tryz.func6, Tryz.ntmps6
      go_wp2_with fail
      clear R0 hW1
      refine (HC.out W1).mono ?_
      rintro e w2 ⟨rfl, b2⟩
      have R2 := HR.out.keep b2
      have H2 := Lib.hid R2
      clear b2 HR
      dsimp only [RB] at R2
      go_wp2_with (go_at_call 15; refine (within_c _ _ _ _).mono ?_; rintro e w' ⟨rfl, rfl⟩)
      all_goals first
        | omega
        | (go_ret2; exact ⟨_, rfl, Grown.nil H2.out.2.2.2.out.1⟩)
    · obtain ⟨m, rfl⟩ : ∃ m : Nat, wave = (m : Int) := ⟨wave.toNat, by omega⟩
      have hm : 1 ≤ m ∧ m ≤ 1000 := by omega
      have e1 : Hid (gL i o g m = grpL i o g m m) := by unfold Hid gL; rw [if_neg n0, if_neg hw, Int.toNat_natCast]
      have e2 : Hid (gF i o g m = 0) := by unfold Hid gF; rw [if_neg n0, if_neg hw]
      rw [h0] at HC
      rw [e1.out, e2.out]
      have HG := Lib.hid (fun W => groups_c i o g m W hi ho hg hm.2)
      have hw1 : (1 : Int) ≤ (m : Int) := by omega
      have hw2 : (m : Int) ≤ 1000 := by omega
      clear hi ho hg h0 n0 hw hm
      obtain ⟨W1, hW1⟩ : ∃ W1, w.alloc (.cells #[.int .i64 i, .int .i64 o, .int .i64 g] 23) = W1 := ⟨_, rfl⟩
      rw [hW1] at R0
      have HR := Lib.hid R0
      dsimp only [RB] at R0
      go_enter Tryz.func6, Tryz.ntmps6
      go_wp2_with fail
      clear R0 hW1
      refine (HC.out W1).mono ?_
      rintro e w2 ⟨rfl, b2⟩
      have R2 := HR.out.keep b2
      have H2 := Lib.hid R2
      clear b2 HR
      dsimp only [RB] at R2
      go_wp2_with (go_at_call 15; refine (within_c _ _ _ _).mono ?_; rintro e w' ⟨rfl, rfl⟩)
      refine (HG.out w2).mono ?_
      rintro e w3 ⟨v, rfl, hv⟩
      have HV := Lib.hid hv
      clear hv R2
      go_wp2
      go_ret2
      exact ⟨v, rfl, Grown.from H2.out.2.2.2.out.1 HV.out⟩
  · have e1 : Hid (gL i o g wave = []) := by unfold Hid gL; rw [if_pos h0]
    have e2 : Hid (gF i o g wave = chkRot i o g) := by unfold Hid gF; rw [if_pos h0]
    rw [e1.out, e2.out]
    generalize chkRot i o g = x at *
    have hx : (x == 0) = false := by simpa using h0
    obtain ⟨W1, hW1⟩ : ∃ W1, w.alloc (.cells #[.int .i64 i, .int .i64 o, .int .i64 g] 23) = W1 := ⟨_, rfl⟩
    rw [hW1] at R0
    have HR := Lib.hid R0
    dsimp only [RB] at R0
    go_enter Tryz.func6, Tryz.ntmps6
    go_wp2_with fail
    clear R0 hW1
    refine (HC.out W1).mono ?_
    rintro e w2 ⟨rfl, b2⟩
    have R2 := HR.out.keep b2
    clear b2 HR
    go_wp2
    go_ret2
    exact ⟨_, rfl, Grown.nil R2.2.2.2.out.1⟩
end Go.Proofs.YtiengbhncgnjnaaGreatDoor
