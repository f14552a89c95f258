/-
  The groups of a wave, on both sides.
  Groups and Overlap, on both sides.
  Overlap, on both sides.
  SamplePanelsMatchSpec: the walk of the law.
-/
import Derived.Test.YtfldlcnlijljcaaGreatDoorPn13
namespace Go.Proofs.YtfldlcnlijljcaaGreatDoor
open Go.RowKit

def grpL (i o g wave : Int) (k : Nat) : List Int := ((List.range k).map fun (j : Nat) => (j : Int) + 1).filter fun x => inB i o g x wave
theorem grpL_succ (i o g wave : Int) (k : Nat) : grpL i o g wave (k + 1) = grpL i o g wave k ++ (if inB i o g ((k : Int) + 1) wave then [(k : Int) + 1] else []) := by
  unfold grpL
  rw [List.range_succ, List.map_append, List.filter_append]
  congr 1
  simp only [List.map_cons, List.map_nil, List.filter_cons, List.filter_nil]
theorem grpL_len (i o g wave : Int) (k : Nat) : (grpL i o g wave k).length ≤ k := by
  unfold grpL
  exact Nat.le_trans (List.length_filter_le _ _) (by simp)
structure Grown (B : Nat) (w : World) (L : List Int) (v : Value) (wr : World) : Prop where
  row : wr.ownsRow B 3 1 v L.length (L.map (Value.int .i64))
  bel : Below B w wr
  size : B ≤ wr.heap.size
theorem Grown.keep {B : Nat} {w wr w' : World} {L : List Int} {v : Value} (h : Grown B w L v wr) (hb : Below wr.heap.size wr w') : Grown B w L v w' := by
  refine ⟨?_, h.bel.trans (hb.mono h.size), Nat.le_trans h.size hb.size⟩
  exact h.row.kept (row := none) ⟨hb.os, hb.tape, hb.output, hb.size, fun k hk _ => hb.block k hk⟩ (by cases v.ownBlock <;> simp)
theorem Grown.more {B : Nat} {w wr w' : World} {L : List Int} {v v' : Value} (h : Grown B w L v wr) (x : Int) (o : Obj) (hown : w'.ownsRow B 3 1 v' (L.length + 1) (L.map (Value.int .i64) ++ [.int .i64 x])) (hg : (wr.alloc o).grownBy w' v.ownBlock) : Grown B w (L ++ [x]) v' w' := by
  have hs : B ≤ (wr.alloc o).heap.size := by have := h.size; simp; omega
  refine ⟨by simpa using hown, ?_, Nat.le_trans hs hg.size⟩
  exact (h.bel.alloc h.size o).grown hg hs (fun b hb => (h.row.lt b hb).1)
theorem Grown.down {w w1 wr : World} {L : List Int} {v : Value} {o : Obj} (e : w1 = w.alloc o) (h : Grown (w.heap.size + 1) w1 L v wr) : Grown w.heap.size w L v wr := by
  refine ⟨⟨h.row.1, ?_⟩, ?_, Nat.le_trans (Nat.le_succ _) h.size⟩
  · rcases h.row.2 with h | ⟨g, cap, cur, e1, e2, e3⟩
    · exact .inl h
    · exact .inr ⟨g, cap, cur, e1, by omega, e3⟩
  · subst e
    exact (Pqbel_one w o).trans (h.bel.mono (Nat.le_succ _))
def GrpPost (L : List Int) (w : World) (e : Ending) (w' : World) : Prop := ∃ v, e = .returned v ∧ Grown w.heap.size w L v w'
set_option maxHeartbeats 1000000 in
theorem groupsIn_c (i o g : Int) (m : Nat) (w : World) (hi : 1 ≤ i ∧ i ≤ 1000) (ho : 0 ≤ o ∧ o ≤ 1000) (hg : 0 ≤ g ∧ g ≤ 1000) (h2 : m ≤ 1000) :
    Calls Tryz.prog 14 #[rotV i o g, .int .i64 m] w (GrpPost (grpL i o g m m) w) := by
  obtain ⟨i0, hi', hz0, hz1, hz2⟩ := info_parts infoI
  obtain ⟨W1, hW1⟩ : ∃ W1, w.alloc (.cells #[.int .i64 i, .int .i64 o, .int .i64 g] 23) = W1 := ⟨_, rfl⟩
  have k0 : Hid (W1.cell? ⟨w.heap.size, 0, none⟩ = some (.int .i64 i) ∧ W1.cell? ⟨w.heap.size, 1, none⟩ = some (.int .i64 o) ∧ W1.cell? ⟨w.heap.size, 2, none⟩ = some (.int .i64 g)) := by
    unfold Hid; rw [← hW1]
    refine ⟨?_, ?_, ?_⟩
    all_goals (rw [World.cell?_alloc_at _ _ _ _ rfl]; rfl)
  have HS : Hid (w.heap.size + 1 ≤ W1.heap.size) := by rw [← hW1]; simp [Hid]
  have HI := Lib.hid (fun (x : Int) W (h1 : 1 ≤ x ∧ x ≤ (m : Int)) (hm : (m : Int) ≤ 1000) => isIn_c i o g x m W hi ho hg ⟨h1.1, by omega⟩ ⟨by omega, hm⟩)
  clear hi ho hg
  go_enter Tryz.func14, Tryz.ntmps14
  go_wp2
  have HW := Lib.hid hW1
  clear hW1
  go_loopw [5, 6] (fun v x wr => ∃ k : Nat, k ≤ m ∧ x = .int .i64 ((k : Int) + 1) ∧ Hid (Grown (w.heap.size + 1) W1 (grpL i o g m k) v wr)) (fun _ x _ => (m + 1 - intOf x).toNat)
  case atStart => exact ⟨0, Nat.zero_le _, rfl, World.ownsRow_nil _ _ _ _, Below.refl _ _, HS.out⟩
  case round =>
    obtain ⟨k, hk, rfl, hG⟩ := hrel
    have c0 : wr.cell? ⟨w.heap.size, 0, none⟩ = some (.int .i64 i) := by rw [hG.out.bel.cell (p := ⟨w.heap.size, 0, none⟩) (Nat.lt_succ_self _)]; exact k0.out.1
    have c1 : wr.cell? ⟨w.heap.size, 1, none⟩ = some (.int .i64 o) := by rw [hG.out.bel.cell (p := ⟨w.heap.size, 1, none⟩) (Nat.lt_succ_self _)]; exact k0.out.2.1
    have c2 : wr.cell? ⟨w.heap.size, 2, none⟩ = some (.int .i64 g) := by rw [hG.out.bel.cell (p := ⟨w.heap.size, 2, none⟩) (Nat.lt_succ_self _)]; exact k0.out.2.2
    by_cases hlt : k < m
    · have hle : (k : Int) + 1 ≤ (m : Int) := by omega
      have HL := Lib.hid (grpL_len i o g m k)
      have HE := Lib.hid (grpL_succ i o g m k)
      go_wp2_with fail
      refine (HI.out ((k : Int) + 1) wr (by omega) (by omega)).mono ?_
      rintro e w3 ⟨rfl, b3⟩
      have G3 := Lib.hid (hG.out.keep b3)
      clear b3 hG c0 c1 c2
      cases hb : inB i o g ((k : Int) + 1) m with
      | true =>
        rw [hb] at HE
        have GR := Lib.hid G3.out.row
        go_wp2_with (at_builtin; refine wpList_append_own _ rfl _ _ 24 rfl (w.heap.size + 1) 3 i0 (.int .i64 0) 1 8 Tryz.underlying24 hi' hz0 hz1 hz2 rfl (by decide) _ _ _ rfl (GR.out.alloc _) ⟨w3.heap.size, 0, none⟩ 1 1 [.int .i64 ((k : Int) + 1)] rfl rfl ?c1 ?c2 ?c3 ?c4 ?c5 ?_)
        case c1 =>
          intro j u hj
          match j, hj with
          | 0, hj => simp at hj; subst hj; simp [Addr.add]
        case c2 => intro u hu; simp at hu; subst hu; rfl
        case c3 => have := HL.out; unfold maxLen; omega
        case c4 => have := HL.out; omega
        case c5 => have := G3.out.size; simp; omega
        intro v' w4 hown' hgrow _
        have G4 := Lib.hid (G3.out.more ((k : Int) + 1) _ hown' hgrow)
        clear hown' hgrow
        go_wp2
        go_roundw
        case rel => exact ⟨k + 1, by omega, by go_num, by rw [HE.out]; exact G4.out⟩
        case measure => simp [intOf]; omega
      | false =>
        rw [hb] at HE
        go_wp2
        go_roundw
        case rel => exact ⟨k + 1, by omega, by go_num, by have t := G3.out; rw [HE.out]; unfold Hid; simpa using t⟩
        case measure => simp [intOf]; omega
    · have hf : ¬ ((k : Int) + 1 ≤ (m : Int)) := by omega
      have hkm : Hid (k = m) := by unfold Hid; omega
      clear hlt hk c0 c1 c2
      go_wp2
      go_ret
      obtain rfl := hkm.out
      exact ⟨_, rfl, Grown.down HW.out.symm hG.out⟩
set_option maxHeartbeats 1000000 in
theorem groups_c (i o g : Int) (m : Nat) (w : World) (hi : 1 ≤ i ∧ i ≤ 1000) (ho : 0 ≤ o ∧ o ≤ 1000) (hg : 0 ≤ g ∧ g ≤ 1000) (h2 : m ≤ 1000) :
    Calls Tryz.prog 16 #[rotV i o g, .int .i64 m] w (GrpPost (grpL i o g m m) w) := by
  obtain ⟨i0, hi', hz0, hz1, hz2⟩ := info_parts infoI
  obtain ⟨W1, hW1⟩ : ∃ W1, w.alloc (.cells #[.int .i64 i, .int .i64 o, .int .i64 g] 23) = W1 := ⟨_, rfl⟩
  have k0 : Hid (W1.cell? ⟨w.heap.size, 0, none⟩ = some (.int .i64 i) ∧ W1.cell? ⟨w.heap.size, 1, none⟩ = some (.int .i64 o) ∧ W1.cell? ⟨w.heap.size, 2, none⟩ = some (.int .i64 g)) := by
    unfold Hid; rw [← hW1]
    refine ⟨?_, ?_, ?_⟩
    all_goals (rw [World.cell?_alloc_at _ _ _ _ rfl]; rfl)
  have HS : Hid (w.heap.size + 1 ≤ W1.heap.size) := by rw [← hW1]; simp [Hid]
  have HI := Lib.hid (fun (x : Int) W (h1 : 1 ≤ x ∧ x ≤ (m : Int)) (hm : (m : Int) ≤ 1000) => rIsIn_c i o g x m W hi ho hg h1 hm)
  clear hi ho hg
  go_enter Tryz.func16, Tryz.ntmps16
  go_wp2
  have HW := Lib.hid hW1
  clear hW1
  go_loopw [5, 6] (fun v x wr => ∃ k : Nat, k ≤ m ∧ x = .int .i64 ((k : Int) + 1) ∧ Hid (Grown (w.heap.size + 1) W1 (grpL i o g m k) v wr)) (fun _ x _ => (m + 1 - intOf x).toNat)
  case atStart => exact ⟨0, Nat.zero_le _, rfl, World.ownsRow_nil _ _ _ _, Below.refl _ _, HS.out⟩
  case round =>
    obtain ⟨k, hk, rfl, hG⟩ := hrel
    have c0 : wr.cell? ⟨w.heap.size, 0, none⟩ = some (.int .i64 i) := by rw [hG.out.bel.cell (p := ⟨w.heap.size, 0, none⟩) (Nat.lt_succ_self _)]; exact k0.out.1
    have c1 : wr.cell? ⟨w.heap.size, 1, none⟩ = some (.int .i64 o) := by rw [hG.out.bel.cell (p := ⟨w.heap.size, 1, none⟩) (Nat.lt_succ_self _)]; exact k0.out.2.1
    have c2 : wr.cell? ⟨w.heap.size, 2, none⟩ = some (.int .i64 g) := by rw [hG.out.bel.cell (p := ⟨w.heap.size, 2, none⟩) (Nat.lt_succ_self _)]; exact k0.out.2.2
    by_cases hlt : k < m
    · have hle : (k : Int) + 1 ≤ (m : Int) := by omega
      have HL := Lib.hid (grpL_len i o g m k)
      have HE := Lib.hid (grpL_succ i o g m k)
      go_wp2_with fail
      refine (HI.out ((k : Int) + 1) wr (by omega) (by omega)).mono ?_
      rintro e w3 ⟨rfl, b3⟩
      have G3 := Lib.hid (hG.out.keep b3)
      clear b3 hG c0 c1 c2
      cases hb : inB i o g ((k : Int) + 1) m with
      | true =>
        rw [hb] at HE
        have GR := Lib.hid G3.out.row
        go_wp2_with (at_builtin; refine wpList_append_own _ rfl _ _ 24 rfl (w.heap.size + 1) 3 i0 (.int .i64 0) 1 8 Tryz.underlying24 hi' hz0 hz1 hz2 rfl (by decide) _ _ _ rfl (GR.out.alloc _) ⟨w3.heap.size, 0, none⟩ 1 1 [.int .i64 ((k : Int) + 1)] rfl rfl ?c1 ?c2 ?c3 ?c4 ?c5 ?_)
        case c1 =>
          intro j u hj
          match j, hj with
          | 0, hj => simp at hj; subst hj; simp [Addr.add]
        case c2 => intro u hu; simp at hu; subst hu; rfl
        case c3 => have := HL.out; unfold maxLen; omega
        case c4 => have := HL.out; omega
        case c5 => have := G3.out.size; simp; omega
        intro v' w4 hown' hgrow _
        have G4 := Lib.hid (G3.out.more ((k : Int) + 1) _ hown' hgrow)
        clear hown' hgrow
        go_wp2
        go_roundw
        case rel => exact ⟨k + 1, by omega, by go_num, by rw [HE.out]; exact G4.out⟩
        case measure => simp [intOf]; omega
      | false =>
        rw [hb] at HE
        go_wp2
        go_roundw
        case rel => exact ⟨k + 1, by omega, by go_num, by have t := G3.out; rw [HE.out]; unfold Hid; simpa using t⟩
        case measure => simp [intOf]; omega
    · have hf : ¬ ((k : Int) + 1 ≤ (m : Int)) := by omega
      have hkm : Hid (k = m) := by unfold Hid; omega
      clear hlt hk c0 c1 c2
      go_wp2
      go_ret
      obtain rfl := hkm.out
      exact ⟨_, rfl, Grown.down HW.out.symm hG.out⟩
end Go.Proofs.YtfldlcnlijljcaaGreatDoor
namespace Go.Proofs.YtfldlcnlijljcaaGreatDoor
open Go.RowKit

theorem chk_zero {i o g : Int} (h : chkRot i o g = 0) : (1 ≤ i ∧ i ≤ 1000) ∧ (0 ≤ o ∧ o ≤ 1000) ∧ (0 ≤ g ∧ g ≤ 1000) := by
  unfold chkRot at h
  split at h
  · omega
  · omega
def gF (i o g wave : Int) : Int := if chkRot i o g ≠ 0 then chkRot i o g else if wave < 1 ∨ 1000 < wave then 1 else 0
def gL (i o g wave : Int) : List Int := if chkRot i o g ≠ 0 then [] else if wave < 1 ∨ 1000 < wave then [] else grpL i o g wave wave.toNat
/-- The box of a rotation. -/
def RB (w : World) (i o g : Int) (W : World) : Prop :=
  W.cell? ⟨w.heap.size, 0, none⟩ = some (.int .i64 i) ∧ W.cell? ⟨w.heap.size, 1, none⟩ = some (.int .i64 o) ∧ W.cell? ⟨w.heap.size, 2, none⟩ = some (.int .i64 g) ∧ Hid (Below w.heap.size w W ∧ w.heap.size < W.heap.size)
theorem RB.keep {w W W' : World} {i o g : Int} (h : RB w i o g W) (hb : Below W.heap.size W W') : RB w i o g W' := by
  obtain ⟨a0, a1, a2, s⟩ := h
  obtain ⟨bl, hx⟩ := s.out
  have f := fun (o : Nat) => hb.cell (p := ⟨w.heap.size, o, none⟩) hx
  exact ⟨(f _).trans a0, (f _).trans a1, (f _).trans a2, bl.trans (hb.mono (by omega)), Nat.lt_of_lt_of_le hx hb.size⟩
theorem RB.make (w : World) (i o g : Int) : RB w i o g (w.alloc (.cells #[.int .i64 i, .int .i64 o, .int .i64 g] 23)) :=
  ⟨by rw [World.cell?_alloc_at _ _ _ _ rfl]; rfl, by rw [World.cell?_alloc_at _ _ _ _ rfl]; rfl, by rw [World.cell?_alloc_at _ _ _ _ rfl]; rfl, Pqbel_one _ _, by simp⟩
theorem Grown.nil {w W : World} (h : Below w.heap.size w W) : Grown w.heap.size w [] (.slice none 0 0) W := ⟨World.ownsRow_nil _ _ _ _, h, h.size⟩
theorem Grown.from {w W wr : World} {L : List Int} {v : Value} (hb : Below w.heap.size w W) (h : Grown W.heap.size W L v wr) : Grown w.heap.size w L v wr := by
  refine ⟨⟨h.row.1, ?_⟩, hb.trans (h.bel.mono hb.size), Nat.le_trans hb.size h.size⟩
  rcases h.row.2 with h | ⟨g, cap, cur, e1, e2, e3⟩
  · exact .inl h
  · exact .inr ⟨g, cap, cur, e1, Nat.le_trans hb.size e2, e3⟩
def GPost (L : List Int) (f : Int) (w : World) (e : Ending) (w' : World) : Prop := ∃ v, e = .returned (.tuple #[v, .int .i64 f]) ∧ Grown w.heap.size w L v w'
set_option maxHeartbeats 2000000 in
theorem Groups_c (i o g wave : Int) (w : World) : Calls Tryz.prog 5 #[rotV i o g, .int .i64 wave] w (GPost (gL i o g wave) (gF i o g wave) w) := by
  have HC := Lib.hid (fun W => chk_c i o g W)
  have R0 := RB.make w i o g
  by_cases h0 : chkRot i o g = 0
  · obtain ⟨hi, ho, hg⟩ := chk_zero h0
    have n0 : ¬ chkRot i o g ≠ 0 := fun h => h h0
    by_cases hw : wave < 1 ∨ 1000 < wave
    · have e1 : Hid (gL i o g wave = []) := by unfold Hid gL; rw [if_neg n0, if_pos hw]
      have e2 : Hid (gF i o g wave = 1) := by unfold Hid gF; rw [if_neg n0, if_pos hw]
      rw [h0] at HC
      rw [e1.out, e2.out]
      have hww : (decide (wave < 1) || decide (1000 < wave)) = true := by simpa using hw
      have hww2 : (decide (1 ≤ wave) && decide (wave ≤ 1000)) = false := by simp; omega
      clear hi ho hg h0 n0
      obtain ⟨W1, hW1⟩ : ∃ W1, w.alloc (.cells #[.int .i64 i, .int .i64 o, .int .i64 g] 23) = W1 := ⟨_, rfl⟩
      rw [hW1] at R0
      have HR := Lib.hid R0
      dsimp only [RB] at R0
      go_enter Tryz.func5, Tryz.ntmps5
      go_wp2_with fail
      clear R0 hW1
      refine (HC.out W1).mono ?_
      rintro e w2 ⟨rfl, b2⟩
      have R2 := HR.out.keep b2
      have H2 := Lib.hid R2
      clear b2 HR
      dsimp only [RB] at R2
      go_wp2_with (fail)
      all_goals first
        | omega
        | (go_ret2; exact ⟨_, rfl, Grown.nil H2.out.2.2.2.out.1⟩)
    · obtain ⟨m, rfl⟩ : ∃ m : Nat, wave = (m : Int) := ⟨wave.toNat, by omega⟩
      have hm : 1 ≤ m ∧ m ≤ 1000 := by omega
      have e1 : Hid (gL i o g m = grpL i o g m m) := by unfold Hid gL; rw [if_neg n0, if_neg hw, Int.toNat_natCast]
      have e2 : Hid (gF i o g m = 0) := by unfold Hid gF; rw [if_neg n0, if_neg hw]
      rw [h0] at HC
      rw [e1.out, e2.out]
      have HG := Lib.hid (fun W => groupsIn_c i o g m W hi ho hg hm.2)
      have hw1 : (1 : Int) ≤ (m : Int) := by omega
      have hw2 : (m : Int) ≤ 1000 := by omega
      clear hi ho hg h0 n0 hw hm
      obtain ⟨W1, hW1⟩ : ∃ W1, w.alloc (.cells #[.int .i64 i, .int .i64 o, .int .i64 g] 23) = W1 := ⟨_, rfl⟩
      rw [hW1] at R0
      have HR := Lib.hid R0
      dsimp only [RB] at R0
      go_enter Tryz.func5, Tryz.ntmps5
      go_wp2_with fail
      clear R0 hW1
      refine (HC.out W1).mono ?_
      rintro e w2 ⟨rfl, b2⟩
      have R2 := HR.out.keep b2
      have H2 := Lib.hid R2
      clear b2 HR
      dsimp only [RB] at R2
      go_wp2_with (fail)
      refine (HG.out w2).mono ?_
      rintro e w3 ⟨v, rfl, hv⟩
      have HV := Lib.hid hv
      clear hv R2
      go_wp2
      go_ret2
      exact ⟨v, rfl, Grown.from H2.out.2.2.2.out.1 HV.out⟩
  · have e1 : Hid (gL i o g wave = []) := by unfold Hid gL; rw [if_pos h0]
    have e2 : Hid (gF i o g wave = chkRot i o g) := by unfold Hid gF; rw [if_pos h0]
    rw [e1.out, e2.out]
    generalize chkRot i o g = x at *
    have hx : (x == 0) = false := by simpa using h0
    obtain ⟨W1, hW1⟩ : ∃ W1, w.alloc (.cells #[.int .i64 i, .int .i64 o, .int .i64 g] 23) = W1 := ⟨_, rfl⟩
    rw [hW1] at R0
    have HR := Lib.hid R0
    dsimp only [RB] at R0
    go_enter Tryz.func5, Tryz.ntmps5
    go_wp2_with fail
    clear R0 hW1
    refine (HC.out W1).mono ?_
    rintro e w2 ⟨rfl, b2⟩
    have R2 := HR.out.keep b2
    clear b2 HR
    go_wp2
    go_ret2
    exact ⟨_, rfl, Grown.nil R2.2.2.2.out.1⟩
set_option maxHeartbeats 2000000 in
theorem RGroups_c (i o g wave : Int) (w : World) : Calls Tryz.prog 6 #[rotV i o g, .int .i64 wave] w (GPost (gL i o g wave) (gF i o g wave) w) := by
  have HC := Lib.hid (fun W => rchk_c i o g W)
  have R0 := RB.make w i o g
  by_cases h0 : chkRot i o g = 0
  · obtain ⟨hi, ho, hg⟩ := chk_zero h0
    have n0 : ¬ chkRot i o g ≠ 0 := fun h => h h0
    by_cases hw : wave < 1 ∨ 1000 < wave
    · have e1 : Hid (gL i o g wave = []) := by unfold Hid gL; rw [if_neg n0, if_pos hw]
      have e2 : Hid (gF i o g wave = 1) := by unfold Hid gF; rw [if_neg n0, if_pos hw]
      rw [h0] at HC
      rw [e1.out, e2.out]
      have hww : (decide (wave < 1) || decide (1000 < wave)) = true := by simpa using hw
      have hww2 : (decide (1 ≤ wave) && decide (wave ≤ 1000)) = false := by simp; omega
      clear hi ho hg h0 n0
      obtain ⟨W1, hW1⟩ : ∃ W1, w.alloc (.cells #[.int .i64 i, .int .i64 o, .int .i64 g] 23) = W1 := ⟨_, rfl⟩
      rw [hW1] at R0
      have HR := Lib.hid R0
      dsimp only [RB] at R0
      go_enter Tryz.func6, Tryz.ntmps6
      go_wp2_with fail
      clear R0 hW1
      refine (HC.out W1).mono ?_
      rintro e w2 ⟨rfl, b2⟩
      have R2 := HR.out.keep b2
      have H2 := Lib.hid R2
      clear b2 HR
      dsimp only [RB] at R2
      go_wp2_with (go_at_call 15; refine (within_c _ _ _ _).mono ?_; rintro e w' ⟨rfl, rfl⟩)
      all_goals first
        | omega
        | (go_ret2; exact ⟨_, rfl, Grown.nil H2.out.2.2.2.out.1⟩)
    · obtain ⟨m, rfl⟩ : ∃ m : Nat, wave = (m : Int) := ⟨wave.toNat, by omega⟩
      have hm : 1 ≤ m ∧ m ≤ 1000 := by omega
      have e1 : Hid (gL i o g m = grpL i o g m m) := by unfold Hid gL; rw [if_neg n0, if_neg hw, Int.toNat_natCast]
      have e2 : Hid (gF i o g m = 0) := by unfold Hid gF; rw [if_neg n0, if_neg hw]
      rw [h0] at HC
      rw [e1.out, e2.out]
      have HG := Lib.hid (fun W => groups_c i o g m W hi ho hg hm.2)
      have hw1 : (1 : Int) ≤ (m : Int) := by omega
      have hw2 : (m : Int) ≤ 1000 := by omega
      clear hi ho hg h0 n0 hw hm
      obtain ⟨W1, hW1⟩ : ∃ W1, w.alloc (.cells #[.int .i64 i, .int .i64 o, .int .i64 g] 23) = W1 := ⟨_, rfl⟩
      rw [hW1] at R0
      have HR := Lib.hid R0
      dsimp only [RB] at R0
      go_enter Tryz.func6, Tryz.ntmps6
      go_wp2_with fail
      clear R0 hW1
      refine (HC.out W1).mono ?_
      rintro e w2 ⟨rfl, b2⟩
      have R2 := HR.out.keep b2
      have H2 := Lib.hid R2
      clear b2 HR
      dsimp only [RB] at R2
      go_wp2_with (go_at_call 15; refine (within_c _ _ _ _).mono ?_; rintro e w' ⟨rfl, rfl⟩)
      refine (HG.out w2).mono ?_
      rintro e w3 ⟨v, rfl, hv⟩
      have HV := Lib.hid hv
      clear hv R2
      go_wp2
      go_ret2
      exact ⟨v, rfl, Grown.from H2.out.2.2.2.out.1 HV.out⟩
  · have e1 : Hid (gL i o g wave = []) := by unfold Hid gL; rw [if_pos h0]
    have e2 : Hid (gF i o g wave = chkRot i o g) := by unfold Hid gF; rw [if_pos h0]
    rw [e1.out, e2.out]
    generalize chkRot i o g = x at *
    have hx : (x == 0) = false := by simpa using h0
    obtain ⟨W1, hW1⟩ : ∃ W1, w.alloc (.cells #[.int .i64 i, .int .i64 o, .int .i64 g] 23) = W1 := ⟨_, rfl⟩
    rw [hW1] at R0
    have HR := Lib.hid R0
    dsimp only [RB] at R0
    go_enter Tryz.func6, Tryz.ntmps6
    go_wp2_with fail
    clear R0 hW1
    refine (HC.out W1).mono ?_
    rintro e w2 ⟨rfl, b2⟩
    have R2 := HR.out.keep b2
    clear b2 HR
    go_wp2
    go_ret2
    exact ⟨_, rfl, Grown.nil R2.2.2.2.out.1⟩
end Go.Proofs.YtfldlcnlijljcaaGreatDoor
namespace Go.Proofs.YtfldlcnlijljcaaGreatDoor
open Go.RowKit

def ovBad (wave later : Int) : Prop := wave < 1 ∨ later < wave ∨ 1000 < later
instance (wave later : Int) : Decidable (ovBad wave later) := by unfold ovBad; infer_instance
def cntL (i o g later : Int) (L : List Int) : Nat := (L.filter fun x => inB i o g x later).length
def ovF (i o g wave later : Int) : Int := if chkRot i o g ≠ 0 then chkRot i o g else if ovBad wave later then 1 else 0
def ovL (i o g wave : Int) : List Int := grpL i o g wave wave.toNat
def ovN (i o g wave later : Int) : ByteArray := if chkRot i o g ≠ 0 then ⟨#[]⟩ else if ovBad wave later then ⟨#[]⟩ else decB (rtN (cntL i o g later (ovL i o g wave)) (ovL i o g wave).length)
def ovD (i o g wave later : Int) : ByteArray := if chkRot i o g ≠ 0 then ⟨#[]⟩ else if ovBad wave later then ⟨#[]⟩ else decB (rtD (cntL i o g later (ovL i o g wave)) (ovL i o g wave).length)
def OvP (x y : ByteArray) (f : Int) (w : World) (e : Ending) (w' : World) : Prop := e = .returned (.tuple #[.agg #[.string x, .string y], .int .i64 f]) ∧ Below w.heap.size w w'
theorem grpL_mem {i o g wave : Int} {k : Nat} {x : Int} (h : x ∈ grpL i o g wave k) : 1 ≤ x ∧ x ≤ (k : Int) := by
  unfold grpL at h
  have h := (List.mem_filter.1 h).1
  obtain ⟨j, hj, rfl⟩ := List.mem_map.1 h
  have := List.mem_range.1 hj
  omega
theorem grpL_pos {i o g : Int} {m : Nat} (hm : 1 ≤ m) (hi : 1 ≤ i) : 0 < (grpL i o g m m).length := by
  apply List.length_pos_of_mem (a := (m : Int))
  unfold grpL
  refine List.mem_filter.2 ⟨List.mem_map.2 ⟨m - 1, List.mem_range.2 (by omega), by omega⟩, ?_⟩
  unfold inB
  simp
  omega
theorem cntL_le (i o g later : Int) (L : List Int) : cntL i o g later L ≤ L.length := List.length_filter_le _ _
theorem cntL_next {i o g later : Int} {L : List Int} {k : Nat} (hk : k < L.length) : cntL i o g later (L.take (k + 1)) = cntL i o g later (L.take k) + (if inB i o g L[k] later then 1 else 0) := by
  unfold cntL
  rw [← List.take_append_getElem hk, List.filter_append, List.length_append]
  congr 1
  simp only [List.filter_cons, List.filter_nil]
  split <;> simp
/-- The boxes of Overlap. -/
def OX (w : World) (i o g : Int) (W : World) : Prop :=
  W.cell? ⟨w.heap.size, 0, none⟩ = some (.int .i64 i) ∧ W.cell? ⟨w.heap.size, 1, none⟩ = some (.int .i64 o) ∧ W.cell? ⟨w.heap.size, 2, none⟩ = some (.int .i64 g) ∧
  W.cell? ⟨w.heap.size + 1, 0, none⟩ = some (.string ⟨#[]⟩) ∧ W.cell? ⟨w.heap.size + 1, 1, none⟩ = some (.string ⟨#[]⟩) ∧ W.frozen? ⟨w.heap.size + 1, 0, none⟩ = false ∧ W.frozen? ⟨w.heap.size + 1, 1, none⟩ = false ∧
  Hid (Below w.heap.size w W ∧ w.heap.size + 1 < W.heap.size)
theorem OX.keep {w W W' : World} {i o g : Int} (h : OX w i o g W) (hb : Below W.heap.size W W') : OX w i o g W' := by
  obtain ⟨a0, a1, a2, r0, r1, f0, f1, s⟩ := h
  obtain ⟨bl, hx⟩ := s.out
  have f := fun (b o : Nat) (h2 : b < W.heap.size) => hb.cell (p := ⟨b, o, none⟩) h2
  have z := fun (b o : Nat) (h2 : b < W.heap.size) => hb.frozen (p := ⟨b, o, none⟩) h2
  have h0 : w.heap.size < W.heap.size := by omega
  exact ⟨(f _ _ h0).trans a0, (f _ _ h0).trans a1, (f _ _ h0).trans a2, (f _ _ hx).trans r0, (f _ _ hx).trans r1, (z _ _ hx).trans f0, (z _ _ hx).trans f1, bl.trans (hb.mono (by omega)), Nat.lt_of_lt_of_le hx hb.size⟩
theorem OX.make (w : World) (i o g : Int) : OX w i o g ((w.alloc (.cells #[.int .i64 i, .int .i64 o, .int .i64 g] 23)).alloc (.cells #[.string ⟨#[]⟩, .string ⟨#[]⟩] 31)) := by
  refine ⟨?_, ?_, ?_, ?_, ?_, ?_, ?_, ((Below.refl _ _).alloc (Nat.le_refl _) _).alloc (by simp) _, by simp⟩
  all_goals simp [go_sem, World.cell?_alloc_past]
theorem OX.done {w W : World} {i o g : Int} (h : OX w i o g W) (x y : ByteArray) :
    ((W.setCell ⟨w.heap.size + 1, 0, none⟩ (.string x)).setCell ⟨w.heap.size + 1, 1, none⟩ (.string y)).cell? ⟨w.heap.size + 1, 0, none⟩ = some (.string x) ∧ ((W.setCell ⟨w.heap.size + 1, 0, none⟩ (.string x)).setCell ⟨w.heap.size + 1, 1, none⟩ (.string y)).cell? ⟨w.heap.size + 1, 1, none⟩ = some (.string y) ∧
    Below w.heap.size w ((W.setCell ⟨w.heap.size + 1, 0, none⟩ (.string x)).setCell ⟨w.heap.size + 1, 1, none⟩ (.string y)) := by
  obtain ⟨a0, a1, a2, r0, r1, f0, f1, q⟩ := h
  have t := two_cells (x := .string x) (y := .string y) r0 r1
  exact ⟨t.1, t.2, (q.out.1.setCell (p := ⟨w.heap.size + 1, 0, none⟩) (Nat.le_succ _) _).setCell (p := ⟨w.heap.size + 1, 1, none⟩) (Nat.le_succ _) _⟩
set_option maxHeartbeats 4000000 in
theorem Overlap_c (i o g wave later : Int) (w : World)  : Calls Tryz.prog 10 #[rotV i o g, .int .i64 wave, .int .i64 later] w (OvP (ovN i o g wave later) (ovD i o g wave later) (ovF i o g wave later) w) := by
  have HC := Lib.hid (fun W => chk_c i o g W)
  by_cases h0 : chkRot i o g = 0
  · obtain ⟨hi, ho, hg⟩ := chk_zero h0
    have n0 : ¬ chkRot i o g ≠ 0 := fun h => h h0
    by_cases hw : ovBad wave later
    · have e1 : ovN i o g wave later = ⟨#[]⟩ := by unfold ovN; rw [if_neg n0, if_pos hw]
      have e2 : ovD i o g wave later = ⟨#[]⟩ := by unfold ovD; rw [if_neg n0, if_pos hw]
      have e3 : ovF i o g wave later = 1 := by unfold ovF; rw [if_neg n0, if_pos hw]
      rw [h0] at HC
      rw [e1, e2, e3]
      have hww : (decide (wave < 1) || decide (later < wave) || decide (1000 < later)) = true := by unfold ovBad at hw; simp; omega
      have hz : 1 ≤ wave → ¬ (later < wave) → 1000 < later := by unfold ovBad at hw; omega
      clear hi ho hg h0 n0 e1 e2 e3 hw
      obtain ⟨W1, hW1⟩ : ∃ W1, (w.alloc (.cells #[.int .i64 i, .int .i64 o, .int .i64 g] 23)).alloc (.cells #[.string ⟨#[]⟩, .string ⟨#[]⟩] 31) = W1 := ⟨_, rfl⟩
      have R0 := OX.make w i o g
      rw [hW1] at R0
      have HR := Lib.hid R0
      dsimp only [OX] at R0
      go_enter Tryz.func10, Tryz.ntmps10
      go_wp2_with fail
      clear R0 hW1
      refine (HC.out W1).mono ?_
      rintro e w2 ⟨rfl, b2⟩
      have R2 := HR.out.keep b2
      have H2 := Lib.hid R2
      clear b2 HR
      dsimp only [OX] at R2
      have hzz := Lib.hid hz
      clear hz
      have FIN := Lib.hid (H2.out.done ⟨#[]⟩ ⟨#[]⟩)
      go_wp2
      all_goals first
        | (exfalso; have := hzz.out; omega)
        | (obtain ⟨q0, q1, hB⟩ := FIN.out
           exact bodyPost_ret (v := .tuple #[.agg #[.string ⟨#[]⟩, .string ⟨#[]⟩], .int .i64 1]) (by simp [results, Tryz.results10, go_sem, q0, q1]) rfl ⟨rfl, hB⟩)
    · obtain ⟨m, rfl⟩ : ∃ m : Nat, wave = (m : Int) := ⟨wave.toNat, by unfold ovBad at hw; omega⟩
      have hm : 1 ≤ m ∧ m ≤ 1000 := by unfold ovBad at hw; omega
      have hl : (m : Int) ≤ later ∧ later ≤ 1000 := by unfold ovBad at hw; omega
      have eL : ovL i o g m = grpL i o g m m := by unfold ovL; rw [Int.toNat_natCast]
      have e1 : ovN i o g m later = decB (rtN (cntL i o g later (grpL i o g m m)) (grpL i o g m m).length) := by unfold ovN; rw [if_neg n0, if_neg hw, eL]
      have e2 : ovD i o g m later = decB (rtD (cntL i o g later (grpL i o g m m)) (grpL i o g m m).length) := by unfold ovD; rw [if_neg n0, if_neg hw, eL]
      have e3 : ovF i o g m later = 0 := by unfold ovF; rw [if_neg n0, if_neg hw]
      rw [h0] at HC
      rw [e1, e2, e3]
      have HG := Lib.hid (fun W => groupsIn_c i o g m W hi ho hg hm.2)
      have HI := Lib.hid (fun (x : Int) W (h1 : 1 ≤ x ∧ x ≤ (m : Int)) => isIn_c i o g x later W hi ho hg ⟨h1.1, by omega⟩ ⟨by omega, hl.2⟩)
      have hM := fun x (hx : x ∈ grpL i o g m m) => grpL_mem hx
      have HPOS := Lib.hid (grpL_pos (o := o) (g := g) hm.1 hi.1)
      have HLE : Hid ((grpL i o g m m).length ≤ 1000) := Nat.le_trans (grpL_len _ _ _ _ _) hm.2
      have hw1 : (1 : Int) ≤ (m : Int) := by omega
      have hw2 : (m : Int) ≤ later := hl.1
      have hw3 : later ≤ 1000 := hl.2
      have HM := Lib.hid hM
      clear hi ho hg h0 n0 hw hm hl e1 e2 e3 eL hM
      generalize hL : grpL i o g m m = L at *
      clear hL
      obtain ⟨W1, hW1⟩ : ∃ W1, (w.alloc (.cells #[.int .i64 i, .int .i64 o, .int .i64 g] 23)).alloc (.cells #[.string ⟨#[]⟩, .string ⟨#[]⟩] 31) = W1 := ⟨_, rfl⟩
      have R0 := OX.make w i o g
      rw [hW1] at R0
      have HR := Lib.hid R0
      dsimp only [OX] at R0
      go_enter Tryz.func10, Tryz.ntmps10
      go_wp2_with fail
      clear R0 hW1
      refine (HC.out W1).mono ?_
      rintro e w2 ⟨rfl, b2⟩
      have R2 := HR.out.keep b2
      have H2 := Lib.hid R2
      clear b2 HR
      dsimp only [OX] at R2
      go_wp2_with fail
      refine (HG.out w2).mono ?_
      rintro e w3 ⟨v, rfl, hv⟩
      have R3 := H2.out.keep (Below.mono hv.bel (Nat.le_refl _))
      have H3 := Lib.hid R3
      obtain ⟨gb, cap, rfl, _, hgs, hcell⟩ := own_open hv.row HPOS.out
      have HCL : Hid (∀ j (hj : j < L.length), w3.cell? ⟨gb, j, none⟩ = some (.int .i64 L[j])) := fun j hj => hcell j _ (by simp [hj])
      have HGS := Lib.hid hgs
      clear hv hcell R2 H2 hgs hw1 hw2
      dsimp only [OX] at R3
      have hlen : L.length ≤ 1000 := HLE.out
      go_wp2_with fail
      clear R3
      go_loopw [10, 36] (fun c x wr => ∃ k : Nat, k ≤ L.length ∧ x = .int .i64 k ∧ c = .int .i64 (cntL i o g later (L.take k) : Nat) ∧ Hid (Below w3.heap.size w3 wr)) (fun _ x _ => (L.length - intOf x).toNat)
      case atStart => exact ⟨0, Nat.zero_le _, rfl, rfl, Below.refl _ _⟩
      case round =>
        obtain ⟨k, hk, rfl, rfl, hB⟩ := hrel
        have X := H3.out.keep hB.out
        have HX := Lib.hid X
        by_cases hlt : k < L.length
        · have hlt' : (k : Int) < (L.length : Int) := by omega
          have hc : wr.cell? ⟨gb, k, none⟩ = some (.int .i64 L[k]) := by rw [hB.out.cell (p := ⟨gb, k, none⟩) HGS.out]; exact HCL.out k hlt
          have hc2 : wr.cell? ⟨gb, 0 + k, none⟩ = some (.int .i64 L[k]) := by rw [Nat.zero_add]; exact hc
          have hx := HM.out L[k] (List.getElem_mem hlt)
          have HN := Lib.hid (cntL_next (i := i) (o := o) (g := g) (later := later) hlt)
          have hcl : cntL i o g later (L.take k) ≤ 1000 := Nat.le_trans (cntL_le _ _ _ _ _) (by rw [List.length_take]; omega)
          have HH := Lib.hid (HI.out L[k] wr hx)
          generalize cntL i o g later (L.take k) = c at *
          generalize L[k] = y at *
          clear hx
          dsimp only [OX] at X
          go_wp2_with fail
          clear hc hc2 X
          refine HH.out.mono ?_
          rintro e w5 ⟨rfl, b5⟩
          have B5 := Lib.hid (hB.out.trans (b5.mono hB.out.size))
          clear b5
          cases hbb : inB i o g y later with
          | true =>
            rw [hbb, if_pos rfl] at HN
            go_wp2
            go_roundw
            case rel => exact ⟨k + 1, by omega, by go_num, by rw [HN.out]; go_num, B5.out⟩
            case measure => simp [intOf]; omega
          | false =>
            rw [hbb, if_neg (by simp)] at HN
            go_wp2
            go_roundw
            case rel => exact ⟨k + 1, by omega, by go_num, by rw [HN.out]; rfl, B5.out⟩
            case measure => simp [intOf]; omega
        · have hkL : k = L.length := by omega
          subst hkL
          have hf : ¬ ((L.length : Int) < (L.length : Int)) := by omega
          rw [List.take_length]
          have hc1 : cntL i o g later L ≤ 1000 := Nat.le_trans (cntL_le _ _ _ _ _) hlen
          have HCN := Lib.hid hc1
          generalize cntL i o g later L = c at *
          dsimp only [OX] at X
          clear hlt hk hc1
          go_wp2_with fail
          clear X
          refine (ratio_c c L.length wr (Nat.le_trans HCN.out (by decide)) (Nat.le_trans HLE.out (by decide))).mono ?_
          rintro e w6 ⟨rfl, b6⟩
          have X6 := HX.out.keep b6
          have FIN := Lib.hid (X6.done (decB (rtN c L.length)) (decB (rtD c L.length)))
          dsimp only [OX] at X6
          clear b6
          go_wp2
          obtain ⟨q0, q1, hBB⟩ := FIN.out
          exact bodyPost_ret (v := .tuple #[.agg #[.string (decB (rtN c L.length)), .string (decB (rtD c L.length))], .int .i64 0]) (by simp [results, Tryz.results10, go_sem, q0, q1]) rfl ⟨rfl, hBB⟩
  · have e1 : ovN i o g wave later = ⟨#[]⟩ := by unfold ovN; rw [if_pos h0]
    have e2 : ovD i o g wave later = ⟨#[]⟩ := by unfold ovD; rw [if_pos h0]
    have e3 : ovF i o g wave later = chkRot i o g := by unfold ovF; rw [if_pos h0]
    rw [e1, e2, e3]
    clear e1 e2 e3
    generalize chkRot i o g = x at *
    have hx : (x == 0) = false := by simpa using h0
    have dummy : True := trivial
    · clear dummy
      obtain ⟨W1, hW1⟩ : ∃ W1, (w.alloc (.cells #[.int .i64 i, .int .i64 o, .int .i64 g] 23)).alloc (.cells #[.string ⟨#[]⟩, .string ⟨#[]⟩] 31) = W1 := ⟨_, rfl⟩
      have R0 := OX.make w i o g
      rw [hW1] at R0
      have HR := Lib.hid R0
      dsimp only [OX] at R0
      go_enter Tryz.func10, Tryz.ntmps10
      go_wp2_with fail
      clear R0 hW1
      refine (HC.out W1).mono ?_
      rintro e w2 ⟨rfl, b2⟩
      have R2 := HR.out.keep b2
      have H2 := Lib.hid R2
      clear b2 HR
      dsimp only [OX] at R2
      have FIN := Lib.hid (H2.out.done ⟨#[]⟩ ⟨#[]⟩)
      go_wp2
      obtain ⟨q0, q1, hB⟩ := FIN.out
      exact bodyPost_ret (v := .tuple #[.agg #[.string ⟨#[]⟩, .string ⟨#[]⟩], .int .i64 x]) (by simp [results, Tryz.results10, go_sem, q0, q1]) rfl ⟨rfl, hB⟩
set_option maxHeartbeats 4000000 in
theorem ROverlap_c (i o g wave later : Int) (w : World) (hE : Pow w) : Calls Tryz.prog 11 #[rotV i o g, .int .i64 wave, .int .i64 later] w (OvP (ovN i o g wave later) (ovD i o g wave later) (ovF i o g wave later) w) := by
  have HE := Lib.hid hE
  clear hE
  have HC := Lib.hid (fun W => rchk_c i o g W)
  by_cases h0 : chkRot i o g = 0
  · obtain ⟨hi, ho, hg⟩ := chk_zero h0
    have n0 : ¬ chkRot i o g ≠ 0 := fun h => h h0
    by_cases hw : ovBad wave later
    · have e1 : ovN i o g wave later = ⟨#[]⟩ := by unfold ovN; rw [if_neg n0, if_pos hw]
      have e2 : ovD i o g wave later = ⟨#[]⟩ := by unfold ovD; rw [if_neg n0, if_pos hw]
      have e3 : ovF i o g wave later = 1 := by unfold ovF; rw [if_neg n0, if_pos hw]
      rw [h0] at HC
      rw [e1, e2, e3]
      have hww : (decide (wave < 1) || decide (later < wave) || decide (1000 < later)) = true := by unfold ovBad at hw; simp; omega
      have hz : 1 ≤ wave → ¬ (later < wave) → 1000 < later := by unfold ovBad at hw; omega
      clear hi ho hg h0 n0 e1 e2 e3 hw
      obtain ⟨W1, hW1⟩ : ∃ W1, (w.alloc (.cells #[.int .i64 i, .int .i64 o, .int .i64 g] 23)).alloc (.cells #[.string ⟨#[]⟩, .string ⟨#[]⟩] 31) = W1 := ⟨_, rfl⟩
      have R0 := OX.make w i o g
      rw [hW1] at R0
      have HR := Lib.hid R0
      dsimp only [OX] at R0
      go_enter Tryz.func11, Tryz.ntmps11
      go_wp2_with fail
      clear R0 hW1
      refine (HC.out W1).mono ?_
      rintro e w2 ⟨rfl, b2⟩
      have R2 := HR.out.keep b2
      have H2 := Lib.hid R2
      clear b2 HR
      dsimp only [OX] at R2
      have hzz := Lib.hid hz
      clear hz
      have FIN := Lib.hid (H2.out.done ⟨#[]⟩ ⟨#[]⟩)
      go_wp2
      all_goals first
        | (exfalso; have := hzz.out; omega)
        | (obtain ⟨q0, q1, hB⟩ := FIN.out
           exact bodyPost_ret (v := .tuple #[.agg #[.string ⟨#[]⟩, .string ⟨#[]⟩], .int .i64 1]) (by simp [results, Tryz.results11, go_sem, q0, q1]) rfl ⟨rfl, hB⟩)
    · obtain ⟨m, rfl⟩ : ∃ m : Nat, wave = (m : Int) := ⟨wave.toNat, by unfold ovBad at hw; omega⟩
      have hm : 1 ≤ m ∧ m ≤ 1000 := by unfold ovBad at hw; omega
      have hl : (m : Int) ≤ later ∧ later ≤ 1000 := by unfold ovBad at hw; omega
      have eL : ovL i o g m = grpL i o g m m := by unfold ovL; rw [Int.toNat_natCast]
      have e1 : ovN i o g m later = decB (rtN (cntL i o g later (grpL i o g m m)) (grpL i o g m m).length) := by unfold ovN; rw [if_neg n0, if_neg hw, eL]
      have e2 : ovD i o g m later = decB (rtD (cntL i o g later (grpL i o g m m)) (grpL i o g m m).length) := by unfold ovD; rw [if_neg n0, if_neg hw, eL]
      have e3 : ovF i o g m later = 0 := by unfold ovF; rw [if_neg n0, if_neg hw]
      rw [h0] at HC
      rw [e1, e2, e3]
      have HG := Lib.hid (fun W => groups_c i o g m W hi ho hg hm.2)
      have HI := Lib.hid (fun (x : Int) W (h1 : 1 ≤ x ∧ x ≤ (m : Int)) => rIsIn_c i o g x later W hi ho hg ⟨h1.1, by omega⟩ hl.2)
      have hM := fun x (hx : x ∈ grpL i o g m m) => grpL_mem hx
      have HPOS := Lib.hid (grpL_pos (o := o) (g := g) hm.1 hi.1)
      have HLE : Hid ((grpL i o g m m).length ≤ 1000) := Nat.le_trans (grpL_len _ _ _ _ _) hm.2
      have hw1 : (1 : Int) ≤ (m : Int) := by omega
      have hw2 : (m : Int) ≤ later := hl.1
      have hw3 : later ≤ 1000 := hl.2
      have HM := Lib.hid hM
      clear hi ho hg h0 n0 hw hm hl e1 e2 e3 eL hM
      generalize hL : grpL i o g m m = L at *
      clear hL
      obtain ⟨W1, hW1⟩ : ∃ W1, (w.alloc (.cells #[.int .i64 i, .int .i64 o, .int .i64 g] 23)).alloc (.cells #[.string ⟨#[]⟩, .string ⟨#[]⟩] 31) = W1 := ⟨_, rfl⟩
      have R0 := OX.make w i o g
      rw [hW1] at R0
      have HR := Lib.hid R0
      dsimp only [OX] at R0
      go_enter Tryz.func11, Tryz.ntmps11
      go_wp2_with fail
      clear R0 hW1
      refine (HC.out W1).mono ?_
      rintro e w2 ⟨rfl, b2⟩
      have R2 := HR.out.keep b2
      have H2 := Lib.hid R2
      clear b2 HR
      dsimp only [OX] at R2
      go_wp2_with fail
      refine (HG.out w2).mono ?_
      rintro e w3 ⟨v, rfl, hv⟩
      have R3 := H2.out.keep (Below.mono hv.bel (Nat.le_refl _))
      have H3 := Lib.hid R3
      obtain ⟨gb, cap, rfl, _, hgs, hcell⟩ := own_open hv.row HPOS.out
      have HCL : Hid (∀ j (hj : j < L.length), w3.cell? ⟨gb, j, none⟩ = some (.int .i64 L[j])) := fun j hj => hcell j _ (by simp [hj])
      have HGS := Lib.hid hgs
      clear hv hcell R2 H2 hgs hw1 hw2
      dsimp only [OX] at R3
      have hlen : L.length ≤ 1000 := HLE.out
      go_wp2_with fail
      clear R3
      go_loopw [9, 36] (fun c x wr => ∃ k : Nat, k ≤ L.length ∧ x = .int .i64 k ∧ c = .int .i64 (cntL i o g later (L.take k) : Nat) ∧ Hid (Below w3.heap.size w3 wr)) (fun _ x _ => (L.length - intOf x).toNat)
      case atStart => exact ⟨0, Nat.zero_le _, rfl, rfl, Below.refl _ _⟩
      case round =>
        obtain ⟨k, hk, rfl, rfl, hB⟩ := hrel
        have X := H3.out.keep hB.out
        have HX := Lib.hid X
        by_cases hlt : k < L.length
        · have hlt' : (k : Int) < (L.length : Int) := by omega
          have hc : wr.cell? ⟨gb, k, none⟩ = some (.int .i64 L[k]) := by rw [hB.out.cell (p := ⟨gb, k, none⟩) HGS.out]; exact HCL.out k hlt
          have hc2 : wr.cell? ⟨gb, 0 + k, none⟩ = some (.int .i64 L[k]) := by rw [Nat.zero_add]; exact hc
          have hx := HM.out L[k] (List.getElem_mem hlt)
          have HN := Lib.hid (cntL_next (i := i) (o := o) (g := g) (later := later) hlt)
          have hcl : cntL i o g later (L.take k) ≤ 1000 := Nat.le_trans (cntL_le _ _ _ _ _) (by rw [List.length_take]; omega)
          have HH := Lib.hid (HI.out L[k] wr hx)
          generalize cntL i o g later (L.take k) = c at *
          generalize L[k] = y at *
          clear hx
          dsimp only [OX] at X
          go_wp2_with fail
          clear hc hc2 X
          refine HH.out.mono ?_
          rintro e w5 ⟨rfl, b5⟩
          have B5 := Lib.hid (hB.out.trans (b5.mono hB.out.size))
          clear b5
          cases hbb : inB i o g y later with
          | true =>
            rw [hbb, if_pos rfl] at HN
            go_wp2
            go_roundw
            case rel => exact ⟨k + 1, by omega, by go_num, by rw [HN.out]; go_num, B5.out⟩
            case measure => simp [intOf]; omega
          | false =>
            rw [hbb, if_neg (by simp)] at HN
            go_wp2
            go_roundw
            case rel => exact ⟨k + 1, by omega, by go_num, by rw [HN.out]; rfl, B5.out⟩
            case measure => simp [intOf]; omega
        · have hkL : k = L.length := by omega
          subst hkL
          have hf : ¬ ((L.length : Int) < (L.length : Int)) := by omega
          rw [List.take_length]
          have hc1 : cntL i o g later L ≤ 1000 := Nat.le_trans (cntL_le _ _ _ _ _) hlen
          have HCN := Lib.hid hc1
          generalize cntL i o g later L = c at *
          dsimp only [OX] at X
          clear hlt hk hc1
          go_wp2_with fail
          clear X
          refine (Part_c c L.length wr (Nat.lt_of_le_of_lt HCN.out (by decide)) (Nat.lt_of_le_of_lt HLE.out (by decide))).mono ?_
          rintro e w5 ⟨a, ka, ca, b, kb, cb, rfl, la, lb, b5⟩
          have X5 := Lib.hid (HX.out.keep b5)
          have LA := Lib.hid la
          have LB := Lib.hid lb
          clear la lb b5
          go_wp2_with fail
          refine (RRatio_c a b ca cb ka kb c L.length w5 LA.out LB.out HPOS.out (Go.Joins.tab_stays gPow HE.out X5.out.2.2.2.2.2.2.2.out.1 (Nat.le_refl _))).mono ?_
          rintro e w6 ⟨rfl, b6⟩
          have X6 := X5.out.keep b6
          have en : c / Nat.gcd c L.length = rtN c L.length := by unfold rtN; rw [if_neg (by have := HPOS.out; omega)]
          have ed : L.length / Nat.gcd c L.length = rtD c L.length := by unfold rtD; rw [if_neg (by have := HPOS.out; omega)]
          rw [en, ed]
          clear en ed
          have FIN := Lib.hid (X6.done (decB (rtN c L.length)) (decB (rtD c L.length)))
          dsimp only [OX] at X6
          clear b6
          go_wp2
          obtain ⟨q0, q1, hBB⟩ := FIN.out
          exact bodyPost_ret (v := .tuple #[.agg #[.string (decB (rtN c L.length)), .string (decB (rtD c L.length))], .int .i64 0]) (by simp [results, Tryz.results11, go_sem, q0, q1]) rfl ⟨rfl, hBB⟩
  · have e1 : ovN i o g wave later = ⟨#[]⟩ := by unfold ovN; rw [if_pos h0]
    have e2 : ovD i o g wave later = ⟨#[]⟩ := by unfold ovD; rw [if_pos h0]
    have e3 : ovF i o g wave later = chkRot i o g := by unfold ovF; rw [if_pos h0]
    rw [e1, e2, e3]
    clear e1 e2 e3
    generalize chkRot i o g = x at *
    have hx : (x == 0) = false := by simpa using h0
    have dummy : True := trivial
    · clear dummy
      obtain ⟨W1, hW1⟩ : ∃ W1, (w.alloc (.cells #[.int .i64 i, .int .i64 o, .int .i64 g] 23)).alloc (.cells #[.string ⟨#[]⟩, .string ⟨#[]⟩] 31) = W1 := ⟨_, rfl⟩
      have R0 := OX.make w i o g
      rw [hW1] at R0
      have HR := Lib.hid R0
      dsimp only [OX] at R0
      go_enter Tryz.func11, Tryz.ntmps11
      go_wp2_with fail
      clear R0 hW1
      refine (HC.out W1).mono ?_
      rintro e w2 ⟨rfl, b2⟩
      have R2 := HR.out.keep b2
      have H2 := Lib.hid R2
      clear b2 HR
      dsimp only [OX] at R2
      have FIN := Lib.hid (H2.out.done ⟨#[]⟩ ⟨#[]⟩)
      go_wp2
      obtain ⟨q0, q1, hB⟩ := FIN.out
      exact bodyPost_ret (v := .tuple #[.agg #[.string ⟨#[]⟩, .string ⟨#[]⟩], .int .i64 x]) (by simp [results, Tryz.results11, go_sem, q0, q1]) rfl ⟨rfl, hB⟩
end Go.Proofs.YtfldlcnlijljcaaGreatDoor
namespace Go.Proofs.YtfldlcnlijljcaaGreatDoor
open Go.RowKit

/-- Two owned rows with equal numbers are equal. -/
theorem equalG (w0 w1 W : World) (v v' : Value) (L : List Int) (hL : L.length ≤ 9223372036854775807) (h : Grown w0.heap.size w0 L v W) (h' : Grown w1.heap.size w1 L v' W) :
    Calls Tryz.prog 9 #[v, v'] W fun e w' => e = .returned (.bool true) ∧ Below W.heap.size W w' := by
  rcases Nat.eq_zero_or_pos L.length with h0 | h0
  · have z : ∀ (w0 : World) (v : Value), Grown w0.heap.size w0 L v W → ∃ a c, v = .slice a 0 c := by
      intro w0 v h
      rcases h.row.2 with ⟨e, _⟩ | ⟨g, cap, cur, e, _⟩
      · exact ⟨_, _, e⟩
      · exact ⟨_, _, by rw [e, h0]⟩
    obtain ⟨a, c, rfl⟩ := z w0 v h
    obtain ⟨a', c', rfl⟩ := z w1 v' h'
    exact (Tryz.slices_Equal_int_empty a a' c 0 c' W (by omega)).mono fun e w' ⟨he, hw⟩ => ⟨by rw [he]; rfl, by rw [hw]; exact Below.refl _ _⟩
  · obtain ⟨g, cap, rfl, _, _, hc⟩ := own_open h.row h0
    obtain ⟨g', cap', rfl, _, _, hc'⟩ := own_open h'.row h0
    refine (Tryz.slices_Equal_int g 0 L.length cap g' 0 L.length cap' L L W (Nat.le_refl _) (Nat.le_refl _) hL hL (fun j hj => ?_) (fun j hj => ?_)).mono fun e w' ⟨he, q, hw⟩ => ⟨by rw [he]; simp, by rw [hw]; exact below_drew _ _⟩
    · rw [Nat.zero_add]; exact hc j _ (by simp [hj])
    · rw [Nat.zero_add]; exact hc' j _ (by simp [hj])
theorem gL_len (i o g wave : Int) : (gL i o g wave).length ≤ 1000 := by
  unfold gL
  split
  · simp
  · split
    · simp
    · exact Nat.le_trans (grpL_len _ _ _ _ _) (by omega)
/-- What the law keeps through its conditions. -/
def LS (w W1 w2 : World) (i o g : Int) (L : List Int) (v1 v2 : Value) (W : World) : Prop :=
  W.cell? ⟨w.heap.size, 0, none⟩ = some (.int .i64 i) ∧ W.cell? ⟨w.heap.size, 1, none⟩ = some (.int .i64 o) ∧ W.cell? ⟨w.heap.size, 2, none⟩ = some (.int .i64 g) ∧
  Hid ((Below w.heap.size w W ∧ w.heap.size < W.heap.size) ∧ Grown W1.heap.size W1 L v1 W ∧ Grown w2.heap.size w2 L v2 W)
theorem LS.rb {w W1 w2 W : World} {i o g : Int} {L : List Int} {v1 v2 : Value} (h : LS w W1 w2 i o g L v1 v2 W) : RB w i o g W := ⟨h.1, h.2.1, h.2.2.1, h.2.2.2.out.1⟩
theorem LS.keep {w W1 w2 W W' : World} {i o g : Int} {L : List Int} {v1 v2 : Value} (h : LS w W1 w2 i o g L v1 v2 W) (hb : Below W.heap.size W W') : LS w W1 w2 i o g L v1 v2 W' := by
  obtain ⟨a0, a1, a2, s⟩ := h.rb.keep hb
  exact ⟨a0, a1, a2, s.out, h.2.2.2.out.2.1.keep hb, h.2.2.2.out.2.2.keep hb⟩
theorem ls_chk (w W1 w2 : World) (i o g : Int) (L : List Int) (v1 v2 : Value) (x : Int) (hx : chkRot i o g = x) (W : World) (h : LS w W1 w2 i o g L v1 v2 W) :
    Calls Tryz.prog 7 #[rotV i o g] W fun e w' => e = .returned (.int .i64 x) ∧ LS w W1 w2 i o g L v1 v2 w' :=
  (chk_c i o g W).mono fun e w' ⟨he, hb⟩ => ⟨by rw [he, hx], h.keep hb⟩
theorem ls_rchk (w W1 w2 : World) (i o g : Int) (L : List Int) (v1 v2 : Value) (x : Int) (hx : chkRot i o g = x) (W : World) (h : LS w W1 w2 i o g L v1 v2 W) :
    Calls Tryz.prog 8 #[rotV i o g] W fun e w' => e = .returned (.int .i64 x) ∧ LS w W1 w2 i o g L v1 v2 w' :=
  (rchk_c i o g W).mono fun e w' ⟨he, hb⟩ => ⟨by rw [he, hx], h.keep hb⟩
theorem ls_eq (w W1 w2 : World) (i o g : Int) (L : List Int) (v1 v2 : Value) (hL : L.length ≤ 9223372036854775807) (W : World) (h : LS w W1 w2 i o g L v1 v2 W) :
    Calls Tryz.prog 9 #[v1, v2] W fun e w' => e = .returned (.bool true) ∧ LS w W1 w2 i o g L v1 v2 w' :=
  (equalG W1 w2 W v1 v2 L hL h.2.2.2.out.2.1 h.2.2.2.out.2.2).mono fun e w' ⟨he, hb⟩ => ⟨he, h.keep hb⟩
set_option maxHeartbeats 4000000 in
theorem law_panels (i o g wave later : Int) (w : World) (hE : Pow w) :
    Calls Tryz.prog 3 #[rotV i o g, .int .i64 wave, .int .i64 later] w fun e w' => e = .returned (.bool true) ∧ Below w.heap.size w w' := by
  have HE := Lib.hid hE
  clear hE
  have R0 := RB.make w i o g
  obtain ⟨W1, hW1⟩ : ∃ W1, w.alloc (.cells #[.int .i64 i, .int .i64 o, .int .i64 g] 23) = W1 := ⟨_, rfl⟩
  rw [hW1] at R0
  have H0 := Lib.hid R0
  dsimp only [RB] at R0
  go_enter Tryz.func3, Tryz.ntmps3
  go_wp2_with fail
  clear R0 hW1
  refine (Groups_c i o g wave W1).mono ?_
  rintro e w2 ⟨v1, rfl, g1⟩
  have R2 := H0.out.keep (Below.mono g1.bel (Nat.le_refl _))
  have H2 := Lib.hid R2
  have G1 := Lib.hid g1
  clear g1 H0
  dsimp only [RB] at R2
  go_wp2_with fail
  clear R2
  refine (RGroups_c i o g wave w2).mono ?_
  rintro e w3 ⟨v2, rfl, g2⟩
  have R3 := H2.out.keep (Below.mono g2.bel (Nat.le_refl _))
  have H3 := Lib.hid R3
  have G2 := Lib.hid g2
  have G13 := Lib.hid (G1.out.keep g2.bel)
  clear g2 H2 G1
  dsimp only [RB] at R3
  have hLS : LS w W1 w2 i o g (gL i o g wave) v1 v2 w3 := ⟨H3.out.1, H3.out.2.1, H3.out.2.2.1, H3.out.2.2.2.out, G13.out, G2.out⟩
  obtain ⟨x, hx⟩ : ∃ x, chkRot i o g = x := ⟨_, rfl⟩
  have HX := Lib.hid hx
  have HLEN : Hid ((gL i o g wave).length ≤ 9223372036854775807) := Nat.le_trans (gL_len _ _ _ _) (by decide)
  clear hx G2 G13
  generalize gL i o g wave = L at *
  generalize gF i o g wave = f at *
  go_wp2_with fail
  clear R3 H3
  go_region_held3 (fun W => W.cell? ⟨w.heap.size, 0, none⟩ = some (.int .i64 i) ∧ W.cell? ⟨w.heap.size, 1, none⟩ = some (.int .i64 o) ∧ W.cell? ⟨w.heap.size, 2, none⟩ = some (.int .i64 g) ∧ Hid ((Below w.heap.size w W ∧ w.heap.size < W.heap.size) ∧ Grown W1.heap.size W1 L v1 W ∧ Grown w2.heap.size w2 L v2 W)) (first | exact hLS.keep (Below.refl _ _).drew | assumption)
    (first | (go_at_call 7; (with_reducible refine (ls_chk w W1 w2 i o g L v1 v2 x HX.out _ ?_).mono ?_); assumption; rintro e w' ⟨rfl, hbx⟩) | (go_at_call 8; (with_reducible refine (ls_rchk w W1 w2 i o g L v1 v2 x HX.out _ ?_).mono ?_); assumption; rintro e w' ⟨rfl, hbx⟩) | (go_at_call 9; (with_reducible refine (ls_eq w W1 w2 i o g L v1 v2 HLEN.out _ ?_).mono ?_); assumption; rintro e w' ⟨rfl, hbx⟩))
  have R4 := hbx.rb
  have H4 := Lib.hid R4
  clear hbx hLS
  dsimp only [RB] at R4
  go_wp2_with fail
  clear R4
  refine (Overlap_c i o g wave later _).mono ?_
  rintro e w5 ⟨rfl, b5⟩
  have H5 := Lib.hid (H4.out.keep b5)
  clear b5 H4
  have HRO := Lib.hid (fun W (hP : Pow W) => ROverlap_c i o g wave later W hP)
  generalize ovN i o g wave later = s1 at *
  generalize ovD i o g wave later = s2 at *
  generalize ovF i o g wave later = f2 at *
  obtain ⟨W6, hW6⟩ : ∃ W6, w5.alloc (.cells #[.string s1, .string s2] 31) = W6 := ⟨_, rfl⟩
  have H6 := Lib.hid (show RB w i o g W6 by rw [← hW6]; exact H5.out.keep (Pqbel_one _ _))
  have R6 := H6.out
  dsimp only [RB] at R6
  have p0 : Hid (W6.cell? ⟨w5.heap.size, 0, none⟩ = some (.string s1) ∧ W6.cell? ⟨w5.heap.size, 1, none⟩ = some (.string s2) ∧ w5.heap.size < W6.heap.size) := by
    rw [← hW6]
    exact ⟨by rw [World.cell?_alloc_at _ _ _ _ rfl]; rfl, by rw [World.cell?_alloc_at _ _ _ _ rfl]; rfl, by simp⟩
  go_wp2_with fail
  clear R6 hW6
  refine (HRO.out W6 (Go.Joins.tab_stays gPow HE.out H6.out.2.2.2.out.1 (Nat.le_refl _))).mono ?_
  rintro e w7 ⟨rfl, b7⟩
  have H7 := Lib.hid (H6.out.keep b7)
  have m0 : w7.cell? ⟨w5.heap.size, 0, none⟩ = some (.string s1) := by rw [b7.cell (p := ⟨w5.heap.size, 0, none⟩) p0.out.2.2]; exact p0.out.1
  have m1 : w7.cell? ⟨w5.heap.size, 1, none⟩ = some (.string s2) := by rw [b7.cell (p := ⟨w5.heap.size, 1, none⟩) p0.out.2.2]; exact p0.out.2.1
  have ms : w5.heap.size < w7.heap.size := Nat.lt_of_lt_of_le p0.out.2.2 b7.size
  obtain ⟨W8, hW8⟩ : ∃ W8, w7.alloc (.cells #[.string s1, .string s2] 31) = W8 := ⟨_, rfl⟩
  have H8 := Lib.hid (show RB w i o g W8 by rw [← hW8]; exact H7.out.keep (Pqbel_one _ _))
  have q0 : W8.cell? ⟨w7.heap.size, 0, none⟩ = some (.string s1) := by rw [← hW8, World.cell?_alloc_at _ _ _ _ rfl]; rfl
  have q1 : W8.cell? ⟨w7.heap.size, 1, none⟩ = some (.string s2) := by rw [← hW8, World.cell?_alloc_at _ _ _ _ rfl]; rfl
  have q2 : W8.cell? ⟨w5.heap.size, 0, none⟩ = some (.string s1) := by rw [← hW8, (Pqbel_one w7 _).cell (p := ⟨w5.heap.size, 0, none⟩) ms]; exact m0
  have q3 : W8.cell? ⟨w5.heap.size, 1, none⟩ = some (.string s2) := by rw [← hW8, (Pqbel_one w7 _).cell (p := ⟨w5.heap.size, 1, none⟩) ms]; exact m1
  clear m0 m1 ms b7 p0
  go_wp2
  go_ret
  exact ⟨rfl, H8.out.2.2.2.out.1⟩
end Go.Proofs.YtfldlcnlijljcaaGreatDoor
