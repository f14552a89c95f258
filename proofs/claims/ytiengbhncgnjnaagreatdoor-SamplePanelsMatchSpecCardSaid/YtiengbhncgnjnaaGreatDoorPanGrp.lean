/-
  The groups of a wave, on both sides.
-/
import Derived.Test.YtiengbhncgnjnaaGreatDoorPanIn
namespace Go.Proofs.YtiengbhncgnjnaaGreatDoor
open Go.RowKit

def grpL (i o g wave : Int) (k : Nat) : List Int := ((List.range k).map fun (j : Nat) => (j : Int) + 1).filter fun x => inB i o g x wave
theorem grpL_succ (i o g wave : Int) (k : Nat) : grpL i o g wave (k + 1) = grpL i o g wave k ++ (if inB i o g ((k : Int) + 1) wave then [(k : Int) + 1] else []) := by
  unfold grpL
  rw [List.range_succ, List.map_append, List.filter_append]
  congr 1
  simp only [List.map_cons, List.map_nil, List.filter_cons, List.filter_nil]
theorem grpL_len (i o g wave : Int) (k : Nat) : (grpL i o g wave k).length ≤ k := by
  unfold grpL
  exact Nat.le_trans (List.length_filter_le _ _) (by simp)
structure Grown (B : Nat) (w : World) (L : List Int) (v : Value) (wr : World) : Prop where
  row : wr.ownsRow B 3 1 v L.length (L.map (Value.int .i64))
  bel : Below B w wr
  size : B ≤ wr.heap.size
theorem Grown.keep {B : Nat} {w wr w' : World} {L : List Int} {v : Value} (h : Grown B w L v wr) (hb : Below wr.heap.size wr w') : Grown B w L v w' := by
  refine ⟨?_, h.bel.trans (hb.mono h.size), Nat.le_trans h.size hb.size⟩
  exact h.row.kept (row := none) ⟨hb.os, hb.tape, hb.output, hb.size, fun k hk _ => hb.block k hk⟩ (by cases v.ownBlock <;> simp)
theorem Grown.more {B : Nat} {w wr w' : World} {L : List Int} {v v' : Value} (h : Grown B w L v wr) (x : Int) (o : Obj) (hown : w'.ownsRow B 3 1 v' (L.length + 1) (L.map (Value.int .i64) ++ [.int .i64 x])) (hg : (wr.alloc o).grownBy w' v.ownBlock) : Grown B w (L ++ [x]) v' w' := by
  have hs : B ≤ (wr.alloc o).heap.size := by have := h.size; simp; omega
  refine ⟨by simpa using hown, ?_, Nat.le_trans hs hg.size⟩
  exact (h.bel.alloc h.size o).grown hg hs (fun b hb => (h.row.lt b hb).1)
theorem Grown.down {w w1 wr : World} {L : List Int} {v : Value} {o : Obj} (e : w1 = w.alloc o) (h : Grown (w.heap.size + 1) w1 L v wr) : Grown w.heap.size w L v wr := by
  refine ⟨⟨h.row.1, ?_⟩, ?_, Nat.le_trans (Nat.le_succ _) h.size⟩
  · rcases h.row.2 with h | ⟨g, cap, cur, e1, e2, e3⟩
    · exact .inl h
    · exact .inr ⟨g, cap, cur, e1, by omega, e3⟩
  · subst e
    exact (bel_one w o).trans (h.bel.mono (Nat.le_succ _))
def GrpPost (L : List Int) (w : World) (e : Ending) (w' : World) : Prop := ∃ v, e = .returned v ∧ Grown w.heap.size w L v w'
set_option maxHeartbeats 1000000 in
theorem groupsIn_c (i o g : Int) (m : Nat) (w : World) (hi : 1 ≤ i ∧ i ≤ 1000) (ho : 0 ≤ o ∧ o ≤ 1000) (hg : 0 ≤ g ∧ g ≤ 1000) (h2 : m ≤ 1000) :
    Calls Tryz.prog 14 #[rotV i o g, .int .i64 m] w (GrpPost (grpL i o g m m) w) := by
  obtain ⟨i0, hi', hz0, hz1, hz2⟩ := info_parts infoI
  obtain ⟨W1, hW1⟩ : ∃ W1, w.alloc (.cells #[.int .i64 i, .int .i64 o, .int .i64 g] 23) = W1 := ⟨_, rfl⟩
  have k0 : Hid (W1.cell? ⟨w.heap.size, 0, none⟩ = some (.int .i64 i) ∧ W1.cell? ⟨w.heap.size, 1, none⟩ = some (.int .i64 o) ∧ W1.cell? ⟨w.heap.size, 2, none⟩ = some (.int .i64 g)) := by
    unfold Hid; rw [← hW1]
    refine ⟨?_, ?_, ?_⟩
    all_goals (rw [World.cell?_alloc_at _ _ _ _ rfl]; rfl)
  have HS : Hid (w.heap.size + 1 ≤ W1.heap.size) := by rw [← hW1]; simp [Hid]
  have HI := Lib.hid (fun (x : Int) W (h1 : 1 ≤ x ∧ x ≤ (m : Int)) (hm : (m : Int) ≤ 1000) => isIn_c i o g x m W hi ho hg ⟨h1.1, by omega⟩ ⟨by omega, hm⟩)
  clear hi ho hg
  go_enter Tryz.func14, Tryz.ntmps14
  go_wp2
  have HW := Lib.hid hW1
  clear hW1
  go_loopw [5, 6] (fun v x wr => ∃ k : Nat, k ≤ m ∧ x = .int .i64 ((k : Int) + 1) ∧ Hid (Grown (w.heap.size + 1) W1 (grpL i o g m k) v wr)) (fun _ x _ => (m + 1 - intOf x).toNat)
  case atStart => exact ⟨0, Nat.zero_le _, rfl, World.ownsRow_nil _ _ _ _, Below.refl _ _, HS.out⟩
  case round =>
    obtain ⟨k, hk, rfl, hG⟩ := hrel
    have c0 : wr.cell? ⟨w.heap.size, 0, none⟩ = some (.int .i64 i) := by rw [hG.out.bel.cell (p := ⟨w.heap.size, 0, none⟩) (Nat.lt_succ_self _)]; exact k0.out.1
    have c1 : wr.cell? ⟨w.heap.size, 1, none⟩ = some (.int .i64 o) := by rw [hG.out.bel.cell (p := ⟨w.heap.size, 1, none⟩) (Nat.lt_succ_self _)]; exact k0.out.2.1
    have c2 : wr.cell? ⟨w.heap.size, 2, none⟩ = some (.int .i64 g) := by rw [hG.out.bel.cell (p := ⟨w.heap.size, 2, none⟩) (Nat.lt_succ_self _)]; exact k0.out.2.2
    by_cases hlt : k < m
    · have hle : (k : Int) + 1 ≤ (m : Int) := by omega
      have HL := Lib.hid (grpL_len i o g m k)
      have HE := Lib.hid (grpL_succ i o g m k)
      go_wp2_with fail
      refine (HI.out ((k : Int) + 1) wr (by omega) (by omega)).mono ?_
      rintro e w3 ⟨rfl, b3⟩
      have G3 := Lib.hid (hG.out.keep b3)
      clear b3 hG c0 c1 c2
      cases hb : inB i o g ((k : Int) + 1) m with
      | true =>
        rw [hb] at HE
        have GR := Lib.hid G3.out.row
        go_wp2_with (at_builtin; refine wpList_append_own _ rfl _ _ 24 rfl (w.heap.size + 1) 3 i0 (.int .i64 0) 1 8 Tryz.underlying24 hi' hz0 hz1 hz2 rfl (by decide) _ _ _ rfl (GR.out.alloc _) ⟨w3.heap.size, 0, none⟩ 1 1 [.int .i64 ((k : Int) + 1)] rfl rfl ?c1 ?c2 ?c3 ?c4 ?c5 ?_)
        case c1 =>
          intro j u hj
          match j, hj with
          | 0, hj => simp at hj; subst hj; simp [Addr.add]
        case c2 => intro u hu; simp at hu; subst hu; rfl
        case c3 => have := HL.out; unfold maxLen; omega
        case c4 => have := HL.out; omega
        case c5 => have := G3.out.size; simp; omega
        intro v' w4 hown' hgrow _
        have G4 := Lib.hid (G3.out.more ((k : Int) + 1) _ hown' hgrow)
        clear hown' hgrow
        go_wp2
        go_roundw
        case rel => exact ⟨k + 1, by omega, by go_num, by rw [HE.out]; exact G4.out⟩
        case measure => simp [intOf]; omega
      | false =>
        rw [hb] at HE
        go_wp2
        go_roundw
        case rel => exact ⟨k + 1, by omega, by go_num, by have t := G3.out; rw [HE.out]; unfold Hid; simpa using t⟩
        case measure => simp [intOf]; omega
    · have hf : ¬ ((k : Int) + 1 ≤ (m : Int)) := by omega
      have hkm : Hid (k = m) := by unfold Hid; omega
      clear hlt hk c0 c1 c2
      go_wp2
      go_ret
      obtain rfl := hkm.out
      exact ⟨_, rfl, Grown.down HW.out.symm hG.out⟩
set_option maxHeartbeats 1000000 in
theorem groups_c (i o g : Int) (m : Nat) (w : World) (hi : 1 ≤ i ∧ i ≤ 1000) (ho : 0 ≤ o ∧ o ≤ 1000) (hg : 0 ≤ g ∧ g ≤ 1000) (h2 : m ≤ 1000) :
    Calls Tryz.prog 16 #[rotV i o g, .int .i64 m] w (GrpPost (grpL i o g m m) w) := by
  obtain ⟨i0, hi', hz0, hz1, hz2⟩ := info_parts infoI
  obtain ⟨W1, hW1⟩ : ∃ W1, w.alloc (.cells #[.int .i64 i, .int .i64 o, .int .i64 g] 23) = W1 := ⟨_, rfl⟩
  have k0 : Hid (W1.cell? ⟨w.heap.size, 0, none⟩ = some (.int .i64 i) ∧ W1.cell? ⟨w.heap.size, 1, none⟩ = some (.int .i64 o) ∧ W1.cell? ⟨w.heap.size, 2, none⟩ = some (.int .i64 g)) := by
    unfold Hid; rw [← hW1]
    refine ⟨?_, ?_, ?_⟩
    all_goals (rw [World.cell?_alloc_at _ _ _ _ rfl]; rfl)
  have HS : Hid (w.heap.size + 1 ≤ W1.heap.size) := by rw [← hW1]; simp [Hid]
  have HI := Lib.hid (fun (x : Int) W (h1 : 1 ≤ x ∧ x ≤ (m : Int)) (hm : (m : Int) ≤ 1000) => rIsIn_c i o g x m W hi ho hg h1 hm)
  clear hi ho hg
  go_enter Tryz.func16, Tryz.ntmps16
  go_wp2
  have HW := Lib.hid hW1
  clear hW1
  go_loopw [5, 6] (fun v x wr => ∃ k : Nat, k ≤ m ∧ x = .int .i64 ((k : Int) + 1) ∧ Hid (Grown (w.heap.size + 1) W1 (grpL i o g m k) v wr)) (fun _ x _ => (m + 1 - intOf x).toNat)
  case atStart => exact ⟨0, Nat.zero_le _, rfl, World.ownsRow_nil _ _ _ _, Below.refl _ _, HS.out⟩
  case round =>
    obtain ⟨k, hk, rfl, hG⟩ := hrel
    have c0 : wr.cell? ⟨w.heap.size, 0, none⟩ = some (.int .i64 i) := by rw [hG.out.bel.cell (p := ⟨w.heap.size, 0, none⟩) (Nat.lt_succ_self _)]; exact k0.out.1
    have c1 : wr.cell? ⟨w.heap.size, 1, none⟩ = some (.int .i64 o) := by rw [hG.out.bel.cell (p := ⟨w.heap.size, 1, none⟩) (Nat.lt_succ_self _)]; exact k0.out.2.1
    have c2 : wr.cell? ⟨w.heap.size, 2, none⟩ = some (.int .i64 g) := by rw [hG.out.bel.cell (p := ⟨w.heap.size, 2, none⟩) (Nat.lt_succ_self _)]; exact k0.out.2.2
    by_cases hlt : k < m
    · have hle : (k : Int) + 1 ≤ (m : Int) := by omega
      have HL := Lib.hid (grpL_len i o g m k)
      have HE := Lib.hid (grpL_succ i o g m k)
      go_wp2_with fail
      refine (HI.out ((k : Int) + 1) wr (by omega) (by omega)).mono ?_
      rintro e w3 ⟨rfl, b3⟩
      have G3 := Lib.hid (hG.out.keep b3)
      clear b3 hG c0 c1 c2
      cases hb : inB i o g ((k : Int) + 1) m with
      | true =>
        rw [hb] at HE
        have GR := Lib.hid G3.out.row
        go_wp2_with (at_builtin; refine wpList_append_own _ rfl _ _ 24 rfl (w.heap.size + 1) 3 i0 (.int .i64 0) 1 8 Tryz.underlying24 hi' hz0 hz1 hz2 rfl (by decide) _ _ _ rfl (GR.out.alloc _) ⟨w3.heap.size, 0, none⟩ 1 1 [.int .i64 ((k : Int) + 1)] rfl rfl ?c1 ?c2 ?c3 ?c4 ?c5 ?_)
        case c1 =>
          intro j u hj
          match j, hj with
          | 0, hj => simp at hj; subst hj; simp [Addr.add]
        case c2 => intro u hu; simp at hu; subst hu; rfl
        case c3 => have := HL.out; unfold maxLen; omega
        case c4 => have := HL.out; omega
        case c5 => have := G3.out.size; simp; omega
        intro v' w4 hown' hgrow _
        have G4 := Lib.hid (G3.out.more ((k : Int) + 1) _ hown' hgrow)
        clear hown' hgrow
        go_wp2
        go_roundw
        case rel => exact ⟨k + 1, by omega, by go_num, by rw [HE.out]; exact G4.out⟩
        case measure => simp [intOf]; omega
      | false =>
        rw [hb] at HE
        go_wp2
        go_roundw
        case rel => exact ⟨k + 1, by omega, by go_num, by have t := G3.out; rw [HE.out]; unfold Hid; simpa using t⟩
        case measure => simp [intOf]; omega
    · have hf : ¬ ((k : Int) + 1 ≤ (m : Int)) := by omega
      have hkm : Hid (k = m) := by unfold Hid; omega
      clear hlt hk c0 c1 c2
      go_wp2
      go_ret
      obtain rfl := hkm.out
      exact ⟨_, rfl, Grown.down HW.out.symm hG.out⟩
end Go.Proofs.YtiengbhncgnjnaaGreatDoor
