/-
  A builder of strings that is written once: fresh, WriteString, String.
-/
import Derived.Test.YtecbkfmdpgkdiaaGreatDoorRatOf
import Derived.Lib.AppendStr
namespace Go.Proofs.YtecbkfmdpgkdiaaGreatDoor
open Go.RowKit

theorem sizeBuilder : (Tryz.prog.info? 74).map (·.size) = some 2 := by kernel_rfl
/-- A builder that is not written yet. -/
def Fresh (w : World) (b : Nat) : Prop := w.heap[b]? = some (.cells #[.pointer none, .slice none 0 0] 74 (0, 0))
theorem Fresh.c0 {w : World} {b : Nat} (h : Fresh w b) : w.cell? ⟨b, 0, none⟩ = some (.pointer none) := by rw [Lib.cell_of_heap h]; rfl
theorem Fresh.c1 {w : World} {b : Nat} (h : Fresh w b) : w.cell? ⟨b, 1, none⟩ = some (.slice none 0 0) := by rw [Lib.cell_of_heap h]; rfl
set_option maxHeartbeats 1000000 in
set_option maxRecDepth 100000 in
theorem check_c (b : Nat) (w : World) (h : Fresh w b) :
    Calls Tryz.prog 57 #[.pointer (some ⟨b, 0, none⟩)] w fun e w' => e = .returned (.tuple #[]) ∧ w' = w.setCell ⟨b, 0, none⟩ (.pointer (some ⟨b, 0, none⟩)) := by
  obtain ⟨j, hj, hjs⟩ := Option.map_eq_some_iff.1 sizeBuilder
  have h0 := h.c0
  have hfz : w.frozen? ⟨b, 0, none⟩ = false := Lib.frozen_of_heap h 0
  have hsh : w.shape? b = some (74, 2) := by simp [World.shape?, show w.heap[b]? = _ from h]
  have hlies : liesAt Tryz.prog Tryz.prog.depth 74 (2 / Tryz.prog.cellsOf 74) 0 74 1 = true := by kernel_rfl
  have u1 := Lib.run_to_unsafe (P := Tryz.prog) w ⟨b, 0, none⟩ Tryz.underlying71 Tryz.underlying107 hj (by rw [hjs]; decide) hsh (Nat.zero_lt_succ 1)
  have u3 := Lib.run_from_unsafe (P := Tryz.prog) w ⟨b, 0, none⟩ Tryz.underlying107 Tryz.underlying71 hj hsh hlies
  clear hsh hlies hj hjs
  go_enter Tryz.func57, Tryz.ntmps57
  go_wp2
  rw [run_callFunc_extern Tryz.func70 (by kernel_rfl) (by kernel_rfl) (by kernel_rfl) (e := Extern.AbiNoEscape.same) (by kernel_rfl)]
  rw [Lib.run_noEscape]
  simp only [Result.andThen]
  rw [Oper.upon_value]
  go_wp2
  go_end0
  exact ⟨rfl, rfl⟩
set_option maxHeartbeats 1000000 in
/-- One text, written into a fresh builder. -/
theorem write_c (B b : Nat) (s : ByteArray) (w : World) (h : Fresh w b) (hB : B ≤ b) (hs : s.size ≤ 4096) :
    Calls Tryz.prog 42 #[.pointer (some ⟨b, 0, none⟩), .string s] w fun e w' => e = .returned (.tuple #[.int .i64 s.size, .nilIface]) ∧ Lib.IsBuilder 74 5 B b (Lib.strCells s) w' ∧ Below B w w' := by
  obtain ⟨i0, hi, hz0, hz1, hz2⟩ := info_parts infoB
  have hlt : b < w.heap.size := lt_of_block h
  have HF := Lib.hid h
  have hu := (show Lib.BuilderAt 74 5 B b (.pointer none) [] w from ⟨hB, .slice none 0 0, h, World.ownsRow_nil _ _ _ _, by simp [Value.ownBlock]⟩).used (.pointer (some ⟨b, 0, none⟩))
  have HU := Lib.hid hu
  have HS := Lib.hid hs
  have HBB := Lib.hid hB
  have B1 : Hid (Below B w (w.setCell ⟨b, 0, none⟩ (.pointer (some ⟨b, 0, none⟩)))) := (Below.refl _ _).setCell (p := ⟨b, 0, none⟩) hB _
  have S1 : Hid (b < (w.setCell ⟨b, 0, none⟩ (.pointer (some ⟨b, 0, none⟩))).heap.size) := by unfold Hid; simpa using hlt
  clear h hu hs hlt hB
  go_enter Tryz.func42, Tryz.ntmps42
  go_wp2_with fail
  refine (check_c b w HF.out).mono ?_
  rintro e w1 ⟨rfl, rfl⟩
  generalize w.setCell ⟨b, 0, none⟩ (.pointer (some ⟨b, 0, none⟩)) = w1 at *
  obtain ⟨hB, v, hbk, hown, hne⟩ := HU.out
  have HBk := Lib.hid hbk
  have HNE := Lib.hid hne
  have HOW := Lib.hid hown
  have c0 : w1.cell? ⟨b, 0, none⟩ = some (.pointer (some ⟨b, 0, none⟩)) := by rw [Lib.cell_of_heap hbk]; rfl
  have c1 : w1.cell? ⟨b, 1, none⟩ = some v := by rw [Lib.cell_of_heap hbk]; rfl
  clear hbk hne hB hown HU
  go_wp2_with (at_builtin; refine Lib.wpList_append_own_string _ rfl _ _ 72 9 rfl B 5 i0 Tryz.underlying72 Tryz.underlying9 hi hz0 hz1 hz2 _ _ _ rfl HOW.out s rfl ?c3 ?c4 ?c5 ?_)
  case c3 => have := HS.out; unfold maxLen; simp; omega
  case c4 => have := HS.out; simp; omega
  case c5 => have := S1.out; have := HBB.out; omega
  intro v' w2 hown' hgrow _
  have hb2 : w2.heap[b]? = some (.cells #[.pointer (some ⟨b, 0, none⟩), v] 74 (0, 0)) := by
    rw [hgrow.block b S1.out (fun e => HNE.out e.symm)]
    exact HBk.out
  have d0 : w2.cell? ⟨b, 0, none⟩ = some (.pointer (some ⟨b, 0, none⟩)) := by rw [Lib.cell_of_heap hb2]; rfl
  have d1 : w2.cell? ⟨b, 1, none⟩ = some v := by rw [Lib.cell_of_heap hb2]; rfl
  have f1 : w2.frozen? ⟨b, 1, none⟩ = false := Lib.frozen_of_heap hb2 1
  obtain ⟨ao, n', cap, rfl⟩ : ∃ ao n' cap, v' = .slice ao n' cap := by
    rcases hown'.2 with ⟨hv, _⟩ | ⟨g, cap, cur, hv, _⟩
    · exact ⟨_, _, _, hv⟩
    · exact ⟨_, _, _, hv⟩
  have HO2 := Lib.hid hown'
  have HB2 := Lib.hid hb2
  have HG2 := Lib.hid hgrow
  clear hown' hb2 hgrow c0 c1 hi hz0 hz1 hz2
  go_wp2
  go_ret2
  have hh := HO2.out
  refine ⟨rfl, .inr (Lib.BuilderAt.put (T := 74) (e := 5) HBB.out HB2.out (bs' := Lib.strCells s) (by simpa [Lib.strCells_length] using hh) (by decide)), ?_⟩
  exact (B1.out.grown HG2.out (by have := S1.out; have := HBB.out; omega) (fun k hk => (HOW.out.lt k hk).1)).setCell (p := ⟨b, 1, none⟩) HBB.out _
end Go.Proofs.YtecbkfmdpgkdiaaGreatDoor
