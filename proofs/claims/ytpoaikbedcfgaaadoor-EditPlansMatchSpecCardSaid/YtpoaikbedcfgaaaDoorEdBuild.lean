/-
  A builder of strings that grows: WriteString.
-/
import Derived.Test.YtpoaikbedcfgaaaDoorEdList
import Derived.Lib.AppendStr
namespace Go.Proofs.YtpoaikbedcfgaaaDoor
open Go.RowKit

theorem infoB : (Tryd.prog.info? 5).map (fun i => (i.zero, i.size, i.bytes)) = some (some (.int .u8 0), 1, 1) := by kernel_rfl
theorem info_byte : ∃ i, Tryd.prog.info? 5 = some i ∧ i.zero = some (.int .u8 0) ∧ i.size = 1 ∧ i.bytes = 1 := by
  have h := infoB
  cases e : Tryd.prog.info? 5 with
  | none => rw [e] at h; cases h
  | some i => rw [e] at h; simp at h; exact ⟨i, rfl, h⟩
theorem sizeBuilder : (Tryd.prog.info? 34).map (·.size) = some 2 := by kernel_rfl
abbrev IsB (g : Nat) (l : List UInt8) (W : World) : Prop := Lib.IsBuilder 34 5 g g (Lib.byteCells l) W
theorem strCells_is (s : ByteArray) : Lib.strCells s = Lib.byteCells s.data.toList := by simp [Lib.strCells, Lib.byteCells]
theorem byteCells_append (a b : List UInt8) : Lib.byteCells (a ++ b) = Lib.byteCells a ++ Lib.byteCells b := by simp [Lib.byteCells]
theorem byteCells_length (a : List UInt8) : (Lib.byteCells a).length = a.length := by simp [Lib.byteCells]
set_option maxHeartbeats 1000000 in
set_option maxRecDepth 100000 in
theorem check_fresh (b : Nat) (w : World) (h0 : w.cell? ⟨b, 0, none⟩ = some (.pointer none)) (hsh : w.shape? b = some (34, 2)) (hfz : w.frozen? ⟨b, 0, none⟩ = false) :
    Calls Tryd.prog 20 #[.pointer (some ⟨b, 0, none⟩)] w fun e w' => e = .returned (.tuple #[]) ∧ w' = w.setCell ⟨b, 0, none⟩ (.pointer (some ⟨b, 0, none⟩)) := by
  obtain ⟨j, hj, hjs⟩ := Option.map_eq_some_iff.1 sizeBuilder
  have hlies : liesAt Tryd.prog Tryd.prog.depth 34 (2 / Tryd.prog.cellsOf 34) 0 34 1 = true := by kernel_rfl
  have u1 := Lib.run_to_unsafe (P := Tryd.prog) w ⟨b, 0, none⟩ Tryd.underlying31 Tryd.underlying66 hj (by rw [hjs]; decide) hsh (Nat.zero_lt_succ 1)
  have u3 := Lib.run_from_unsafe (P := Tryd.prog) w ⟨b, 0, none⟩ Tryd.underlying66 Tryd.underlying31 hj hsh hlies
  clear hsh hlies hj hjs
  go_enter Tryd.func20, Tryd.ntmps20
  go_wp2
  rw [run_callFunc_extern Tryd.func30 (by kernel_rfl) (by kernel_rfl) (by kernel_rfl) (e := Extern.AbiNoEscape.same) (by kernel_rfl)]
  rw [Lib.run_noEscape]
  simp only [Result.andThen]
  rw [Oper.upon_value]
  go_wp2
  go_end0
  exact ⟨rfl, rfl⟩
set_option maxHeartbeats 1000000 in
set_option maxRecDepth 100000 in
theorem check_used (b : Nat) (w : World) (h0 : w.cell? ⟨b, 0, none⟩ = some (.pointer (some ⟨b, 0, none⟩))) :
    Calls Tryd.prog 20 #[.pointer (some ⟨b, 0, none⟩)] w fun e w' => e = .returned (.tuple #[]) ∧ w' = w := by
  obtain ⟨j, hj, _⟩ := Option.map_eq_some_iff.1 sizeBuilder
  go_enter Tryd.func20, Tryd.ntmps20
  go_wp2
  rw [Lib.run_neq_ptr_same w _ Tryd.underlying31 hj]
  go_wp2
  go_end0
  exact ⟨rfl, rfl⟩
theorem check_any (B b : Nat) (l : List Value) (w : World) (h : Lib.IsBuilder 34 5 B b l w) :
    Calls Tryd.prog 20 #[.pointer (some ⟨b, 0, none⟩)] w fun e w' => e = .returned (.tuple #[]) ∧ Lib.BuilderAt 34 5 B b (.pointer (some ⟨b, 0, none⟩)) l w' ∧ Below B w w' ∧ w.heap.size = w'.heap.size ∧ ∀ p : Addr, p ≠ ⟨b, 0, none⟩ → w'.cell? p = w.cell? p := by
  rcases h with h | h
  · refine (check_fresh b w h.cell0 h.shape h.frozen0).mono ?_
    rintro e w' ⟨rfl, rfl⟩
    exact ⟨rfl, h.used _, (Below.refl B w).setCell (p := ⟨b, 0, none⟩) h.1 _, by simp, fun p hp => World.cell?_setCell_other _ _ _ _ (fun e => hp e.symm)⟩
  · refine (check_used b w h.cell0).mono ?_
    rintro e w' ⟨rfl, rfl⟩
    exact ⟨rfl, h, Below.refl B _, rfl, fun _ _ => rfl⟩
set_option maxHeartbeats 1000000 in
set_option maxRecDepth 100000 in
theorem put_c (g : Nat) (l : List UInt8) (s : ByteArray) (w : World) (h : IsB g l w) (hl : l.length + s.size ≤ 1000000) :
    Calls Tryd.prog 8 #[.pointer (some ⟨g, 0, none⟩), .string s] w fun e w' => e = .returned (.tuple #[.int .i64 s.size, .nilIface]) ∧ IsB g (l ++ s.data.toList) w' ∧ Below g w w' ∧ ∀ p : Addr, p.block < w.heap.size → p.block ≠ g → (∀ v, w.cell? ⟨g, 1, none⟩ = some v → v.ownBlock ≠ some p.block) → w'.cell? p = w.cell? p := by
  obtain ⟨i0, hi, hz0, hz1, hz2⟩ := info_byte
  have HC := Lib.hid (check_any g g (Lib.byteCells l) w h)
  have HL := Lib.hid hl
  clear h hl
  go_enter Tryd.func8, Tryd.ntmps8
  go_wp2_with fail
  refine HC.out.mono ?_
  rintro e w1 ⟨rfl, ⟨_, v, hbk, hown, hne⟩, b1, hsz, hoth⟩
  have OTH := Lib.hid hoth
  have SZ := Lib.hid hsz
  clear hsz hoth
  have S1 : Hid (g < w1.heap.size) := lt_of_block hbk
  have B1 := Lib.hid b1
  have HBk := Lib.hid hbk
  have HNE := Lib.hid hne
  have HOW := Lib.hid hown
  have c0 : w1.cell? ⟨g, 0, none⟩ = some (.pointer (some ⟨g, 0, none⟩)) := by rw [Lib.cell_of_heap hbk]; rfl
  have c1 : w1.cell? ⟨g, 1, none⟩ = some v := by rw [Lib.cell_of_heap hbk]; rfl
  have C1 : Hid (w.cell? ⟨g, 1, none⟩ = some v) := by unfold Hid; rw [← OTH.out _ (by simp)]; exact c1
  clear hbk hne hown b1 HC
  go_wp2_with (at_builtin; refine Lib.wpList_append_own_string _ rfl _ _ 32 9 rfl g 5 i0 Tryd.underlying32 Tryd.underlying9 hi hz0 hz1 hz2 _ _ _ rfl HOW.out s rfl ?c3 ?c4 ?c5 ?_)
  case c3 => have := HL.out; have := byteCells_length l; unfold maxLen; omega
  case c4 => have := HL.out; have := byteCells_length l; omega
  case c5 => have := S1.out; omega
  intro v' w2 hown' hgrow _
  have hb2 : w2.heap[g]? = some (.cells #[.pointer (some ⟨g, 0, none⟩), v] 34 (0, 0)) := by
    rw [hgrow.block g S1.out (fun e => HNE.out e.symm)]
    exact HBk.out
  have d0 : w2.cell? ⟨g, 0, none⟩ = some (.pointer (some ⟨g, 0, none⟩)) := by rw [Lib.cell_of_heap hb2]; rfl
  have d1 : w2.cell? ⟨g, 1, none⟩ = some v := by rw [Lib.cell_of_heap hb2]; rfl
  have f1 : w2.frozen? ⟨g, 1, none⟩ = false := Lib.frozen_of_heap hb2 1
  obtain ⟨ao, n', cap, rfl⟩ : ∃ ao n' cap, v' = .slice ao n' cap := by
    rcases hown'.2 with ⟨hv, _⟩ | ⟨g, cap, cur, hv, _⟩
    · exact ⟨_, _, _, hv⟩
    · exact ⟨_, _, _, hv⟩
  have HO2 := Lib.hid hown'
  have HB2 := Lib.hid hb2
  have HG2 := Lib.hid hgrow
  clear hown' hb2 hgrow c0 c1 hi hz0 hz1 hz2
  go_wp2
  go_ret2
  have hh := HO2.out
  refine ⟨rfl, .inr (Lib.BuilderAt.put (T := 34) (e := 5) (Nat.le_refl _) HB2.out (bs' := Lib.byteCells (l ++ s.data.toList)) (by
    rw [byteCells_append, ← strCells_is, List.length_append, Lib.strCells_length]; simpa using hh) (by decide)), (B1.out.grown HG2.out (by have := S1.out; omega) (fun k hk => (HOW.out.lt k hk).1)).setCell (p := ⟨g, 1, none⟩) (Nat.le_refl _) _, ?_⟩
  intro p hp hpg hv
  rw [World.cell?_setCell_other _ _ _ _ (by intro e; exact hpg (by rw [← e]))]
  rw [← OTH.out p (by intro e; exact hpg (by rw [e]))]
  exact World.cell?_of_block (HG2.out.block p.block (by rw [← SZ.out]; exact hp) (fun e => hv v C1.out e.symm))
theorem isB_keep {g : Nat} {l : List UInt8} {w w' : World} (h : IsB g l w) (hb : Below w.heap.size w w') : IsB g l w' := by
  rcases h with ⟨h1, v, h2, h3, h4⟩ | ⟨h1, v, h2, h3, h4⟩
  · exact .inl ⟨h1, v, (hb.block g (lt_of_block h2)).trans h2, own_keep h3 hb, h4⟩
  · exact .inr ⟨h1, v, (hb.block g (lt_of_block h2)).trans h2, own_keep h3 hb, h4⟩
theorem put3_c (g : Nat) (l : List UInt8) (s : ByteArray) (w0 w : World) (h : IsB g l w0) (hb : Below w0.heap.size w0 w) (hl : l.length + s.size ≤ 1000000) :
    Calls Tryd.prog 8 #[.pointer (some ⟨g, 0, none⟩), .string s] w fun e w' => e = .returned (.tuple #[.int .i64 s.size, .nilIface]) ∧ IsB g (l ++ s.data.toList) w' ∧ Below g w w' ∧ ∀ p : Addr, w0.heap.size ≤ p.block → p.block < w.heap.size → w'.cell? p = w.cell? p := by
  have key : g < w0.heap.size ∧ ∀ v, w0.cell? ⟨g, 1, none⟩ = some v → ∀ k, v.ownBlock = some k → k < w0.heap.size := by
    rcases h with ⟨_, v, h2, h3, _⟩ | ⟨_, v, h2, h3, _⟩
    all_goals
      refine ⟨lt_of_block h2, fun v' hv k hk => ?_⟩
      have e : w0.cell? ⟨g, 1, none⟩ = some v := by rw [Lib.cell_of_heap h2]; rfl
      rw [e] at hv
      injection hv with hv
      subst hv
      exact (h3.lt k hk).2
  refine (put_c g l s w (isB_keep h hb) hl).mono ?_
  rintro e w' ⟨rfl, h1, h2, h3⟩
  refine ⟨rfl, h1, h2, fun p hp hq => h3 p hq (by have := key.1; omega) fun v hv hk => ?_⟩
  rw [hb.cell (p := ⟨g, 1, none⟩) key.1] at hv
  have := key.2 v hv _ hk
  omega
end Go.Proofs.YtpoaikbedcfgaaaDoor
