/-
  strataOf, clustersOf and sizeOf of package sample.
-/
import Derived.Test.YtkppfceogknlkaaDoorFrmGrpS
import Derived.Test.YtkppfceogknlkaaDoorFrmGrpI
import Derived.Deep.OwnRows
namespace Go.Proofs.YtkppfceogknlkaaDoor
open Go.RowKit Go.WideMaps Go.Maps

/-- What is known of a right frame's units. -/
structure Fine (l : List Un) : Prop where
  len : l.length ≤ 5000
  st : ∀ u, u ∈ l → u.st.size ≤ maxLen
  cl : ∀ u, u ∈ l → 0 ≤ u.cl ∧ u.cl ≤ 5000
  sz : ∀ u, u ∈ l → 0 ≤ u.sz ∧ u.sz ≤ 1000000
theorem bel_one (w : World) (o : Obj) : Below w.heap.size w (w.alloc o) := (Below.refl _ _).alloc (Nat.le_refl _) _
theorem mk_ints (n : Nat) (hn : n ≤ 5000) (w : World) : (Instr.makeSlice 34 (.int .i64 n) (.int .i64 n)).run Tryd.prog w = .ok (.slice (some ⟨w.heap.size, 0, none⟩) n n) (w.alloc (.cells (madeCells #[.int .i64 0] n) 3)) := by
  have hmk := run_make_row' (P := Tryd.prog) 34 3 (.int .i64 0) 8 Tryd.underlying34 infoI rfl .i64 .i64 n (by omega) (by omega)
  simpa using hmk w
/-- A row of ints in one block of the call's own: the first k hold their places. -/
def Num (W : World) (b n k : Nat) : Prop := ∀ j, j < n → W.cell? ⟨b, j, none⟩ = some (.int .i64 (if j < k then (j : Int) else 0)) ∧ W.frozen? ⟨b, j, none⟩ = false
theorem Num.made (w : World) (n : Nat) (e : TypeId) : Num (w.alloc (.cells (madeCells #[.int .i64 0] n) e)) w.heap.size n 0 := by
  intro j hj
  refine ⟨?_, by simp⟩
  rw [World.cell?_alloc_new, ← Array.getElem?_toList, toList_madeCells_one]
  simp [hj]
theorem Num.step {W : World} {b n k : Nat} (h : Num W b n k) (hk : k < n) : Num (W.setCell ⟨b, k, none⟩ (.int .i64 k)) b n (k + 1) := by
  intro j hj
  refine ⟨?_, by rw [World.frozen?_setCell]; exact (h j hj).2⟩
  by_cases e : j = k
  · subst e
    rw [World.cell?_setCell_same _ _ _ (h j hj).1, if_pos (by omega)]
  · rw [World.cell?_setCell_other _ _ _ _ (by intro e2; injection e2 with _ e3; exact e e3.symm), (h j hj).1]
    by_cases h2 : j < k
    · rw [if_pos h2, if_pos (by omega)]
    · rw [if_neg h2, if_neg (by omega)]
theorem places_at (n j : Nat) (h : j < n) : (places n).getD j 0 = (j : Int) := by
  unfold places
  simp [List.getD, h]
theorem Num.rd {W : World} {b n : Nat} (h : Num W b n n) (hn : n ≤ 5000) (hb : b < W.heap.size) : Rd W (some ⟨b, 0, none⟩) (places n) :=
  ⟨by rw [places_len]; omega, fun _ => ⟨b, 0, rfl, hb, fun j hj => by
    rw [places_len] at hj
    have t := (h j hj).1
    rw [if_pos hj] at t
    rw [Nat.zero_add, t]
    unfold fn
    rw [places_at _ _ hj]⟩⟩
theorem mem_places {n : Nat} {z : Int} (h : z ∈ places n) : ∃ k : Nat, k < n ∧ z = (k : Int) := by
  unfold places at h
  obtain ⟨k, hk, rfl⟩ := List.mem_map.1 h
  exact ⟨k, List.mem_range.1 hk, rfl⟩
set_option maxRecDepth 100000 in
set_option maxHeartbeats 1000000 in
theorem strataOf_c (a : Option Addr) (c : Nat) (l : List Un) (w : World) (hl : RdU w a l) (hf : Fine l) :
    Calls Tryd.prog 9 #[.slice a l.length c] w (GrpPostS l (places l.length) w) := by
  have hmk := fun w => mk_ints l.length hf.len w
  obtain ⟨W1, hW1⟩ : ∃ W1, w.alloc (.cells #[.slice a l.length c] 22) = W1 := ⟨_, rfl⟩
  have c1 : W1.cell? ⟨w.heap.size, 0, none⟩ = some (.slice a l.length c) := by rw [← hW1, World.cell?_alloc_at _ _ _ _ rfl]; rfl
  have B1 : Hid (Below w.heap.size w W1 ∧ W1.heap.size = w.heap.size + 1) := by unfold Hid; rw [← hW1]; exact ⟨bel_one _ _, by simp⟩
  have HL := Lib.hid hl
  have HF := Lib.hid hf
  have h5 := hf.len
  clear hl hf
  go_enter Tryd.func9, Tryd.ntmps9
  go_wp2_with fail
  clear hW1 hmk
  have N0 := Lib.hid (Num.made W1 l.length 3)
  have B2 : Hid (Below W1.heap.size W1 (W1.alloc (.cells (madeCells #[.int .i64 0] l.length) 3)) ∧ (W1.alloc (.cells (madeCells #[.int .i64 0] l.length) 3)).heap.size = W1.heap.size + 1) := ⟨bel_one _ _, by simp⟩
  generalize W1.alloc (.cells (madeCells #[.int .i64 0] l.length) 3) = W2 at N0 B2 ⊢
  have c2 : W2.cell? ⟨w.heap.size, 0, none⟩ = some (.slice a l.length c) := by rw [B2.out.1.cell (p := ⟨w.heap.size, 0, none⟩) (by have := B1.out.2; show w.heap.size < _; omega)]; exact c1
  have S0 : Hid (Num W2 W1.heap.size l.length 0 ∧ Below w.heap.size w W2 ∧ W2.cell? ⟨w.heap.size, 0, none⟩ = some (.slice a l.length c) ∧ W1.heap.size < W2.heap.size) := ⟨N0.out, B1.out.1.trans (B2.out.1.mono B1.out.1.size), c2, by have := B2.out.2; omega⟩
  have W1s : Hid (W1.heap.size = w.heap.size + 1) := B1.out.2
  clear c1 c2 N0 B1 B2
  generalize W1.heap.size = b at *
  go_loopw [10] (fun i wr => ∃ k : Nat, k ≤ l.length ∧ i = .int .i64 k ∧ Hid (Num wr b l.length k ∧ Below w.heap.size w wr ∧ wr.cell? ⟨w.heap.size, 0, none⟩ = some (.slice a l.length c) ∧ b < wr.heap.size)) (fun i _ => l.length - (intOf i).toNat)
  case atStart => exact ⟨0, Nat.zero_le _, rfl, S0.out⟩
  case round =>
    obtain ⟨k, hk, rfl, hS⟩ := hrel
    by_cases hlt : k < l.length
    · have hlt' : (k : Int) < (l.length : Int) := by omega
      obtain ⟨q1, q2⟩ := hS.out.1 k hlt
      have NX : Hid (Num (wr.setCell ⟨b, k, none⟩ (.int .i64 k)) b l.length (k + 1) ∧ Below w.heap.size w (wr.setCell ⟨b, k, none⟩ (.int .i64 k)) ∧ (wr.setCell ⟨b, k, none⟩ (.int .i64 k)).cell? ⟨w.heap.size, 0, none⟩ = some (.slice a l.length c) ∧ b < (wr.setCell ⟨b, k, none⟩ (.int .i64 k)).heap.size) := by
        have e := W1s.out
        refine ⟨hS.out.1.step hlt, hS.out.2.1.setCell (p := ⟨b, k, none⟩) (by show w.heap.size ≤ b; omega) _, ?_, by simpa using hS.out.2.2.2⟩
        rw [World.cell?_setCell_other _ _ _ _ (by intro e2; injection e2 with e3 _; omega)]
        exact hS.out.2.2.1
      go_wp2
      go_roundw
      case rel => exact ⟨k + 1, by omega, by go_num, NX.out⟩
      case measure => simp [intOf]; omega
    · obtain rfl : k = l.length := by omega
      have G := groupS_c w.heap.size a (some ⟨b, 0, none⟩) c l.length l (places l.length) wr (hS.out.1.rd h5 hS.out.2.2.2) (HL.out.below hS.out.2.1) hS.out.2.2.1 (by have := W1s.out; have := hS.out.2.2.2; omega) (fun z hz => mem_places hz) (by rw [places_len]; exact h5) HF.out.st
      rw [places_len] at G
      have HG := Lib.hid G
      clear G hlt
      go_wp2_with fail
      refine HG.out.mono ?_
      rintro e w' ⟨v, rfl, hG, hb⟩
      have R := Lib.hid (show GrpPostS l (places l.length) w (.returned v) w' from ⟨v, rfl, hG, hS.out.2.1.trans (hb.mono hS.out.2.1.size)⟩)
      clear hG hb
      go_wp2
      go_ret
      exact R.out
set_option maxHeartbeats 1000000 in
theorem clustersOf_c (a pa : Option Addr) (c pc : Nat) (l : List Un) (ps : List Int) (w : World) (hl : RdU w a l) (hp : Rd w pa ps) (hf : Fine l) (hin : ∀ z, z ∈ ps → ∃ k : Nat, k < l.length ∧ z = (k : Int)) (hn : ps.length ≤ 5000) :
    Calls Tryd.prog 10 #[.slice a l.length c, .slice pa ps.length pc] w (GrpPostI l ps w) := by
  obtain ⟨W1, hW1⟩ : ∃ W1, w.alloc (.cells #[.slice a l.length c] 22) = W1 := ⟨_, rfl⟩
  have c1 : W1.cell? ⟨w.heap.size, 0, none⟩ = some (.slice a l.length c) := by rw [← hW1, World.cell?_alloc_at _ _ _ _ rfl]; rfl
  have B1 : Hid (Below w.heap.size w W1 ∧ W1.heap.size = w.heap.size + 1) := by unfold Hid; rw [← hW1]; exact ⟨bel_one _ _, by simp⟩
  have G := Lib.hid (groupI_c w.heap.size a pa c pc l ps W1 (hp.below B1.out.1) (hl.below B1.out.1) c1 (by have := B1.out.2; omega) hin hn hf.cl)
  clear hl hp hf hin hn c1
  go_enter Tryd.func10, Tryd.ntmps10
  go_wp2_with fail
  clear hW1
  refine G.out.mono ?_
  rintro e w' ⟨v, rfl, hG, hb⟩
  have R := Lib.hid (show GrpPostI l ps w (.returned v) w' from ⟨v, rfl, hG, B1.out.1.trans (hb.mono B1.out.1.size)⟩)
  clear hG hb
  go_wp2
  go_ret
  exact R.out
/-- The sum of the sizes of the first k places. -/
def szs (l : List Un) (ps : List Int) (k : Nat) : Int := ((ps.take k).map fun z => (un l z.toNat).sz).sum
theorem szs_succ (l : List Un) (ps : List Int) (k : Nat) (h : k < ps.length) : szs l ps (k + 1) = szs l ps k + (un l (fn ps k).toNat).sz := by
  unfold szs fn
  have e : ps.take (k + 1) = ps.take k ++ [ps.getD k 0] := by
    rw [List.take_add_one, List.getElem?_eq_getElem h]
    simp [List.getD, List.getElem?_eq_getElem h]
  rw [e, List.map_append, List.sum_append]
  simp
theorem szs_bd {l : List Un} {ps : List Int} (hf : Fine l) (hin : ∀ z, z ∈ ps → ∃ k : Nat, k < l.length ∧ z = (k : Int)) : ∀ k, k ≤ ps.length → 0 ≤ szs l ps k ∧ szs l ps k ≤ k * 1000000
  | 0, _ => by simp [szs]
  | k + 1, h => by
    have t := szs_bd hf hin k (by omega)
    obtain ⟨z, hz, hzk⟩ := hin (fn ps k) (by unfold fn; rw [List.getD, List.getElem?_eq_getElem (show k < ps.length by omega)]; simp)
    have g := hf.sz (un l (fn ps k).toNat) (by rw [hzk]; unfold un; rw [Int.toNat_natCast, List.getD, List.getElem?_eq_getElem hz]; simp)
    rw [szs_succ l ps k (by omega)]
    omega
set_option maxHeartbeats 1000000 in
theorem sizeOf_c (a pa : Option Addr) (c pc : Nat) (l : List Un) (ps : List Int) (w : World) (hl : RdU w a l) (hp : Rd w pa ps) (hf : Fine l) (hin : ∀ z, z ∈ ps → ∃ k : Nat, k < l.length ∧ z = (k : Int)) (hn : ps.length ≤ 5000) :
    Calls Tryd.prog 11 #[.slice a l.length c, .slice pa ps.length pc] w fun e w' => e = .returned (.int .i64 (szs l ps ps.length)) ∧ w = w' := by
  have HL := Lib.hid hl
  have HP := Lib.hid hp
  have HB := Lib.hid (szs_bd hf hin)
  have HIN := Lib.hid hin
  have h9 := hl.1
  clear hl hp hf hin
  go_enter Tryd.func11, Tryd.ntmps11
  go_wp2
  go_loop [5, 10] (fun s i => ∃ k : Nat, k ≤ ps.length ∧ i = .int .i64 k ∧ s = .int .i64 (szs l ps k)) (fun _ i => ps.length - (intOf i).toNat)
  case atStart => exact ⟨0, Nat.zero_le _, rfl, rfl⟩
  case round =>
    obtain ⟨k, hk, rfl, rfl⟩ := hrel
    by_cases hlt : k < ps.length
    · obtain ⟨b, off, rfl, hc⟩ := HP.out.at_ hlt
      obtain ⟨z, hz, hzk⟩ := HIN.out (fn ps k) (by unfold fn; rw [List.getD, List.getElem?_eq_getElem hlt]; simp)
      have h1 := HB.out k hk
      have h2 := HB.out (k + 1) hlt
      have hN := Lib.hid (szs_succ l ps k hlt)
      rw [szs_succ l ps k hlt, hzk, Int.toNat_natCast] at h2
      rw [hzk] at hc
      obtain ⟨b2, off2, rfl, u0, u1, u2, u3⟩ := HL.out.at_ hz
      have hzk2 := Lib.hid hzk
      clear hzk
      generalize szs l ps k = s at h1 h2 hN
      have hlt' : (k : Int) < (ps.length : Int) := by omega
      have hz' : (z : Int) < (l.length : Int) := by omega
      generalize hsz : (un l z).sz = x at u3 h2
      have HX := Lib.hid hsz
      clear hsz
      go_wp2
      go_round
      case rel => exact ⟨k + 1, by omega, by go_num, by rw [hN.out, hzk2.out, Int.toNat_natCast, HX.out]⟩
      case measure => simp [intOf]; omega
    · obtain rfl : k = ps.length := by omega
      go_wp2
      go_ret
      exact ⟨rfl, rfl⟩
end Go.Proofs.YtkppfceogknlkaaDoor
