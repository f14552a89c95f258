/-
  within of package value: the place within a loop (slices.Concat and slices.Grow walked over rows of texts).
-/
import Derived.Test.YtngijlmokhkdjaaDoorTyPlace
import Derived.Lib.AppendZeros
import Derived.OwnWalk
import Derived.Laws.OwnMore
namespace Go.Proofs.YtngijlmokhkdjaaDoor
open Go.RowKit

theorem infoT : (Tryd.prog.info? 9).map (fun i => (i.zero, i.size, i.bytes)) = some (some (.string ByteArray.empty), 1, 16) := by kernel_rfl
theorem below_grown {w a w' : World} {v : Value} (h : Below w.heap.size w a) (hg : a.grownBy w' v.ownBlock) (hv : ∀ k, v.ownBlock = some k → w.heap.size ≤ k) : Below w.heap.size w w' := by
  refine ⟨hg.os.trans h.os, hg.tape.trans h.tape, hg.output.trans h.output, Nat.le_trans h.size hg.size, fun i hi => ?_⟩
  rw [hg.block i (Nat.lt_of_lt_of_le hi h.size) (by
    intro e
    have := hv i e.symm
    omega)]
  exact h.block i hi
def GrowP (w : World) (n : Nat) (e : Ending) (w' : World) : Prop :=
  ∃ cap cur, e = .returned (.slice (some ⟨w.heap.size, 0, none⟩) 0 cap) ∧ n ≤ cap ∧ cap ≤ 9223372036854775807 ∧ cur.size = cap ∧ w' = w.drew.alloc (.cells cur 9)
set_option maxHeartbeats 2000000 in
theorem grow_c (n : Nat) (h1 : 1 ≤ n) (h2 : n ≤ 4194304) (w : World) :
    Calls Tryd.prog 86 #[.slice none 0 0, .int .i64 n] w (GrowP w n) := by
  obtain ⟨i0, hi, hz0, hz1, hz2⟩ := info_parts infoT
  have hb : n * i0.bytes ≤ 281474976710656 := by rw [hz2]; omega
  have hrz : ∀ ty, (Builtin.append_ #[34, 3] ty #[.slice none 0 0, .int .i64 n]).run Tryd.prog w =
      .ok (.slice (some ⟨w.heap.size, 0, none⟩) n (grownCap w n 0 9)) (w.drew.alloc (.cells (Builtin.zeroCells (Value.string ByteArray.empty).cells n ++ Builtin.zeroCells (Value.string ByteArray.empty).cells (grownCap w n 0 9 - n)) 9)) := fun ty =>
    Lib.run_append_nil_zeros w 34 3 ty 9 i0 _ .i64 .i64 Tryd.underlying34 Tryd.underlying3 hi hz0 n h1 (by rw [hz1]; omega) (by omega) hb
  have hG1 := grownCap_ge w n 0 9
  have hG2 := grownCap_le_maxLen w n 0 9 (by unfold maxLen; omega)
  unfold maxLen at hG2
  generalize grownCap w n 0 9 = G at hrz hG1 hG2
  have hzc : ∀ k, (Builtin.zeroCells (Value.string ByteArray.empty).cells k).size = k := fun k => by
    have : (Value.string ByteArray.empty).cells.size = 1 := rfl
    simp [Builtin.zeroCells, this]
  generalize hcur : Builtin.zeroCells (Value.string ByteArray.empty).cells n ++ Builtin.zeroCells (Value.string ByteArray.empty).cells (G - n) = cur at hrz
  have hcs : cur.size = G := by rw [← hcur, Array.size_append, hzc, hzc]; omega
  have HCS := Lib.hid hcs
  clear hcs hcur hzc hi hz0 hz1 hz2 hb
  have g1 : ¬ ((n : Int) < 0) := by omega
  have g2 : (n : Int) > 0 := by omega
  go_enter Tryd.func86, Tryd.ntmps86
  go_wp2_with (at_builtin; refine Lib.wpList_append_run _ rfl _ _ _ _ rfl _ _ rfl rfl _ _ (hrz _) ?_)
  all_goals (go_ret; exact ⟨G, cur, rfl, hG1, hG2, HCS.out, rfl⟩)

theorem run_append_none {P : Program} (w : World) (t ty e : TypeId) (i : TypeInfo) (size : Nat) (ht : P.underlying t = some (.slice e)) (hi : P.info? e = some i) (_hz : i.size = size) (g n cap : Nat) (a : Option Addr) (m c : Nat) (hm : m = 0) (hnc : n ≤ cap) :
    (Builtin.append_ #[t, t] ty #[.slice (some ⟨g, 0, none⟩) n cap, .slice a m c]).run P w = .ok (.slice (some ⟨g, 0, none⟩) n cap) w := by
  subst hm
  cases a <;> simp [Builtin.append_, run_underlying ht, sizeOf, typeInfo, hi, Builtin.lenOf, Builtin.firstCells, hnc, storeCells, loadCells, loadCellsFrom]
/-- The row so far. -/
def catS (l : List ByteArray) (nm : ByteArray) (k : Nat) : List ByteArray := if k = 0 then [] else if k = 1 then l else l ++ [nm]
structure CatSt (w : World) (l : List ByteArray) (nm : ByteArray) (g cap k : Nat) (wr : World) : Prop where
  row : wr.ownsRow w.heap.size 9 1 (.slice (some ⟨g, 0, none⟩) (catS l nm k).length cap) (catS l nm k).length ((catS l nm k).map Value.string)
  bel : Below w.heap.size w wr
def CatP (w : World) (l : List ByteArray) (nm : ByteArray) (e : Ending) (w' : World) : Prop := ∃ v, e = .returned v ∧ IsN w' v (l ++ [nm]) ∧ Below w.heap.size w w'
theorem cat_len0 (l : List ByteArray) (nm : ByteArray) : (catS l nm 0).length = 0 := rfl
theorem cat_len1 (l : List ByteArray) (nm : ByteArray) : (catS l nm 1).length = l.length := rfl
theorem cat_len2 (l : List ByteArray) (nm : ByteArray) : (catS l nm 2).length = l.length + 1 := by simp [catS]
/-- A row that is owned reads as a list of texts. -/
theorem isN_row {w : World} {base g n cap : Nat} {l : List ByteArray} (h : w.ownsRow base 9 1 (.slice (some ⟨g, 0, none⟩) n cap) n (l.map Value.string)) (h0 : 0 < n) (hl : l.length = n) : IsN w (.slice (some ⟨g, 0, none⟩) n cap) l := by
  subst hl
  obtain ⟨_, hh⟩ := id h
  rcases hh with ⟨e, _⟩ | ⟨g', cap', cur, e, _, hg, hnc, hm, _⟩
  · cases e
  · simp only [Value.slice.injEq, Option.some.injEq, Addr.mk.injEq] at e
    obtain ⟨⟨rfl, _⟩, _, rfl⟩ := e
    unfold maxLen at hm
    refine .inr ⟨g, 0, cap, rfl, h0, ⟨hnc, by omega⟩, lt_of_block hg, fun j hj => ?_⟩
    rw [Nat.zero_add, h.cellAt j (by omega), List.getElem?_map, List.getElem?_eq_getElem hj, List.getD_eq_getElem?_getD, List.getElem?_eq_getElem hj]
    rfl
theorem lt_of_bel {w w' : World} {b o : Nat} {v : Value} (h : w.cell? ⟨b, o, none⟩ = some v) (hb : Below w.heap.size w w') : w'.cell? ⟨b, o, none⟩ = some v := by
  rw [hb.cell (p := ⟨b, o, none⟩) (block_lt h)]; exact h
set_option maxRecDepth 100000 in
set_option maxHeartbeats 4000000 in
theorem concat_c (w : World) (hb nb c1 : Nat) (v1 : Value) (l : List ByteArray) (nm : ByteArray) (h1 : IsN w v1 l) (hl : l.length ≤ 1048576)
    (k0 : w.cell? ⟨hb, 0, none⟩ = some v1) (k1 : w.cell? ⟨hb, 1, none⟩ = some (.slice (some ⟨nb, 0, none⟩) 1 c1)) (k2 : w.cell? ⟨nb, 0, none⟩ = some (.string nm)) :
    Calls Tryd.prog 69 #[.slice (some ⟨hb, 0, none⟩) 2 2] w (CatP w l nm) := by
  obtain ⟨i0, hi, hz0, hz1, hz2⟩ := info_parts infoT
  have H1 := Lib.hid h1
  obtain ⟨a1, q1, rfl⟩ := h1.form
  clear h1
  have HG := Lib.hid (fun w => grow_c (l.length + 1) (by omega) (by omega) w)
  go_enter Tryd.func69, Tryd.ntmps69
  go_wp2_with fail
  go_loop [3, 5, 11] (fun s _ i => ∃ k : Nat, k ≤ 2 ∧ i = .int .i64 k ∧ s = .int .i64 (catS l nm k).length) (fun _ _ i => 2 - (intOf i).toNat)
  case atStart => exact ⟨0, by omega, rfl, rfl⟩
  case round =>
    obtain ⟨k, hk, rfl, rfl⟩ := hrel
    have hk3 : k = 0 ∨ k = 1 ∨ k = 2 := by omega
    rcases hk3 with rfl | rfl | rfl
    · rw [cat_len0]
      go_wp2
      go_round
      case rel => exact ⟨1, by omega, rfl, by rw [cat_len1]⟩
      case measure => simp [intOf]
    · rw [cat_len1]
      have n1 : ¬ ((l.length : Int) + 1 < 0) := by omega
      go_wp2
      go_round
      case rel => exact ⟨2, by omega, rfl, by rw [cat_len2]; first | rfl | simp⟩
      case measure => simp [intOf]
    · rw [cat_len2]
      go_wp2_with fail
      refine (HG.out _).mono ?_
      rintro e w2 ⟨cap, cur, rfl, hc1, hc2, hcs, rfl⟩
      have S0 : Hid (CatSt w l nm w.heap.size cap 0 (w.drew.alloc (.cells cur 9))) :=
        ⟨World.ownsRow_made (w := w.drew) cur cap (Nat.le_refl _) (by unfold maxLen; omega) (by omega), (below_drewN (Below.refl _ _) 1).alloc (Nat.le_refl _) _⟩
      have HC1 := Lib.hid hc1
      clear hcs hc1
      go_wp2_with fail
      go_loopw [6, 8, 27] (fun s _ i wr => ∃ k : Nat, k ≤ 2 ∧ i = .int .i64 k ∧ s = .slice (some ⟨w.heap.size, 0, none⟩) (catS l nm k).length cap ∧ Hid (CatSt w l nm w.heap.size cap k wr)) (fun _ _ i _ => 2 - (intOf i).toNat)
      case atStart => exact ⟨0, by omega, rfl, rfl, S0.out⟩
      case round =>
        obtain ⟨k, hk, rfl, rfl, hS⟩ := hrel
        clear S0
        have j0 := lt_of_bel k0 hS.out.bel
        have j1 := lt_of_bel k1 hS.out.bel
        have J2 := Lib.hid (lt_of_bel k2 hS.out.bel)
        have J1 := Lib.hid (H1.out.below hS.out.bel)
        clear k0 k1 k2
        have hk3 : k = 0 ∨ k = 1 ∨ k = 2 := by omega
        rcases hk3 with rfl | rfl | rfl
        · rcases J1.out with ⟨a, c, e1, e2⟩ | ⟨b, off, cc, e1, h0, _, hbl, hcl⟩
          · have hl0 : l.length = 0 := by rw [e2]; rfl
            have hrun := fun ty => run_append_none (P := Tryd.prog) wr 34 ty 9 i0 1 Tryd.underlying34 hi hz1 w.heap.size 0 cap a1 l.length q1 hl0 (by omega)
            have S1 : Hid (CatSt w l nm w.heap.size cap 1 wr) := by
              have e3 : catS l nm 1 = catS l nm 0 := by rw [e2]; rfl
              exact ⟨by rw [e3]; exact hS.out.row, hS.out.bel⟩
            have HL0 := Lib.hid hl0
            clear hS e1 e2 J1 hl0
            go_wp2_with (at_builtin; refine Lib.wpList_append_run _ rfl _ _ _ _ rfl _ _ rfl rfl _ _ (hrun _) ?_)
            go_roundw
            case rel => exact ⟨1, by omega, rfl, by rw [cat_len1, HL0.out], S1.out⟩
            case measure => simp [intOf]
          · simp only [Value.slice.injEq] at e1
            obtain ⟨rfl, _, rfl⟩ := e1
            have hcl := Lib.hid hcl
            clear J1
            go_wp2_with (at_builtin; refine wpList_append_fits _ rfl _ _ 34 rfl w.heap.size 9 i0 1 Tryd.underlying34 hi hz1 w.heap.size _ cap _ rfl hS.out.row ⟨b, off, none⟩ l.length q1 (l.map Value.string) rfl (by simp) ?c2 ?c3 ?c4 ?_)
            case c2 =>
              intro j u hu
              have hj : j < l.length := by
                rcases Nat.lt_or_ge j l.length with h | h
                · exact h
                · rw [List.getElem?_eq_none (by simpa using h)] at hu; cases hu
              rw [Addr.add_lit, hcl.out j hj, List.getD_eq_getElem?_getD, List.getElem?_eq_getElem hj]
              rw [List.getElem?_map, List.getElem?_eq_getElem hj] at hu
              exact hu
            case c3 => intro u hu; obtain ⟨x, _, rfl⟩ := List.mem_map.1 hu; rfl
            case c4 => have := HC1.out; rw [cat_len0]; omega
            intro w3 hown hgrow
            have S1 : Hid (CatSt w l nm w.heap.size cap 1 w3) := ⟨by simpa [catS] using hown, below_grown (v := .slice (some ⟨w.heap.size, 0, none⟩) 0 cap) hS.out.bel hgrow (fun k hk => by simp [Value.ownBlock] at hk; omega)⟩
            clear hown hgrow hS
            go_wp2
            go_roundw
            case rel => exact ⟨1, by omega, rfl, by rw [cat_len1]; first | rfl | simp [catS], S1.out⟩
            case measure => simp [intOf]
        · have e2 : Hid ((catS l nm 1).length = l.length) := rfl
          go_wp2_with (at_builtin; refine wpList_append_fits_any _ rfl _ _ 34 rfl w.heap.size 9 i0 1 Tryd.underlying34 hi hz1 w.heap.size _ cap _ rfl hS.out.row (some ⟨nb, 0, none⟩) 1 c1 [.string nm] rfl (by simp) ?c1 ?c2 ?c3 ?c4 ?_)
          case c1 => intro e; cases e
          case c2 =>
            intro ad e j u hu
            cases e
            match j, hu with
            | 0, hu => simp at hu; subst hu; simpa [Addr.add] using J2.out
          case c3 => intro u hu; simp at hu; subst hu; rfl
          case c4 => have := HC1.out; rw [cat_len1]; omega
          intro w3 hown hgrow
          have S1 : Hid (CatSt w l nm w.heap.size cap 2 w3) := ⟨by simpa [catS] using hown, below_grown (v := .slice (some ⟨w.heap.size, 0, none⟩) 0 cap) hS.out.bel hgrow (fun k hk => by simp [Value.ownBlock] at hk; omega)⟩
          clear hown hgrow hS
          go_wp2
          go_roundw
          case rel => exact ⟨2, by omega, rfl, by rw [cat_len2, cat_len1], S1.out⟩
          case measure => simp [intOf]
        · go_wp2
          go_ret
          exact ⟨_, rfl, isN_row hS.out.row (by rw [cat_len2]; omega) rfl, hS.out.bel⟩

set_option maxRecDepth 100000 in
set_option maxHeartbeats 2000000 in
theorem within_c (w : World) (c : Ne) (lv : Value) (hi : IsN w lv c.lp) (hl : c.lp.length ≤ 1048576) :
    Calls Tryd.prog 46 #[.agg #[.string c.nm, lv]] w (CatP w c.lp c.nm) := by
  obtain ⟨nm, lp⟩ := c
  simp only at hi hl ⊢
  have HC := Lib.hid (fun (W : World) (hb nb c1 : Nat) (hB : Below w.heap.size w W) k0 k1 k2 => concat_c W hb nb c1 lv lp nm (hi.below hB) hl k0 k1 k2)
  obtain ⟨la, lc, rfl⟩ := hi.form
  clear hi
  go_enter Tryd.func46, Tryd.ntmps46
  go_wp2_with fail
  have hB := ((((Below.refl w.heap.size w).alloc (Nat.le_refl _) (.cells #[.string nm, .slice la lp.length lc] 60)).alloc (by simp) (.cells #[.string nm] 9)).alloc (by simp; omega) (.cells #[.slice la lp.length lc, .slice (some ⟨w.heap.size + 1, 0, none⟩) 1 1] 34))
  have HB := Lib.hid hB
  have e0 := HC.out _ (w.heap.size + 2) (w.heap.size + 1) 1 HB.out (by
    rw [World.cell?_alloc_at _ _ _ _ (by simp)]; rfl) (by
    rw [World.cell?_alloc_at _ _ _ _ (by simp)]; rfl) (by
    rw [World.cell?_alloc_past _ _ _ (by simp), World.cell?_alloc_at _ _ _ _ (by simp)]; rfl)
  refine e0.mono ?_
  clear e0
  rintro e w4 ⟨v, rfl, hN, hB4⟩
  have HN := Lib.hid hN
  have HB4 := Lib.hid (HB.out.trans (hB4.mono HB.out.size))
  clear hN hB4 hB
  go_wp2
  go_ret
  exact ⟨v, rfl, HN.out, HB4.out⟩
end Go.Proofs.YtngijlmokhkdjaaDoor
