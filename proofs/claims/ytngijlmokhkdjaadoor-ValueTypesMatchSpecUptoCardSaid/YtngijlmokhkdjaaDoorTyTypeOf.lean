/-
  sightOf, typeOf and TypeOf of package value.
  TypeOf of package value.
-/
import Derived.Test.YtngijlmokhkdjaaDoorTySight
import Derived.Test.YtngijlmokhkdjaaDoorTyTree
import Derived.Test.YtngijlmokhkdjaaDoorExCPart
namespace Go.Proofs.YtngijlmokhkdjaaDoor
open Go.RowKit
open Go.ChangeMaps Go.MapKept

/-- All names of cells and loops are texts of a bounded length. -/
def FineC (C : List Cl) : Prop := ∀ c ∈ C, c.nm.size ≤ 9223372036854775807 ∧ (∀ s ∈ c.lp, s.size ≤ 9223372036854775807) ∧ c.lp.length ≤ 1048575
def FineL (L : List Ne) : Prop := ∀ c ∈ L, c.nm.size ≤ 9223372036854775807 ∧ (∀ s ∈ c.lp, s.size ≤ 9223372036854775807) ∧ c.lp.length ≤ 1048575
theorem loops_once : ∀ (L seen : List Ne), OnceL seen → loopsS seen L = 0 → OnceL (seen ++ L)
  | [], seen, h, _ => by simpa using h
  | c :: r, seen, h, h0 => by
    rw [loopsS_step] at h0
    by_cases hs : stepL seen c ≠ 0
    · rw [if_pos hs] at h0; exact absurd h0 hs
    · rw [if_neg hs] at h0
      have := loops_once r (seen ++ [c]) (h.more (stepL_none (by simpa using hs))) h0
      simpa using this
theorem cells_kinds : ∀ (C seen : List Cl), cellsS seen C = 0 → ∀ c ∈ C, 2 ≤ c.kind ∧ c.kind ≤ 7
  | [], _, _, c, hc => by simp at hc
  | x :: r, seen, h0, c, hc => by
    rw [cellsS_step] at h0
    by_cases hs : stepC seen x ≠ 0
    · rw [if_pos hs] at h0; exact absurd h0 hs
    · rw [if_neg hs] at h0
      rcases List.mem_cons.1 hc with rfl | hc
      · have hs' : stepC seen c = 0 := by simpa using hs
        unfold stepC at hs'
        by_cases h1 : nameS c.nm = false
        · rw [if_pos h1] at hs'; cases hs'
        rw [if_neg h1] at hs'
        by_cases h2 : (findC seen c.nm).isSome = true
        · rw [if_pos h2] at hs'; cases hs'
        rw [if_neg h2] at hs'
        by_cases h3 : c.kind < 2 ∨ 7 < c.kind
        · rw [if_pos h3] at hs'; cases hs'
        · omega
      · exact cells_kinds r _ h0 c hc
theorem sight_ok {C : List Cl} {L : List Ne} (h : sightS C L = 0) : cellsS [] C = 0 ∧ loopsS [] L = 0 ∧ atS L C = 0 := by
  unfold sightS at h
  by_cases h1 : cellsS [] C ≠ 0
  · rw [if_pos h1] at h; exact absurd h h1
  rw [if_neg h1] at h
  by_cases h2 : loopsS [] L ≠ 0
  · rw [if_pos h2] at h; exact absurd h h2
  rw [if_neg h2] at h
  exact ⟨by simpa using h1, by simpa using h2, h⟩
theorem cell_grown {w w' : World} {row b o : Nat} (hg : w.grownBy w' (some row)) (hb : b < w.heap.size) (hne : b ≠ row) : w'.cell? ⟨b, o, none⟩ = w.cell? ⟨b, o, none⟩ :=
  World.cell?_of_block (hg.block b hb (by intro e; injection e with e; exact hne e))
theorem frozen_grown {w w' : World} {row b o : Nat} (hg : w.grownBy w' (some row)) (hb : b < w.heap.size) (hne : b ≠ row) : w'.frozen? ⟨b, o, none⟩ = w.frozen? ⟨b, o, none⟩ :=
  World.frozen?_of_block (hg.block b hb (by intro e; injection e with e; exact hne e))

/-- While a sight is made: the result's cells in block B, the maps in B + 1 and B + 2, the sight in B + 3. -/
structure SSt (w : World) (C : List Cl) (L : List Ne) (W : World) : Prop where
  r0 : W.cell? ⟨w.heap.size, 0, none⟩ = some (.map none)
  r1 : W.cell? ⟨w.heap.size, 1, none⟩ = some (.map none)
  f0 : W.frozen? ⟨w.heap.size, 0, none⟩ = false
  f1 : W.frozen? ⟨w.heap.size, 1, none⟩ = false
  s0 : W.cell? ⟨w.heap.size + 3, 0, none⟩ = some (.map (some (w.heap.size + 1)))
  s1 : W.cell? ⟨w.heap.size + 3, 1, none⟩ = some (.map (some (w.heap.size + 2)))
  mc : SeesC w W (w.heap.size + 1) C
  ml : SeesL w W (w.heap.size + 2) L
  bel : Below w.heap.size w W
  sz : w.heap.size + 4 ≤ W.heap.size
theorem SSt.alloc {w W : World} {C : List Cl} {L : List Ne} (h : SSt w C L W) (o : Obj) : SSt w C L (W.alloc o) := by
  have hb := (Below.refl W.heap.size W).alloc (Nat.le_refl _) o
  have hz := h.sz
  have cc := fun (b z : Nat) (hl : b < W.heap.size) => hb.cell (p := ⟨b, z, none⟩) hl
  have ff := fun (b z : Nat) (hl : b < W.heap.size) => hb.frozen (p := ⟨b, z, none⟩) hl
  refine ⟨?_, ?_, ?_, ?_, ?_, ?_, h.mc.below hb (by omega), h.ml.below hb (by omega), h.bel.trans (hb.mono (by omega)), Nat.le_trans hz hb.size⟩
  · rw [cc _ _ (by omega)]; exact h.r0
  · rw [cc _ _ (by omega)]; exact h.r1
  · rw [ff _ _ (by omega)]; exact h.f0
  · rw [ff _ _ (by omega)]; exact h.f1
  · rw [cc _ _ (by omega)]; exact h.s0
  · rw [cc _ _ (by omega)]; exact h.s1
theorem SSt.keep {w W W' : World} {C : List Cl} {L : List Ne} (h : SSt w C L W) (hb : Below W.heap.size W W') : SSt w C L W' := by
  have hz := h.sz
  have cc := fun (b z : Nat) (hl : b < W.heap.size) => hb.cell (p := ⟨b, z, none⟩) hl
  have ff := fun (b z : Nat) (hl : b < W.heap.size) => hb.frozen (p := ⟨b, z, none⟩) hl
  refine ⟨?_, ?_, ?_, ?_, ?_, ?_, h.mc.below hb (by omega), h.ml.below hb (by omega), h.bel.trans (hb.mono (by omega)), Nat.le_trans hz hb.size⟩
  · rw [cc _ _ (by omega)]; exact h.r0
  · rw [cc _ _ (by omega)]; exact h.r1
  · rw [ff _ _ (by omega)]; exact h.f0
  · rw [ff _ _ (by omega)]; exact h.f1
  · rw [cc _ _ (by omega)]; exact h.s0
  · rw [cc _ _ (by omega)]; exact h.s1
theorem SSt.cell {w W W' : World} {C C' : List Cl} {L : List Ne} (h : SSt w C L W) (hg : W.grownBy W' (some (w.heap.size + 1))) (hC : SeesC w W' (w.heap.size + 1) C') : SSt w C' L W' := by
  have hz := h.sz
  have cc := fun (b z : Nat) (hl : b < W.heap.size) (hne : b ≠ w.heap.size + 1) => cell_grown (o := z) hg hl hne
  have ff := fun (b z : Nat) (hl : b < W.heap.size) (hne : b ≠ w.heap.size + 1) => frozen_grown (o := z) hg hl hne
  refine ⟨?_, ?_, ?_, ?_, ?_, ?_, hC, h.ml.kept hg (by intro e; injection e with e; omega), ?_, Nat.le_trans hz hg.size⟩
  · rw [cc _ _ (by omega) (by omega)]; exact h.r0
  · rw [cc _ _ (by omega) (by omega)]; exact h.r1
  · rw [ff _ _ (by omega) (by omega)]; exact h.f0
  · rw [ff _ _ (by omega) (by omega)]; exact h.f1
  · rw [cc _ _ (by omega) (by omega)]; exact h.s0
  · rw [cc _ _ (by omega) (by omega)]; exact h.s1
  · exact h.bel.trans ⟨hg.os, hg.tape, hg.output, hg.size, fun i hi => hg.block i (by omega) (by intro e; injection e with e; omega)⟩
theorem SSt.loop {w W W' : World} {C : List Cl} {L L' : List Ne} (h : SSt w C L W) (hg : W.grownBy W' (some (w.heap.size + 2))) (hL : SeesL w W' (w.heap.size + 2) L') : SSt w C L' W' := by
  have hz := h.sz
  have cc := fun (b z : Nat) (hl : b < W.heap.size) (hne : b ≠ w.heap.size + 2) => cell_grown (o := z) hg hl hne
  have ff := fun (b z : Nat) (hl : b < W.heap.size) (hne : b ≠ w.heap.size + 2) => frozen_grown (o := z) hg hl hne
  refine ⟨?_, ?_, ?_, ?_, ?_, ?_, h.mc.kept hg (by intro e; injection e with e; omega), hL, ?_, Nat.le_trans hz hg.size⟩
  · rw [cc _ _ (by omega) (by omega)]; exact h.r0
  · rw [cc _ _ (by omega) (by omega)]; exact h.r1
  · rw [ff _ _ (by omega) (by omega)]; exact h.f0
  · rw [ff _ _ (by omega) (by omega)]; exact h.f1
  · rw [cc _ _ (by omega) (by omega)]; exact h.s0
  · rw [cc _ _ (by omega) (by omega)]; exact h.s1
  · exact h.bel.trans ⟨hg.os, hg.tape, hg.output, hg.size, fun i hi => hg.block i (by omega) (by intro e; injection e with e; omega)⟩
/-- What remains when a step's call has said no. -/
structure SFail (w : World) (W : World) : Prop where
  r0 : W.cell? ⟨w.heap.size, 0, none⟩ = some (.map none)
  r1 : W.cell? ⟨w.heap.size, 1, none⟩ = some (.map none)
  f0 : W.frozen? ⟨w.heap.size, 0, none⟩ = false
  f1 : W.frozen? ⟨w.heap.size, 1, none⟩ = false
  bel : Below w.heap.size w W
theorem SSt.fail {w W W' : World} {C : List Cl} {L : List Ne} {row : Nat} (h : SSt w C L W) (hg : W.grownBy W' (some row)) (hr : w.heap.size < row) : SFail w W' := by
  have hz := h.sz
  refine ⟨?_, ?_, ?_, ?_, h.bel.trans ⟨hg.os, hg.tape, hg.output, hg.size, fun i hi => hg.block i (by omega) (by intro e; injection e with e; omega)⟩⟩
  · rw [cell_grown hg (by omega) (by omega)]; exact h.r0
  · rw [cell_grown hg (by omega) (by omega)]; exact h.r1
  · rw [frozen_grown hg (by omega) (by omega)]; exact h.f0
  · rw [frozen_grown hg (by omega) (by omega)]; exact h.f1
theorem SSt.start (w : World) : SSt w [] [] ((((w.alloc (.cells #[.map none, .map none] 44)).alloc (.map #[] 0)).alloc (.map #[] 0)).alloc (.cells #[.map (some (w.heap.size + 1)), .map (some (w.heap.size + 2))] 44)) := by
  obtain ⟨W1, hW1⟩ : ∃ W1, W1 = w.alloc (.cells #[.map none, .map none] 44) := ⟨_, rfl⟩
  have z1 : W1.heap.size = w.heap.size + 1 := by rw [hW1]; simp
  have b1 : Below w.heap.size w W1 := by rw [hW1]; exact (Below.refl _ _).alloc (Nat.le_refl _) _
  have h1 := MapIs.made W1
  have r0 : ∀ i, i < 2 → W1.cell? ⟨w.heap.size, i, none⟩ = some (.map none) := fun i hi => by
    rw [hW1, World.cell?_alloc_at _ _ _ _ rfl]
    match i, hi with
    | 0, _ => rfl
    | 1, _ => rfl
  have f0 : ∀ i, W1.frozen? ⟨w.heap.size, i, none⟩ = false := fun i => by rw [hW1, World.frozen?_alloc_at _ _ _ _ rfl]
  rw [← hW1]
  clear hW1
  obtain ⟨W2, hW2⟩ : ∃ W2, W2 = W1.alloc (.map #[] 0) := ⟨_, rfl⟩
  have z2 : W2.heap.size = w.heap.size + 2 := by rw [hW2]; simp; omega
  have b2 : Below W1.heap.size W1 W2 := by rw [hW2]; exact (Below.refl _ _).alloc (Nat.le_refl _) _
  have h2 := MapIs.made W2
  rw [← hW2] at h1 ⊢
  clear hW2
  obtain ⟨W3, hW3⟩ : ∃ W3, W3 = W2.alloc (.map #[] 0) := ⟨_, rfl⟩
  have z3 : W3.heap.size = w.heap.size + 3 := by rw [hW3]; simp; omega
  have b3 : Below W2.heap.size W2 W3 := by rw [hW3]; exact (Below.refl _ _).alloc (Nat.le_refl _) _
  rw [← hW3] at h2 ⊢
  clear hW3
  have b4 := (Below.refl W3.heap.size W3).alloc (Nat.le_refl _) (.cells #[.map (some (w.heap.size + 1)), .map (some (w.heap.size + 2))] 44)
  have b14 : Below W1.heap.size W1 (W3.alloc (.cells #[.map (some (w.heap.size + 1)), .map (some (w.heap.size + 2))] 44)) := b2.trans ((b3.trans (b4.mono (by omega))).mono (by omega))
  have b24 : Below W2.heap.size W2 (W3.alloc (.cells #[.map (some (w.heap.size + 1)), .map (some (w.heap.size + 2))] 44)) := b3.trans (b4.mono (by omega))
  rw [z1] at h1
  rw [z2] at h2
  refine ⟨?_, ?_, ?_, ?_, ?_, ?_, ?_, ?_, b1.trans (b14.mono (by omega)), by simp; omega⟩
  · rw [b14.cell (p := ⟨w.heap.size, 0, none⟩) (by show w.heap.size < _; omega)]; exact r0 0 (by omega)
  · rw [b14.cell (p := ⟨w.heap.size, 1, none⟩) (by show w.heap.size < _; omega)]; exact r0 1 (by omega)
  · rw [b14.frozen (p := ⟨w.heap.size, 0, none⟩) (by show w.heap.size < _; omega)]; exact f0 0
  · rw [b14.frozen (p := ⟨w.heap.size, 1, none⟩) (by show w.heap.size < _; omega)]; exact f0 1
  · rw [World.cell?_alloc_at _ _ _ _ (by omega)]; rfl
  · rw [World.cell?_alloc_at _ _ _ _ (by omega)]; rfl
  · exact ⟨0, fun _ => none, Nat.le_refl _, h1.below b24 (by omega), fun nm => ⟨fun _ => rfl, fun c hc => by simp [findC] at hc⟩⟩
  · exact ⟨0, fun _ => none, Nat.le_refl _, h2.below b4 (by omega), fun nm => ⟨fun _ => rfl, fun c hc => by simp [findL] at hc⟩⟩

theorem set_both {w : World} {b : Nat} {x y : Value} (u v : Value) (r0 : w.cell? ⟨b, 0, none⟩ = some x) (r1 : w.cell? ⟨b, 1, none⟩ = some y) :
    ((w.setCell ⟨b, 0, none⟩ u).setCell ⟨b, 1, none⟩ v).cell? ⟨b, 0, none⟩ = some u ∧ ((w.setCell ⟨b, 0, none⟩ u).setCell ⟨b, 1, none⟩ v).cell? ⟨b, 1, none⟩ = some v := by
  refine ⟨?_, ?_⟩
  · rw [World.cell?_setCell_other _ _ _ _ (by intro q; injection q with _ q2; omega)]
    exact World.cell?_setCell_same' _ _ _ (by rw [r0]; rfl)
  · exact World.cell?_setCell_same' _ _ _ (by rw [World.cell?_setCell_other _ _ _ _ (by intro q; injection q with _ q2; omega), r1]; rfl)
theorem grown_set (w : World) (b o : Nat) (u : Value) : w.grownBy (w.setCell ⟨b, o, none⟩ u) (some b) :=
  ⟨rfl, rfl, rfl, by simp, fun k _ hne => Below.heap_setCell w ⟨b, o, none⟩ u k (by intro e; exact hne (by rw [e]))⟩
theorem set_twice {w : World} {b : Nat} (r0 : w.cell? ⟨b, 0, none⟩ = some (.map none)) (r1 : w.cell? ⟨b, 1, none⟩ = some (.map none)) :
    ((w.setCell ⟨b, 0, none⟩ (.map none)).setCell ⟨b, 1, none⟩ (.map none)).cell? ⟨b, 0, none⟩ = some (.map none) ∧ ((w.setCell ⟨b, 0, none⟩ (.map none)).setCell ⟨b, 1, none⟩ (.map none)).cell? ⟨b, 1, none⟩ = some (.map none) := by
  refine ⟨?_, ?_⟩
  · rw [World.cell?_setCell_other _ _ _ _ (by intro q; injection q with _ q2; omega)]
    exact World.cell?_setCell_same' _ _ _ (by rw [r0]; rfl)
  · exact World.cell?_setCell_same' _ _ _ (by rw [World.cell?_setCell_other _ _ _ _ (by intro q; injection q with _ q2; omega), r1]; rfl)
/-- What sightOf gives. -/
def SightP (w : World) (C : List Cl) (L : List Ne) (e : Ending) (w' : World) : Prop :=
  ∃ m1 m2 : Option Nat, e = .returned (.tuple #[.agg #[.map m1, .map m2], .int .i64 (sightS C L)]) ∧ Below w.heap.size w w' ∧ (sightS C L = 0 → ∃ b1 b2, m1 = some b1 ∧ m2 = some b2 ∧ SeesC w w' b1 C ∧ SeesL w w' b2 L)
set_option maxRecDepth 100000 in
set_option maxHeartbeats 8000000 in
theorem sightOf_c (w : World) (vC vL : Value) (C : List Cl) (L : List Ne) (hC : IsC w vC C) (hL : IsM w vL L) (hFC : FineC C) (hFL : FineL L) (hnC : C.length ≤ 1048576) (hnL : L.length ≤ 1048576) :
    Calls Tryd.prog 9 #[vC, vL] w (SightP w C L) := by
  obtain ⟨aC, cC, rfl, hC⟩ := hC
  obtain ⟨aL, cL, rfl, hL⟩ := hL
  have HC := Lib.hid hC
  have HL := Lib.hid hL
  have HFC := Lib.hid hFC
  have HFL := Lib.hid hFL
  clear hC hL hFC hFL
  have hmm := @run_makeMap Tryd.prog
  have S0 := Lib.hid (SSt.start w)
  have HA0 : Hid (cellsS [] C = cellsS (C.take 0) (C.drop 0)) := rfl
  go_enter Tryd.func9, Tryd.ntmps9
  go_wp2_with fail
  clear hmm
  go_loopw [8, 9, 20] (fun _ _ i wr => ∃ k : Nat, k ≤ C.length ∧ i = .int .i64 k ∧ Hid (SSt w (C.take k) [] wr) ∧ Hid (cellsS [] C = cellsS (C.take k) (C.drop k))) (fun _ _ i _ => C.length - (intOf i).toNat)
  case atStart => exact ⟨0, Nat.zero_le _, rfl, S0.out, HA0.out⟩
  case round =>
    obtain ⟨k, hk, rfl, hS, hA⟩ := hrel
    clear S0 HA0
    by_cases hlt : k < C.length
    · have hkk : (k : Int) < (C.length : Int) := by omega
      obtain ⟨b, off, rfl, hbl, hCs⟩ : ∃ b off, aC = some ⟨b, off, none⟩ ∧ b < w.heap.size ∧ IsCs w b C off := by
        rcases HC.out with h | ⟨b, off, h1, h2, _, h3⟩
        · omega
        · exact ⟨b, off, h1, h2, h3⟩
      obtain ⟨c, hc⟩ : ∃ c, C[k]? = some c := ⟨C[k], List.getElem?_eq_getElem hlt⟩
      obtain ⟨lv, g0, g1, g2, hi⟩ := hCs.at hc
      obtain ⟨la, lc, rfl⟩ := hi.form
      have hmem : c ∈ C := List.mem_of_getElem? hc
      have cc := fun (z : Nat) => hS.out.bel.cell (p := ⟨b, z, none⟩) hbl
      have k0 := (cc _).trans g0
      have k1 := (cc _).trans g1
      have k2 := (cc _).trans g2
      have m0 : wr.cell? ⟨w.heap.size + 1 + 1 + 1, 0, none⟩ = some (.map (some (w.heap.size + 1))) := hS.out.s0
      have m1 : wr.cell? ⟨w.heap.size + 1 + 1 + 1, 1, none⟩ = some (.map (some (w.heap.size + 1 + 1))) := hS.out.s1
      have hz : w.heap.size + 1 + 1 + 1 < wr.heap.size := by have := hS.out.sz; omega
      have hS1 := Lib.hid (hS.out.alloc (.cells #[.string c.nm, .int .i64 c.kind, .slice la c.lp.length lc] 57))
      have hAdd := Lib.hid (addCell_c w _ (w.heap.size + 1) (w.heap.size + 1 + 1) (C.take k) c _ hS1.out.mc hi (HFC.out c hmem).1 (by rw [List.length_take]; omega))
      have hE : Hid (cellsS [] C = if stepC (C.take k) c ≠ 0 then stepC (C.take k) c else cellsS (C.take (k + 1)) (C.drop (k + 1))) := by
        unfold Hid; rw [hA.out, cellsS_drop hc rfl]
      have hT : Hid (C.take k ++ [c] = C.take (k + 1)) := by unfold Hid; rw [List.take_add_one, hc]; rfl
      clear g0 g1 g2 cc hc hCs hi hA hmem
      obtain ⟨q, hq⟩ : ∃ q, q = stepC (C.take k) c := ⟨_, rfl⟩
      rw [← hq] at hAdd hE
      clear hq
      by_cases hq0 : q = 0
      · subst hq0
        have hE2 : Hid (cellsS [] C = cellsS (C.take (k + 1)) (C.drop (k + 1))) := by exact hE.out.trans (if_neg (fun h => h rfl))
        clear hE
        go_wp2_with fail
        refine hAdd.out.mono ?_
        rintro e w4 ⟨rfl, hs4, hg4⟩
        have hS4 := Lib.hid (hS1.out.cell hg4 (by have := hs4 (by first | rfl | trivial); rw [hT.out] at this; exact this))
        clear hs4 hg4 hS1 hAdd hS m0 m1 k0 k1 k2 hz
        go_wp2
        go_roundw
        case rel => exact ⟨k + 1, by omega, by go_num, hS4.out, hE2.out⟩
        case measure => simp [intOf]; omega
      · have q1 : (q != 0) = true := by simpa using hq0
        have eF : Hid (sightS C L = q) := by unfold Hid sightS; rw [hE.out, if_pos hq0, if_pos hq0]
        have hq2 := Lib.hid hq0
        clear hE hq0
        go_wp2_with fail
        refine hAdd.out.mono ?_
        rintro e w4 ⟨rfl, hs4, hg4⟩
        have hF4 := hS1.out.fail hg4 (by omega)
        obtain ⟨r0, r1, f0, f1, bl⟩ := hF4
        have BL := Lib.hid bl
        clear hs4 hg4 hS1 hAdd hS m0 m1 k0 k1 k2 hz bl
        go_wp2
        have e0 := set_twice r0 r1
        have HB5 := Lib.hid ((BL.out.setCell (p := ⟨w.heap.size, 0, none⟩) (Nat.le_refl _) (.map none)).setCell (p := ⟨w.heap.size, 1, none⟩) (Nat.le_refl _) (.map none))
        obtain ⟨e1, e2⟩ := e0
        generalize (w4.setCell ⟨w.heap.size, 0, none⟩ (.map none)).setCell ⟨w.heap.size, 1, none⟩ (.map none) = W5 at e1 e2 HB5 ⊢
        refine bodyPost_ret (v := .tuple #[.agg #[.map none, .map none], .int .i64 q]) (by simp [results, Tryd.results9, go_sem, e1, e2]) rfl ?_
        exact ⟨_, _, by rw [eF.out], HB5.out, fun h => absurd (eF.out.symm.trans h) hq2.out⟩
    · obtain rfl : k = C.length := by omega
      have hA1 : Hid (cellsS [] C = 0) := by unfold Hid; rw [hA.out, List.drop_length]; rfl
      have hS1 : Hid (SSt w C (L.take 0) wr) := by have := hS.out; rw [List.take_length] at this; exact this
      have hO0 : Hid (OnceL (L.take 0)) := OnceL.nil
      have hB0 : Hid (loopsS [] L = loopsS (L.take 0) (L.drop 0)) := rfl
      clear hS hA
      go_wp2_with fail
      go_loopw [11, 12, 34] (fun _ _ i wr => ∃ k : Nat, k ≤ L.length ∧ i = .int .i64 k ∧ Hid (SSt w C (L.take k) wr) ∧ Hid (OnceL (L.take k)) ∧ Hid (loopsS [] L = loopsS (L.take k) (L.drop k))) (fun _ _ i _ => L.length - (intOf i).toNat)
      case atStart => exact ⟨0, Nat.zero_le _, rfl, hS1.out, hO0.out, hB0.out⟩
      case round =>
        obtain ⟨k, hk, rfl, hS, hO, hA⟩ := hrel
        clear hS1 hO0 hB0
        by_cases hlt : k < L.length
        · have hkk : (k : Int) < (L.length : Int) := by omega
          obtain ⟨b, off, rfl, hbl, hCs⟩ : ∃ b off, aL = some ⟨b, off, none⟩ ∧ b < w.heap.size ∧ IsNs w b L off := by
            rcases HL.out with h | ⟨b, off, h1, h2, _, h3⟩
            · omega
            · exact ⟨b, off, h1, h2, h3⟩
          obtain ⟨c, hc⟩ : ∃ c, L[k]? = some c := ⟨L[k], List.getElem?_eq_getElem hlt⟩
          obtain ⟨lv, g0, g1, hi⟩ := hCs.at hc
          have hmem : c ∈ L := List.mem_of_getElem? hc
          have cc := fun (z : Nat) => hS.out.bel.cell (p := ⟨b, z, none⟩) hbl
          obtain ⟨la, lc, rfl⟩ := hi.form
          have k0 := (cc _).trans g0
          have k1 := (cc _).trans g1
          have m0 : wr.cell? ⟨w.heap.size + 1 + 1 + 1, 0, none⟩ = some (.map (some (w.heap.size + 1))) := hS.out.s0
          have m1 : wr.cell? ⟨w.heap.size + 1 + 1 + 1, 1, none⟩ = some (.map (some (w.heap.size + 1 + 1))) := hS.out.s1
          have hz : w.heap.size + 1 + 1 + 1 < wr.heap.size := by have := hS.out.sz; omega
          have hS1 := Lib.hid (hS.out.alloc (.cells #[.string c.nm, .slice la c.lp.length lc] 60))
          have hAdd := Lib.hid (addLoop_c w _ (w.heap.size + 1) (w.heap.size + 1 + 1) (L.take k) c _ hS1.out.bel hS1.out.ml hO.out hi (HFL.out c hmem).1 (HFL.out c hmem).2.1 (by rw [List.length_take]; omega))
          have hE : Hid (loopsS [] L = if stepL (L.take k) c ≠ 0 then stepL (L.take k) c else loopsS (L.take (k + 1)) (L.drop (k + 1))) := by
            unfold Hid; rw [hA.out, loopsS_drop hc rfl]
          have hT : Hid (L.take k ++ [c] = L.take (k + 1)) := by unfold Hid; rw [List.take_add_one, hc]; rfl
          have hON : Hid (stepL (L.take k) c = 0 → OnceL (L.take (k + 1))) := fun h0 => by rw [← hT.out]; exact hO.out.more (stepL_none h0)
          clear g0 g1 cc hc hCs hi hA hmem hO
          obtain ⟨q, hq⟩ : ∃ q, q = stepL (L.take k) c := ⟨_, rfl⟩
          rw [← hq] at hAdd hE hON
          clear hq
          by_cases hq0 : q = 0
          · subst hq0
            have hE2 : Hid (loopsS [] L = loopsS (L.take (k + 1)) (L.drop (k + 1))) := by exact hE.out.trans (if_neg (fun h => h rfl))
            have hO2 := Lib.hid (hON.out rfl)
            clear hE hON
            go_wp2_with fail
            refine hAdd.out.mono ?_
            rintro e w4 ⟨rfl, hs4, hg4⟩
            have hS4 := Lib.hid (hS1.out.loop hg4 (by have := hs4 (by first | rfl | trivial); rw [hT.out] at this; exact this))
            clear hs4 hg4 hS1 hAdd hS m0 m1 k0 k1 hz
            go_wp2
            go_roundw
            case rel => exact ⟨k + 1, by omega, by go_num, hS4.out, hO2.out, hE2.out⟩
            case measure => simp [intOf]; omega
          · have q1 : (q != 0) = true := by simpa using hq0
            have eF : Hid (sightS C L = q) := by unfold Hid sightS; rw [hA1.out, hE.out, if_neg (fun h => h rfl), if_pos hq0, if_pos hq0]
            have hq2 := Lib.hid hq0
            clear hE hq0 hON
            go_wp2_with fail
            refine hAdd.out.mono ?_
            rintro e w4 ⟨rfl, hs4, hg4⟩
            have hF4 := hS1.out.fail hg4 (by omega)
            obtain ⟨r0, r1, f0, f1, bl⟩ := hF4
            have BL := Lib.hid bl
            clear hs4 hg4 hS1 hAdd hS m0 m1 k0 k1 hz bl
            go_wp2
            have e0 := set_twice r0 r1
            have HB5 := Lib.hid ((BL.out.setCell (p := ⟨w.heap.size, 0, none⟩) (Nat.le_refl _) (.map none)).setCell (p := ⟨w.heap.size, 1, none⟩) (Nat.le_refl _) (.map none))
            obtain ⟨e1, e2⟩ := e0
            generalize (w4.setCell ⟨w.heap.size, 0, none⟩ (.map none)).setCell ⟨w.heap.size, 1, none⟩ (.map none) = W5 at e1 e2 HB5 ⊢
            refine bodyPost_ret (v := .tuple #[.agg #[.map none, .map none], .int .i64 q]) (by simp [results, Tryd.results9, go_sem, e1, e2]) rfl ?_
            exact ⟨_, _, by rw [eF.out], HB5.out, fun h => absurd (eF.out.symm.trans h) hq2.out⟩
        · obtain rfl : k = L.length := by omega
          have hB1 : Hid (loopsS [] L = 0) := by unfold Hid; rw [hA.out, List.drop_length]; rfl
          have hS1 : Hid (SSt w C L wr) := by have := hS.out; rw [List.take_length] at this; exact this
          have hO1 : Hid (OnceL L) := by have := hO.out; rw [List.take_length] at this; exact this
          have hB0 : Hid (sightS C L = atS L (C.drop 0)) := by unfold Hid sightS; rw [hA1.out, hB1.out, if_neg (fun h => h rfl), if_neg (fun h => h rfl)]; rfl
          clear hS hA hO hA1 hB1
          go_wp2_with fail
          go_loopw [14, 48] (fun _ i wr => ∃ k : Nat, k ≤ C.length ∧ i = .int .i64 k ∧ Hid (SSt w C L wr) ∧ Hid (sightS C L = atS L (C.drop k))) (fun _ i _ => C.length - (intOf i).toNat)
          case atStart => exact ⟨0, Nat.zero_le _, rfl, hS1.out, hB0.out⟩
          case round =>
            obtain ⟨k, hk, rfl, hS, hA⟩ := hrel
            clear hS1 hB0
            by_cases hlt : k < C.length
            · have hkk : (k : Int) < (C.length : Int) := by omega
              obtain ⟨b, off, rfl, hbl, hCs⟩ : ∃ b off, aC = some ⟨b, off, none⟩ ∧ b < w.heap.size ∧ IsCs w b C off := by
                rcases HC.out with h | ⟨b, off, h1, h2, _, h3⟩
                · omega
                · exact ⟨b, off, h1, h2, h3⟩
              obtain ⟨c, hc⟩ : ∃ c, C[k]? = some c := ⟨C[k], List.getElem?_eq_getElem hlt⟩
              obtain ⟨lv, g0, g1, g2, hi⟩ := hCs.at hc
              have hmem : c ∈ C := List.mem_of_getElem? hc
              have cc := fun (z : Nat) => hS.out.bel.cell (p := ⟨b, z, none⟩) hbl
              obtain ⟨la, lc, rfl⟩ := hi.form
              have k0 := (cc _).trans g0
              have k1 := (cc _).trans g1
              have k2 := (cc _).trans g2
              have m0 : wr.cell? ⟨w.heap.size + 1 + 1 + 1, 0, none⟩ = some (.map (some (w.heap.size + 1))) := hS.out.s0
              have m1 : wr.cell? ⟨w.heap.size + 1 + 1 + 1, 1, none⟩ = some (.map (some (w.heap.size + 1 + 1))) := hS.out.s1
              have hz : w.heap.size + 1 + 1 + 1 < wr.heap.size := by have := hS.out.sz; omega
              have hS1 := Lib.hid (hS.out.alloc (.cells #[.string c.nm, .int .i64 c.kind, .slice la c.lp.length lc] 57))
              have hPl := Lib.hid (isPlace_c w _ (w.heap.size + 1) (w.heap.size + 1 + 1) L _ c.lp hS1.out.bel hS1.out.ml hO1.out (hi.below hS1.out.bel) (HFC.out c hmem).2.1)
              have hE : Hid (sightS C L = if placeS L c.lp = false then 9 else atS L (C.drop (k + 1))) := by
                unfold Hid; rw [hA.out, atS_drop hc]
              clear g0 g1 g2 cc hc hCs hi hA hmem
              obtain ⟨q, hq⟩ : ∃ q, q = placeS L c.lp := ⟨_, rfl⟩
              rw [← hq] at hPl hE
              clear hq
              cases q with
              | true =>
                have hE2 : Hid (sightS C L = atS L (C.drop (k + 1))) := by exact hE.out.trans (if_neg (by decide))
                clear hE
                go_wp2_with fail
                refine hPl.out.mono ?_
                rintro e w4 ⟨rfl, hB⟩
                have hS4 := Lib.hid (hS1.out.keep hB)
                clear hB hS1 hPl hS m0 m1 k0 k1 k2 hz
                go_wp2
                go_roundw
                case rel => exact ⟨k + 1, by omega, by go_num, hS4.out, hE2.out⟩
                case measure => simp [intOf]; omega
              | false =>
                have eF : Hid (sightS C L = 9) := hE.out.trans (if_pos rfl)
                clear hE
                go_wp2_with fail
                refine hPl.out.mono ?_
                rintro e w4 ⟨rfl, hB⟩
                obtain ⟨r0, r1, f0, f1, _, _, _, _, bl, _⟩ := hS1.out.keep hB
                have BL := Lib.hid bl
                clear hB hS1 hPl hS m0 m1 k0 k1 k2 hz bl
                go_wp2
                have e0 := set_twice r0 r1
                have HB5 := Lib.hid ((BL.out.setCell (p := ⟨w.heap.size, 0, none⟩) (Nat.le_refl _) (.map none)).setCell (p := ⟨w.heap.size, 1, none⟩) (Nat.le_refl _) (.map none))
                obtain ⟨e1, e2⟩ := e0
                generalize (w4.setCell ⟨w.heap.size, 0, none⟩ (.map none)).setCell ⟨w.heap.size, 1, none⟩ (.map none) = W5 at e1 e2 HB5 ⊢
                refine bodyPost_ret (v := .tuple #[.agg #[.map none, .map none], .int .i64 9]) (by simp [results, Tryd.results9, go_sem, e1, e2]) rfl ?_
                exact ⟨_, _, by rw [eF.out], HB5.out, fun h => absurd (eF.out.symm.trans h) (by decide)⟩
            · obtain rfl : k = C.length := by omega
              have eF : Hid (sightS C L = 0) := by unfold Hid; rw [hA.out, List.drop_length]; rfl
              have hS9 := Lib.hid hS.out
              obtain ⟨r0, r1, f0, f1, s0, s1, _, _, bl, sz⟩ := hS.out
              have m0 : wr.cell? ⟨w.heap.size + 1 + 1 + 1, 0, none⟩ = some (.map (some (w.heap.size + 1))) := s0
              have m1 : wr.cell? ⟨w.heap.size + 1 + 1 + 1, 1, none⟩ = some (.map (some (w.heap.size + 1 + 1))) := s1
              clear hS hA s0 s1 bl sz
              go_wp2
              have e0 := set_both (.map (some (w.heap.size + 1))) (.map (some (w.heap.size + 1 + 1))) r0 r1
              have hgg := (grown_set wr w.heap.size 0 (.map (some (w.heap.size + 1)))).trans (grown_set _ w.heap.size 1 (.map (some (w.heap.size + 1 + 1))))
              have HB5 := Lib.hid ((hS9.out.bel.setCell (p := ⟨w.heap.size, 0, none⟩) (Nat.le_refl _) (.map (some (w.heap.size + 1)))).setCell (p := ⟨w.heap.size, 1, none⟩) (Nat.le_refl _) (.map (some (w.heap.size + 1 + 1))))
              have HC5 := Lib.hid (hS9.out.mc.kept hgg (by intro e; injection e with e; omega))
              have HL5 := Lib.hid (hS9.out.ml.kept hgg (by intro e; injection e with e; omega))
              obtain ⟨e1, e2⟩ := e0
              clear hgg
              generalize (wr.setCell ⟨w.heap.size, 0, none⟩ (.map (some (w.heap.size + 1)))).setCell ⟨w.heap.size, 1, none⟩ (.map (some (w.heap.size + 1 + 1))) = W5 at e1 e2 HB5 HC5 HL5 ⊢
              refine bodyPost_ret (v := .tuple #[.agg #[.map (some (w.heap.size + 1)), .map (some (w.heap.size + 1 + 1))], .int .i64 0]) (by simp [results, Tryd.results9, go_sem, e1, e2]) rfl ?_
              exact ⟨_, _, by rw [eF.out], HB5.out, fun _ => ⟨_, _, rfl, rfl, HC5.out, HL5.out⟩⟩

/-- kindOf of an expression that CheckExpr accepts. -/
theorem kindOf_c (C : List Cl) (L : List Ne) (b1 b2 : Nat) (w0 : World) (hC : ∀ c ∈ C, 2 ≤ c.kind ∧ c.kind ≤ 7) (hLL : ∀ l ∈ L, l.lp.length ≤ 1048575) :
    ∀ h a, oneS h a = 0 → a.parts ≤ 1000 → KindC C L b1 b2 w0 h a :=
  forest_ind (fun h a => oneS h a = 0 → a.parts ≤ 1000 → KindC C L b1 b2 w0 h a) (fun h a ih h1 hp => by
    obtain ⟨g1, g2⟩ := one_part h1
    have hk := part_ok g1
    have ih' : ∀ k h' a', a.drop k = .cons h' a' (a.drop (k + 1)) → KindC C L b1 b2 w0 h' a' := fun k h' a' hd => ih k h' a' hd (all_at g2 hd) (by have := Fo.parts_sub hd; omega)
    have hlen : a.len ≤ 1000 := by have := a.len_le_parts; omega
    have hkk := hk.kinds
    obtain ⟨k, o, nm, vk, vn, vs, vl⟩ := h
    simp only at hkk
    rcases hkk with rfl | rfl | rfl | rfl | rfl
    · exact kind_const C L b1 b2 w0 o nm vk vn vs vl a hk
    · exact kind_answer C L b1 b2 w0 o nm vk vn vs vl a hk
    · exact kind_row C L b1 b2 w0 o nm vk vn vs vl a hk
    · exact kind_op C L b1 b2 w0 o nm vk vn vs vl a hk g2 hC hlen ih'
    · exact kind_over C L b1 b2 w0 o nm vk vn vs vl a hk g2 hC hlen hLL ih')
theorem expr_one {h : Hd} {a : Fo} (h0 : exprS h a = 0) : oneS h a = 0 ∧ a.parts ≤ 300 := by
  unfold exprS at h0
  by_cases hp : 300 < a.parts + 1 ∨ 20 < a.levels + 1
  · rw [if_pos hp] at h0; cases h0
  · rw [if_neg hp] at h0; exact ⟨h0, by omega⟩

/-- What TypeOf of a sight says of an expression at a place. -/
def atPlaceS (C : List Cl) (L : List Ne) (h : Hd) (a : Fo) (pl : List ByteArray) : Int × Int := if placeS L pl = false then (0, 9) else kindS C L h a pl
set_option maxRecDepth 100000 in
set_option maxHeartbeats 4000000 in
theorem typeOfS_c (w0 w : World) (b1 b2 : Nat) (C : List Cl) (L : List Ne) (h : Hd) (a : Fo) (v pv : Value) (pl : List ByteArray) (h0 : exprS h a = 0) (hC : ∀ c ∈ C, 2 ≤ c.kind ∧ c.kind ≤ 7) (hFL : FineL L) (hO : OnceL L)
    (hb : Below w0.heap.size w0 w) (hx : IsX w h a v) (hN : IsN w pv pl) (hSC : SeesC w0 w b1 C) (hSL : SeesL w0 w b2 L) (hpl : pl.length ≤ 1048576) (hs : ∀ s ∈ pl, s.size ≤ 9223372036854775807) :
    Calls Tryd.prog 10 #[.agg #[.map (some b1), .map (some b2)], v, pv] w fun e w' => e = .returned (.tuple #[.int .i64 (atPlaceS C L h a pl).1, .int .i64 (atPlaceS C L h a pl).2]) ∧ Below w.heap.size w w' := by
  obtain ⟨g1, g2⟩ := expr_one h0
  have HK := Lib.hid (fun W (hW : Below w.heap.size w W) => kindOf_c C L b1 b2 w0 hC (fun l hl => (hFL l hl).2.2) h a g1 (by omega) v pv pl W (hb.trans (hW.mono hb.size)) (hx.below hW) (hN.below hW) (hSC.below hW hSC.lt) (hSL.below hW hSL.lt) hpl)
  have HP := Lib.hid (fun W (hW : Below w.heap.size w W) => isPlace_c w0 W b1 b2 L pv pl (hb.trans (hW.mono hb.size)) (hSL.below hW hSL.lt) hO (hN.below hW) hs)
  have eA : Hid (atPlaceS C L h a pl = if placeS L pl = false then (0, 9) else kindS C L h a pl) := rfl
  obtain ⟨sv, xa, n, c, rfl, hL, rfl, _⟩ := hx
  obtain ⟨p, m, q, rfl⟩ := hL.form
  obtain ⟨pa, pc, rfl⟩ := hN.form
  clear hL hN hSC hSL hb hC hFL hO hpl hs h0 g1 g2
  obtain ⟨t, ht⟩ : ∃ t, t = placeS L pl := ⟨_, rfl⟩
  rw [← ht] at HP eA
  clear ht
  generalize atPlaceS C L h a pl = R at eA ⊢
  generalize kindS C L h a pl = K at eA HK
  have BB := ((Below.refl w.heap.size w).alloc (Nat.le_refl _) (.cells #[.map (some b1), .map (some b2)] 44)).alloc (by simp) (.cells #[.int .i64 h.k, .int .i64 h.o, .string h.nm, .int .i64 h.vk, .int .i64 h.vn, .string h.vs, .slice p m q, .slice xa a.len c] 27)
  have HBB := Lib.hid BB
  clear BB
  cases t with
  | false =>
    go_enter Tryd.func10, Tryd.ntmps10
    go_wp2_with fail
    refine (HP.out _ HBB.out).mono ?_
    rintro e w4 ⟨rfl, hB⟩
    have HB := Lib.hid (HBB.out.trans (hB.mono HBB.out.size))
    clear hB
    go_wp2
    go_ret2
    exact ⟨by rw [eA.out]; rfl, HB.out⟩
  | true =>
    go_enter Tryd.func10, Tryd.ntmps10
    go_wp2_with fail
    refine (HP.out _ HBB.out).mono ?_
    rintro e w4 ⟨rfl, hB⟩
    have HB := Lib.hid (HBB.out.trans (hB.mono HBB.out.size))
    have W4 := Lib.hid ((BoxW.start w b1 b2 [.int .i64 h.k, .int .i64 h.o, .string h.nm, .int .i64 h.vk, .int .i64 h.vn, .string h.vs, .slice p m q, .slice xa a.len c]).keep hB)
    have m0 := W4.out.s0
    have m1 := W4.out.s1
    have y0 := W4.out.e 0 (by omega)
    have y1 := W4.out.e 1 (by omega)
    have y2 := W4.out.e 2 (by omega)
    have y3 := W4.out.e 3 (by omega)
    have y4 := W4.out.e 4 (by omega)
    have y5 := W4.out.e 5 (by omega)
    have y6 := W4.out.e 6 (by omega)
    have y7 := W4.out.e 7 (by omega)
    simp only [List.getElem?_cons_zero, List.getElem?_cons_succ] at y0 y1 y2 y3 y4 y5 y6 y7
    clear hB W4
    go_wp2_with fail
    refine (HK.out _ HB.out).mono ?_
    rintro e w5 ⟨rfl, hB⟩
    have HB5 := Lib.hid (HB.out.trans (hB.mono HB.out.size))
    clear hB m0 m1 y0 y1 y2 y3 y4 y5 y6 y7
    go_wp2
    go_ret2
    exact ⟨by rw [eA.out]; rfl, HB5.out⟩
end Go.Proofs.YtngijlmokhkdjaaDoor

namespace Go.Proofs.YtngijlmokhkdjaaDoor
open Go.RowKit

theorem typeS_ok {C : List Cl} {L : List Ne} {h : Hd} {a : Fo} {pl : List ByteArray} (h1 : exprS h a = 0) (h2 : sightS C L = 0) : typeS C L h a pl = atPlaceS C L h a pl := by
  unfold typeS atPlaceS
  rw [if_neg (by simpa using h1), if_neg (by simpa using h2)]
set_option maxRecDepth 100000 in
set_option maxHeartbeats 4000000 in
theorem typeOf_c (w0 w : World) (vC vL : Value) (C : List Cl) (L : List Ne) (h : Hd) (a : Fo) (v pv : Value) (pl : List ByteArray) (hb : Below w0.heap.size w0 w)
    (hx : IsX w0 h a v) (hN : IsN w0 pv pl) (hC : IsC w0 vC C) (hL : IsM w0 vL L) (hFC : FineC C) (hFL : FineL L) (hnC : C.length ≤ 1048576) (hnL : L.length ≤ 1048576)
    (hp : a.parts ≤ 1048576) (hz : h.vs.size ≤ 9223372036854775807) (hf : a.fine) (hpl : pl.length ≤ 1048576) (hs : ∀ s ∈ pl, s.size ≤ 9223372036854775807) :
    Calls Tryd.prog 4 #[v, vC, vL, pv] w fun e w' => e = .returned (.tuple #[.int .i64 (typeS C L h a pl).1, .int .i64 (typeS C L h a pl).2]) ∧ Below w0.heap.size w0 w' := by
  have HE := Lib.hid (fun W (hW : Below w0.heap.size w0 W) => checkExpr_c W h a v W hp hz hf (hx.below hW) (Below.refl _ _))
  have HS := Lib.hid (fun W (hW : Below w0.heap.size w0 W) => sightOf_c W vC vL C L (hC.below hW) (hL.below hW) hFC hFL hnC hnL)
  have HT := Lib.hid (fun (h0 : exprS h a = 0) (hs0 : sightS C L = 0) b1 b2 W1 W (hW1 : Below w0.heap.size w0 W1) (hW : Below W1.heap.size W1 W) hSC hSL => typeOfS_c W1 W b1 b2 C L h a v pv pl h0 (cells_kinds C [] (sight_ok hs0).1) hFL (by have := loops_once L [] OnceL.nil (sight_ok hs0).2.1; simpa using this) hW (hx.below (hW1.trans (hW.mono hW1.size))) (hN.below (hW1.trans (hW.mono hW1.size))) hSC hSL hpl hs)
  obtain ⟨sv, xa, n, c, rfl, hLv, rfl, _⟩ := hx
  obtain ⟨p, m, q, rfl⟩ := hLv.form
  obtain ⟨pa, pc, rfl⟩ := hN.form
  obtain ⟨aC, cC, rfl, _⟩ := hC
  obtain ⟨aL, cL, rfl, _⟩ := hL
  clear hLv hN hFC hFL hpl hs hp hz hf
  have BB := hb.alloc hb.size (.cells #[.int .i64 h.k, .int .i64 h.o, .string h.nm, .int .i64 h.vk, .int .i64 h.vn, .string h.vs, .slice p m q, .slice xa a.len c] 27)
  have HBB := Lib.hid BB
  have hwz := hb.size
  clear BB hb
  obtain ⟨E, hE⟩ : ∃ E, E = exprS h a := ⟨_, rfl⟩
  have HEE := Lib.hid hE
  rw [← hE] at HE
  clear hE
  by_cases h0 : E = 0
  · subst h0
    obtain ⟨S, hS⟩ : ∃ S, S = sightS C L := ⟨_, rfl⟩
    have HSE := Lib.hid hS
    clear hS
    by_cases hs0 : S = 0
    · subst hs0
      have eT := Lib.hid (typeS_ok (pl := pl) HEE.out.symm HSE.out.symm)
      go_enter Tryd.func4, Tryd.ntmps4
      go_wp2_with fail
      refine (HE.out _ HBB.out).mono ?_
      rintro e w4 ⟨rfl, hB⟩
      have HB4 := Lib.hid (HBB.out.trans (hB.mono HBB.out.size))
      have hz4 := hB.size
      have yy : ∀ i, i < 8 → w4.cell? ⟨w.heap.size, i, none⟩ = (#[.int .i64 h.k, .int .i64 h.o, .string h.nm, .int .i64 h.vk, .int .i64 h.vn, .string h.vs, .slice p m q, .slice xa a.len c] : Array Value)[i]? := fun i hi => by
        rw [hB.cell (p := ⟨w.heap.size, i, none⟩) (by simp), World.cell?_alloc_at _ _ _ _ rfl]
      have HYY := Lib.hid yy
      have hz5 : w.heap.size < w4.heap.size := by simp at hz4; omega
      clear hB yy hz4
      go_wp2_with fail
      refine (HS.out _ HB4.out).mono ?_
      rintro e w5 ⟨n1, n2, rfl, hB, hok⟩
      rw [← HSE.out] at hok ⊢
      obtain ⟨b1, b2, rfl, rfl, hSC, hSL⟩ := hok rfl
      have HB5 := Lib.hid (HB4.out.trans (hB.mono HB4.out.size))
      have HB45 := Lib.hid hB
      have ww : ∀ i, i < 8 → w5.cell? ⟨w.heap.size, i, none⟩ = (#[.int .i64 h.k, .int .i64 h.o, .string h.nm, .int .i64 h.vk, .int .i64 h.vn, .string h.vs, .slice p m q, .slice xa a.len c] : Array Value)[i]? := fun i hi => by
        rw [hB.cell (p := ⟨w.heap.size, i, none⟩) hz5]; exact HYY.out i hi
      have hz6 : w.heap.size < w5.heap.size := Nat.lt_of_lt_of_le hz5 hB.size
      have y0 := ww 0 (by omega)
      have y1 := ww 1 (by omega)
      have y2 := ww 2 (by omega)
      have y3 := ww 3 (by omega)
      have y4 := ww 4 (by omega)
      have y5 := ww 5 (by omega)
      have y6 := ww 6 (by omega)
      have y7 := ww 7 (by omega)
      simp only [List.getElem?_toArray, List.getElem?_cons_zero, List.getElem?_cons_succ] at y0 y1 y2 y3 y4 y5 y6 y7
      have HSC := Lib.hid hSC
      have HSL := Lib.hid hSL
      clear hSC hSL ww hB hok
      have B6 := Lib.hid ((Below.refl w5.heap.size w5).alloc (Nat.le_refl _) (.cells #[.map (some b1), .map (some b2)] 44))
      go_wp2_with fail
      refine (HT.out HEE.out.symm HSE.out.symm b1 b2 w4 _ HB4.out (HB45.out.trans (B6.out.mono HB45.out.size)) (HSC.out.below B6.out HSC.out.lt) (HSL.out.below B6.out HSL.out.lt)).mono ?_
      rintro e w7 ⟨rfl, hB⟩
      have hB6z := B6.out.size
      have HB7 := Lib.hid (HB5.out.trans ((B6.out.trans (hB.mono hB6z)).mono HB5.out.size))
      clear hB y0 y1 y2 y3 y4 y5 y6 y7
      go_wp2
      go_ret2
      exact ⟨by rw [eT.out]; rfl, HB7.out⟩
    · have eT : Hid (typeS C L h a pl = (0, S)) := by
        unfold Hid typeS
        rw [← HEE.out, ← HSE.out, if_neg (fun h => h rfl), if_pos hs0]
      have q1 : (S != 0) = true := by simpa using hs0
      have HS0 := Lib.hid hs0
      clear hs0
      go_enter Tryd.func4, Tryd.ntmps4
      go_wp2_with fail
      refine (HE.out _ HBB.out).mono ?_
      rintro e w4 ⟨rfl, hB⟩
      have HB4 := Lib.hid (HBB.out.trans (hB.mono HBB.out.size))
      clear hB
      go_wp2_with fail
      refine (HS.out _ HB4.out).mono ?_
      rintro e w5 ⟨n1, n2, rfl, hB, hok⟩
      rw [← HSE.out]
      have HB5 := Lib.hid (HB4.out.trans ((hB.alloc hB.size (.cells #[.map n1, .map n2] 44)).mono HB4.out.size))
      clear hB hok
      go_wp2
      go_ret2
      exact ⟨by rw [eT.out]; rfl, HB5.out⟩
  · have eT : Hid (typeS C L h a pl = (0, E)) := by
      unfold Hid typeS
      rw [← HEE.out, if_pos h0]
    have q1 : (E != 0) = true := by simpa using h0
    clear h0
    go_enter Tryd.func4, Tryd.ntmps4
    go_wp2_with fail
    refine (HE.out _ HBB.out).mono ?_
    rintro e w4 ⟨rfl, hB⟩
    have HB := Lib.hid (HBB.out.trans (hB.mono HBB.out.size))
    clear hB
    go_wp2
    go_ret2
    exact ⟨by rw [eT.out]; rfl, HB.out⟩
end Go.Proofs.YtngijlmokhkdjaaDoor
