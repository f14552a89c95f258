/-
  A sight of package value gets a cell or a loop more.
-/
import Derived.Test.YtngijlmokhkdjaaDoorTyPlace
import Derived.Test.YtngijlmokhkdjaaDoorExName
import Derived.Maps.Own
namespace Go.Proofs.YtngijlmokhkdjaaDoor
open Go.RowKit
open Go.ChangeMaps Go.MapKept

/-- What is said of one cell behind those that were seen. -/
def stepC (C : List Cl) (c : Cl) : Int := if nameS c.nm = false then 5 else if (findC C c.nm).isSome = true then 6 else if c.kind < 2 ∨ 7 < c.kind then 4 else 0

set_option maxRecDepth 100000 in
set_option maxHeartbeats 2000000 in
theorem addCell_c (w0 w : World) (b1 b2 : Nat) (C : List Cl) (c : Cl) (lv : Value) (hC : SeesC w0 w b1 C) (hi : IsN w0 lv c.lp) (hs : c.nm.size ≤ 9223372036854775807) (hn : C.length ≤ 1048576) :
    Calls Tryd.prog 20 #[.agg #[.map (some b1), .map (some b2)], .agg #[.string c.nm, .int .i64 c.kind, lv]] w fun e w' => e = .returned (.int .i64 (stepC C c)) ∧ (stepC C c = 0 → SeesC w0 w' b1 (C ++ [c])) ∧ w.grownBy w' (some b1) := by
  obtain ⟨la, lc, rfl⟩ := hi.form
  obtain ⟨nm, kind, lp⟩ := c
  simp only at hi hs ⊢
  have g1 : ∀ o1 o2, w.grownBy (((w.alloc o1).alloc o2)) (some b1) := fun o1 o2 => (World.grownBy_alloc w o1 _).trans (World.grownBy_alloc _ o2 _)
  by_cases h1 : nameS nm = false
  · have e0 : Hid (stepC C ⟨nm, kind, lp⟩ = 5) := by unfold Hid stepC; rw [if_pos h1]
    have HN := Lib.hid (fun w => by have := isName_c nm w; rw [h1] at this; exact this)
    clear h1
    go_enter Tryd.func20, Tryd.ntmps20
    go_wp2_with fail
    refine (HN.out _).mono ?_
    rintro e w4 ⟨rfl, rfl⟩
    go_wp2
    go_ret
    exact ⟨by rw [e0.out]; rfl, fun h => (by rw [e0.out] at h; cases h), g1 _ _⟩
  · have h1' : nameS nm = true := by simpa using h1
    have HN := Lib.hid (fun w => by have := isName_c nm w; rw [h1'] at this; exact this)
    have B2 : ∀ o1 o2, Below w.heap.size w ((w.alloc o1).alloc o2) := fun o1 o2 => ((Below.refl w.heap.size w).alloc (Nat.le_refl _) o1).alloc (by simp) o2
    rcases hC.look nm hs with ⟨hf, hrun⟩ | ⟨x, lvx, hf, hix, hrun⟩
    · have r1 := hrun ((w.alloc (.cells #[.map (some b1), .map (some b2)] 44)).alloc (.cells #[.string nm, .int .i64 kind, .slice la lp.length lc] 57)) (B2 _ _)
      by_cases hk : kind < 2 ∨ 7 < kind
      · have e0 : Hid (stepC C ⟨nm, kind, lp⟩ = 4) := by unfold Hid stepC; rw [if_neg (by simpa using h1), if_neg (by simp [hf]), if_pos hk]
        clear h1 h1' hf hrun hC hi
        rcases hk with hk | hk
        · go_enter Tryd.func20, Tryd.ntmps20
          go_wp2_with fail
          refine (HN.out _).mono ?_
          rintro e w4 ⟨rfl, rfl⟩
          go_wp2
          go_ret
          exact ⟨by rw [e0.out]; rfl, fun h => (by rw [e0.out] at h; cases h), (g1 _ _).trans (World.grownBy_alloc _ _ _)⟩
        · have hk2 : ¬ kind < 2 := by omega
          go_enter Tryd.func20, Tryd.ntmps20
          go_wp2_with fail
          refine (HN.out _).mono ?_
          rintro e w4 ⟨rfl, rfl⟩
          go_wp2
          go_ret
          exact ⟨by rw [e0.out]; rfl, fun h => (by rw [e0.out] at h; cases h), (g1 _ _).trans (World.grownBy_alloc _ _ _)⟩
      · have e0 : Hid (stepC C ⟨nm, kind, lp⟩ = 0) := by unfold Hid stepC; rw [if_neg (by simpa using h1), if_neg (by simp [hf]), if_neg hk]
        have k1 : ¬ kind < 2 := fun h => hk (.inl h)
        have k2 : ¬ 7 < kind := fun h => hk (.inr h)
        obtain ⟨n, f, hnl, ⟨D, hown, hD⟩, hff⟩ := hC
        have HD := Lib.hid (fun w' (hw : Below w.heap.size w w') => (show w'.ownsMap Tryd.prog 9 asIs b1 n D from by
          obtain ⟨es, clock, q1, q2⟩ := hown
          exact ⟨es, clock, (hw.block b1 (World.ownsMap.lt ⟨es, clock, q1, q2⟩)).trans q1, q2⟩))
        have HF := Lib.hid (fun w' h1 => SeesC.more (w0 := w0) (w' := w') (b := b1) (n := n) (f := f) (C := C) ⟨nm, kind, lp⟩ (.slice la lp.length lc) hnl h1 hf hff hi)
        have HP := Lib.hid (hD.put nm (.agg #[.string nm, .int .i64 kind, .slice la lp.length lc]))
        have HK := Lib.hid (Go.WideMaps.keyOf_string_mk (s := nm) Tryd.underlying9 (by unfold maxLen; exact hs))
        have B3 : ∀ o1 o2 o3, Below w.heap.size w (((w.alloc o1).alloc o2).alloc o3) := fun o1 o2 o3 => (B2 o1 o2).alloc (by simp; omega) o3
        have hnm : n < maxLen := by unfold maxLen; omega
        clear h1 h1' hf hrun hi hk hown hD hff
        go_enter Tryd.func20, Tryd.ntmps20
        go_wp2_with fail
        refine (HN.out _).mono ?_
        rintro e w4 ⟨rfl, rfl⟩
        go_wp2_with (first | (at_mapUpdate; refine wpList_mapUpdate_own _ rfl _ _ _ 41 rfl 9 57 (Maps.string_keyed Tryd.underlying9) Tryd.underlying41 asIs b1 n D rfl (HD.out _ (by first | exact B3 _ _ _ | exact below_drewN (B3 _ _ _) 1)) hnm _ _ _ rfl rfl HK.out _ _ rfl ?_) | fail)
        intro w1 hown1 hg
        have HS := Lib.hid (HF.out w1 ⟨_, hown1, HP.out⟩)
        have HG := Lib.hid (((g1 _ _).trans (World.grownBy_alloc _ _ _)).trans hg)
        clear hown1 hg HF HP HD
        go_wp2
        go_ret
        exact ⟨by rw [e0.out]; rfl, fun _ => HS.out, HG.out⟩
    · obtain ⟨xa, xc, rfl⟩ := hix.form
      clear hix
      have r1 := hrun ((w.alloc (.cells #[.map (some b1), .map (some b2)] 44)).alloc (.cells #[.string nm, .int .i64 kind, .slice la lp.length lc] 57)) (B2 _ _)
      have e0 : Hid (stepC C ⟨nm, kind, lp⟩ = 6) := by unfold Hid stepC; rw [if_neg (by simpa using h1), if_pos (by simp [hf])]
      clear h1 h1' hf hrun hC hi
      go_enter Tryd.func20, Tryd.ntmps20
      go_wp2_with fail
      refine (HN.out _).mono ?_
      rintro e w4 ⟨rfl, rfl⟩
      go_wp2
      go_ret
      exact ⟨by rw [e0.out]; rfl, fun h => (by rw [e0.out] at h; cases h), by first | exact g1 _ _ | exact (g1 _ _).trans (World.grownBy_alloc _ _ _)⟩

/-- What is said of one loop behind those that were seen. -/
def stepL (L : List Ne) (l : Ne) : Int := if nameS l.nm = false then 5 else if (findL L l.nm).isSome = true then 6 else if placeS L l.lp = false then 7 else 0
theorem grown_of_below {w w' : World} (h : Below w.heap.size w w') (row : Option Nat) : w.grownBy w' row := ⟨h.os, h.tape, h.output, h.size, fun i hi _ => h.block i hi⟩

set_option maxRecDepth 100000 in
set_option maxHeartbeats 2000000 in
theorem addLoop_c (w0 w : World) (b1 b2 : Nat) (L : List Ne) (l : Ne) (lv : Value) (hb0 : Below w0.heap.size w0 w) (hL : SeesL w0 w b2 L) (hO : OnceL L) (hi : IsN w0 lv l.lp) (hs : l.nm.size ≤ 9223372036854775807) (hss : ∀ s ∈ l.lp, s.size ≤ 9223372036854775807) (hn : L.length ≤ 1048576) :
    Calls Tryd.prog 21 #[.agg #[.map (some b1), .map (some b2)], .agg #[.string l.nm, lv]] w fun e w' => e = .returned (.int .i64 (stepL L l)) ∧ (stepL L l = 0 → SeesL w0 w' b2 (L ++ [l])) ∧ w.grownBy w' (some b2) := by
  have HP0 := Lib.hid (fun W (hW : Below w.heap.size w W) => isPlace_c w0 W b1 b2 L lv l.lp (hb0.trans (hW.mono hb0.size)) (hL.below hW hL.lt) hO (hi.below (hb0.trans (hW.mono hb0.size))) hss)
  obtain ⟨la, lc, rfl⟩ := hi.form
  obtain ⟨nm, lp⟩ := l
  simp only at hi hs HP0 ⊢
  clear hss hb0 hO
  have g1 : ∀ o1 o2, w.grownBy (((w.alloc o1).alloc o2)) (some b2) := fun o1 o2 => (World.grownBy_alloc w o1 _).trans (World.grownBy_alloc _ o2 _)
  by_cases h1 : nameS nm = false
  · have e0 : Hid (stepL L ⟨nm, lp⟩ = 5) := by unfold Hid stepL; rw [if_pos h1]
    have HN := Lib.hid (fun w => by have := isName_c nm w; rw [h1] at this; exact this)
    clear h1 HP0
    go_enter Tryd.func21, Tryd.ntmps21
    go_wp2_with fail
    refine (HN.out _).mono ?_
    rintro e w4 ⟨rfl, rfl⟩
    go_wp2
    go_ret
    exact ⟨by rw [e0.out]; rfl, fun h => (by rw [e0.out] at h; cases h), g1 _ _⟩
  · have h1' : nameS nm = true := by simpa using h1
    have HN := Lib.hid (fun w => by have := isName_c nm w; rw [h1'] at this; exact this)
    have B2 : ∀ o1 o2, Below w.heap.size w ((w.alloc o1).alloc o2) := fun o1 o2 => ((Below.refl w.heap.size w).alloc (Nat.le_refl _) o1).alloc (by simp) o2
    rcases hL.look nm hs with ⟨hf, hrun⟩ | ⟨x, lvx, hf, hix, hrun⟩
    · have r1 := hrun ((w.alloc (.cells #[.map (some b1), .map (some b2)] 44)).alloc (.cells #[.string nm, .slice la lp.length lc] 60)) (B2 _ _)
      have B3 : ∀ o1 o2 o3, Below w.heap.size w (((w.alloc o1).alloc o2).alloc o3) := fun o1 o2 o3 => (B2 o1 o2).alloc (by simp; omega) o3
      by_cases hk : placeS L lp = false
      · have e0 : Hid (stepL L ⟨nm, lp⟩ = 7) := by unfold Hid stepL; rw [if_neg (by simpa using h1), if_neg (by simp [hf]), if_pos hk]
        rw [hk] at HP0
        clear h1 h1' hf hrun hL hi hk
        go_enter Tryd.func21, Tryd.ntmps21
        go_wp2_with fail
        refine (HN.out _).mono ?_
        rintro e w4 ⟨rfl, rfl⟩
        go_wp2_with fail
        refine (HP0.out _ (B3 _ _ _)).mono ?_
        rintro e w5 ⟨rfl, hB⟩
        have HB := Lib.hid ((B3 _ _ _).trans (hB.mono (B3 _ _ _).size))
        clear hB B3
        go_wp2
        go_ret
        exact ⟨by rw [e0.out]; rfl, fun h => (by rw [e0.out] at h; cases h), grown_of_below HB.out _⟩
      · have hk' : placeS L lp = true := by simpa using hk
        have e0 : Hid (stepL L ⟨nm, lp⟩ = 0) := by unfold Hid stepL; rw [if_neg (by simpa using h1), if_neg (by simp [hf]), if_neg hk]
        rw [hk'] at HP0
        obtain ⟨n, f, hnl, ⟨D, hown, hD⟩, hff⟩ := hL
        have HD := Lib.hid (fun w' (hw : Below w.heap.size w w') => (show w'.ownsMap Tryd.prog 9 asIs b2 n D from by
          obtain ⟨es, clock, q1, q2⟩ := hown
          exact ⟨es, clock, (hw.block b2 (World.ownsMap.lt ⟨es, clock, q1, q2⟩)).trans q1, q2⟩))
        have HF := Lib.hid (fun w' h1 => SeesL.more (w0 := w0) (w' := w') (b := b2) (n := n) (f := f) (L := L) ⟨nm, lp⟩ (.slice la lp.length lc) hnl h1 hf hff hi)
        have HP := Lib.hid (hD.put nm (.agg #[.string nm, .slice la lp.length lc]))
        have HK := Lib.hid (Go.WideMaps.keyOf_string_mk (s := nm) Tryd.underlying9 (by unfold maxLen; exact hs))
        have hnm : n < maxLen := by unfold maxLen; omega
        clear h1 h1' hf hrun hi hk hk' hown hD hff
        go_enter Tryd.func21, Tryd.ntmps21
        go_wp2_with fail
        refine (HN.out _).mono ?_
        rintro e w4 ⟨rfl, rfl⟩
        go_wp2_with fail
        refine (HP0.out _ (B3 _ _ _)).mono ?_
        rintro e w5 ⟨rfl, hB⟩
        have c0 : w5.cell? ⟨w.heap.size, 1, none⟩ = some (.map (some b2)) := by
          rw [hB.cell (p := ⟨w.heap.size, 1, none⟩) (by simp; omega), World.cell?_alloc_past _ _ _ (by simp; omega), World.cell?_alloc_past _ _ _ (by simp), World.cell?_alloc_new]; rfl
        have dd : ∀ o, o < 2 → w5.cell? ⟨w.heap.size + 1, o, none⟩ = (#[.string nm, .slice la lp.length lc] : Array Value)[o]? := fun o ho => by
          rw [hB.cell (p := ⟨w.heap.size + 1, o, none⟩) (by simp), World.cell?_alloc_past _ _ _ (by simp)]
          simp
        have d0 := dd 0 (by omega)
        have d1 := dd 1 (by omega)
        simp only [List.getElem?_toArray, List.getElem?_cons_zero, List.getElem?_cons_succ] at d0 d1
        clear dd
        have HB := Lib.hid ((B3 _ _ _).trans (hB.mono (B3 _ _ _).size))
        clear hB B3
        go_wp2_with (first | (at_mapUpdate; refine wpList_mapUpdate_own _ rfl _ _ _ 42 rfl 9 60 (Maps.string_keyed Tryd.underlying9) Tryd.underlying42 asIs b2 n D rfl (HD.out _ HB.out) hnm _ _ _ rfl rfl HK.out _ _ rfl ?_) | fail)
        intro w1 hown1 hg
        have HS := Lib.hid (HF.out w1 ⟨_, hown1, HP.out⟩)
        have HG := Lib.hid ((grown_of_below HB.out (some b2)).trans hg)
        clear hown1 hg HF HP HD HB
        go_wp2
        go_ret
        exact ⟨by rw [e0.out]; rfl, fun _ => HS.out, HG.out⟩
    · obtain ⟨xa, xc, rfl⟩ := hix.form
      clear hix
      have r1 := hrun ((w.alloc (.cells #[.map (some b1), .map (some b2)] 44)).alloc (.cells #[.string nm, .slice la lp.length lc] 60)) (B2 _ _)
      have e0 : Hid (stepL L ⟨nm, lp⟩ = 6) := by unfold Hid stepL; rw [if_neg (by simpa using h1), if_pos (by simp [hf])]
      clear h1 h1' hf hrun hL hi HP0
      go_enter Tryd.func21, Tryd.ntmps21
      go_wp2_with fail
      refine (HN.out _).mono ?_
      rintro e w4 ⟨rfl, rfl⟩
      go_wp2
      go_ret
      exact ⟨by rw [e0.out]; rfl, fun h => (by rw [e0.out] at h; cases h), by first | exact g1 _ _ | exact (g1 _ _).trans (World.grownBy_alloc _ _ _)⟩
end Go.Proofs.YtngijlmokhkdjaaDoor
