/-
  sightOfScene and CheckScene of package value (its loops made by a program).
-/
import Derived.Test.YtngijlmokhkdjaaDoorTyScnB
import Derived.IntWalk
namespace Go.Proofs.YtngijlmokhkdjaaDoor
open Go.RowKit

/-- Texts of Bounds and Rows of a bounded length. -/
def FineB (B : List Bd) : Prop := ∀ x ∈ B, x.nm.size ≤ 9223372036854775807 ∧ x.vs.size ≤ 9223372036854775807
def FineR (R : List Ro) : Prop := ∀ x ∈ R, x.nm.size ≤ 9223372036854775807
/-- While a scene is looked at: the scene in block G, the result's cells in G + 1, the sight in block g. -/
structure CSt (w ws : World) (C : List Cl) (L : List Ne) (vC vL vB vR : Value) (b1 b2 g : Nat) (W : World) : Prop where
  q2 : W.cell? ⟨w.heap.size, 2, none⟩ = some vB
  q3 : W.cell? ⟨w.heap.size, 3, none⟩ = some vR
  r0 : W.cell? ⟨w.heap.size + 1, 0, none⟩ = some (.map none)
  r1 : W.cell? ⟨w.heap.size + 1, 1, none⟩ = some (.map none)
  f0 : W.frozen? ⟨w.heap.size + 1, 0, none⟩ = false
  f1 : W.frozen? ⟨w.heap.size + 1, 1, none⟩ = false
  s0 : W.cell? ⟨g, 0, none⟩ = some (.map (some b1))
  s1 : W.cell? ⟨g, 1, none⟩ = some (.map (some b2))
  mc : SeesC ws W b1 C
  ml : SeesL ws W b2 L
  bel : Below w.heap.size w W
  sg : w.heap.size + 2 ≤ g
  sz : g < W.heap.size
theorem CSt.keep {w ws W W' : World} {C : List Cl} {L : List Ne} {vC vL vB vR : Value} {b1 b2 g : Nat} (h : CSt w ws C L vC vL vB vR b1 b2 g W) (hb : Below W.heap.size W W') : CSt w ws C L vC vL vB vR b1 b2 g W' := by
  have h1 := h.sg
  have h2 := h.sz
  have cc := fun (b z : Nat) (hl : b < W.heap.size) => hb.cell (p := ⟨b, z, none⟩) hl
  have ff := fun (b z : Nat) (hl : b < W.heap.size) => hb.frozen (p := ⟨b, z, none⟩) hl
  refine ⟨?_, ?_, ?_, ?_, ?_, ?_, ?_, ?_, h.mc.below hb h.mc.lt, h.ml.below hb h.ml.lt, h.bel.trans (hb.mono (by omega)), h1, Nat.lt_of_lt_of_le h2 hb.size⟩
  · rw [cc _ _ (by omega)]; exact h.q2
  · rw [cc _ _ (by omega)]; exact h.q3
  · rw [cc _ _ (by omega)]; exact h.r0
  · rw [cc _ _ (by omega)]; exact h.r1
  · rw [ff _ _ (by omega)]; exact h.f0
  · rw [ff _ _ (by omega)]; exact h.f1
  · rw [cc _ _ (by omega)]; exact h.s0
  · rw [cc _ _ (by omega)]; exact h.s1
/-- What sightOfScene gives. -/
def SceneP (w : World) (C : List Cl) (L : List Ne) (B : List Bd) (R : List Ro) (e : Ending) (w' : World) : Prop :=
  ∃ m1 m2 : Option Nat, e = .returned (.tuple #[.agg #[.map m1, .map m2], .int .i64 (sceneS C L B R)]) ∧ Below w.heap.size w w'
theorem scene_sight {C : List Cl} {L : List Ne} {B : List Bd} {R : List Ro} (h : sightS C L ≠ 0) : sceneS C L B R = sightS C L := by unfold sceneS; rw [if_pos h]
theorem scene_large {C : List Cl} {L : List Ne} {B : List Bd} {R : List Ro} (h : sightS C L = 0) (h2 : 20000 < B.length ∨ 20000 < R.length) : sceneS C L B R = 2 := by unfold sceneS; rw [if_neg (by simpa using h), if_pos h2]
theorem scene_on {C : List Cl} {L : List Ne} {B : List Bd} {R : List Ro} (h : sightS C L = 0) (h2 : ¬ (20000 < B.length ∨ 20000 < R.length)) : sceneS C L B R = if boundsF C none B ≠ 0 then boundsF C none B else rowsF L none R := by
  unfold sceneS; rw [if_neg (by simpa using h), if_neg h2]

set_option maxRecDepth 100000 in
set_option maxHeartbeats 16000000 in
theorem sightOfScene_c (w : World) (vC vL vB vR : Value) (C : List Cl) (L : List Ne) (B : List Bd) (R : List Ro) (hC : IsC w vC C) (hL : IsM w vL L) (hB : IsB w vB B) (hR : IsR w vR R)
    (hFC : FineC C) (hFL : FineL L) (hFB : FineB B) (hFR : FineR R) (hnC : C.length ≤ 1048576) (hnL : L.length ≤ 1048576) (hnB : B.length ≤ 1048576) (hnR : R.length ≤ 1048576) :
    Calls Tryd.prog 15 #[.agg #[vC, vL, vB, vR]] w (SceneP w C L B R) := by
  have HS := Lib.hid (fun W (hW : Below w.heap.size w W) => sightOf_c W vC vL C L (hC.below hW) (hL.below hW) hFC hFL hnC hnL)
  obtain ⟨aC, cC, rfl, _⟩ := hC
  obtain ⟨aL, cL, rfl, _⟩ := hL
  obtain ⟨aB, cB, rfl, hB⟩ := hB
  obtain ⟨aR, cR, rfl, hR⟩ := hR
  have HIB := Lib.hid hB
  have HIR := Lib.hid hR
  have HFB := Lib.hid hFB
  have HFR := Lib.hid hFR
  clear hB hR hFB hFR hFC hFL
  obtain ⟨vC, hvC⟩ : ∃ v : Value, v = .slice aC C.length cC := ⟨_, rfl⟩
  obtain ⟨vL, hvL⟩ : ∃ v : Value, v = .slice aL L.length cL := ⟨_, rfl⟩
  obtain ⟨vB, hvB⟩ : ∃ v : Value, v = .slice aB B.length cB := ⟨_, rfl⟩
  obtain ⟨vR, hvR⟩ : ∃ v : Value, v = .slice aR R.length cR := ⟨_, rfl⟩
  obtain ⟨S, hS⟩ : ∃ S, S = sightS C L := ⟨_, rfl⟩
  have HSE := Lib.hid hS
  clear hS
  have BB := ((Below.refl w.heap.size w).alloc (Nat.le_refl _) (.cells #[.slice aC C.length cC, .slice aL L.length cL, .slice aB B.length cB, .slice aR R.length cR] 33)).alloc (by simp) (.cells #[.map none, .map none] 44)
  have HBB := Lib.hid BB
  clear BB
  have XX : Hid (∀ w4, Below ((w.alloc (.cells #[.slice aC C.length cC, .slice aL L.length cL, .slice aB B.length cB, .slice aR R.length cR] 33)).alloc (.cells #[.map none, .map none] 44)).heap.size ((w.alloc (.cells #[.slice aC C.length cC, .slice aL L.length cL, .slice aB B.length cB, .slice aR R.length cR] 33)).alloc (.cells #[.map none, .map none] 44)) w4 →
      (w4.cell? ⟨w.heap.size, 2, none⟩ = some (.slice aB B.length cB) ∧ w4.cell? ⟨w.heap.size, 3, none⟩ = some (.slice aR R.length cR)) ∧ (w4.cell? ⟨w.heap.size + 1, 0, none⟩ = some (.map none) ∧ w4.cell? ⟨w.heap.size + 1, 1, none⟩ = some (.map none)) ∧ (w4.frozen? ⟨w.heap.size + 1, 0, none⟩ = false ∧ w4.frozen? ⟨w.heap.size + 1, 1, none⟩ = false) ∧ w.heap.size + 2 ≤ w4.heap.size) := by
    intro w4 hB
    refine ⟨⟨?_, ?_⟩, ⟨?_, ?_⟩, ⟨?_, ?_⟩, by have := hB.size; simp at this; omega⟩
    · rw [hB.cell (p := ⟨w.heap.size, 2, none⟩) (by simp; omega), World.cell?_alloc_past _ _ _ (by simp), World.cell?_alloc_at _ _ _ _ rfl]; rfl
    · rw [hB.cell (p := ⟨w.heap.size, 3, none⟩) (by simp; omega), World.cell?_alloc_past _ _ _ (by simp), World.cell?_alloc_at _ _ _ _ rfl]; rfl
    · rw [hB.cell (p := ⟨w.heap.size + 1, 0, none⟩) (by simp), World.cell?_alloc_at _ _ _ _ (by simp)]; rfl
    · rw [hB.cell (p := ⟨w.heap.size + 1, 1, none⟩) (by simp), World.cell?_alloc_at _ _ _ _ (by simp)]; rfl
    · rw [hB.frozen (p := ⟨w.heap.size + 1, 0, none⟩) (by simp), World.frozen?_alloc_at _ _ _ _ (by simp)]
    · rw [hB.frozen (p := ⟨w.heap.size + 1, 1, none⟩) (by simp), World.frozen?_alloc_at _ _ _ _ (by simp)]
  by_cases hS0 : S = 0
  · subst hS0
    go_enter Tryd.func15, Tryd.ntmps15
    go_wp2_with fail
    generalize (w.alloc (.cells #[.slice aC C.length cC, .slice aL L.length cL, .slice aB B.length cB, .slice aR R.length cR] 33)).alloc (.cells #[.map none, .map none] 44) = W2 at HBB XX ⊢
    refine (HS.out _ HBB.out).mono ?_
    rintro e ws ⟨n1, n2, rfl, hB, hok⟩
    rw [← HSE.out] at hok ⊢
    obtain ⟨b1, b2, rfl, rfl, hSC, hSL⟩ := hok rfl
    obtain ⟨⟨x2, x3⟩, ⟨r0, r1⟩, ⟨f0, f1⟩, hzs⟩ := XX.out _ hB
    have HBS := Lib.hid (HBB.out.trans (hB.mono HBB.out.size))
    have HSC := Lib.hid hSC
    have HSL := Lib.hid hSL
    clear hB hok hSC hSL
    have HST : Hid (CSt w W2 C L vC vL vB vR b1 b2 ws.heap.size (ws.alloc (.cells #[.map (some b1), .map (some b2)] 44))) := by
      have hb := (Below.refl ws.heap.size ws).alloc (Nat.le_refl _) (.cells #[.map (some b1), .map (some b2)] 44)
      refine ⟨?_, ?_, ?_, ?_, ?_, ?_, by rw [World.cell?_alloc_at _ _ _ _ rfl]; rfl, by rw [World.cell?_alloc_at _ _ _ _ rfl]; rfl, HSC.out.below hb HSC.out.lt, HSL.out.below hb HSL.out.lt, HBS.out.trans (hb.mono HBS.out.size), hzs, by simp⟩
      · rw [hb.cell (p := ⟨w.heap.size, 2, none⟩) (by show w.heap.size < _; omega), hvB]; exact x2
      · rw [hb.cell (p := ⟨w.heap.size, 3, none⟩) (by show w.heap.size < _; omega), hvR]; exact x3
      · rw [hb.cell (p := ⟨w.heap.size + 1, 0, none⟩) (by show w.heap.size + 1 < _; omega)]; exact r0
      · rw [hb.cell (p := ⟨w.heap.size + 1, 1, none⟩) (by show w.heap.size + 1 < _; omega)]; exact r1
      · rw [hb.frozen (p := ⟨w.heap.size + 1, 0, none⟩) (by show w.heap.size + 1 < _; omega)]; exact f0
      · rw [hb.frozen (p := ⟨w.heap.size + 1, 1, none⟩) (by show w.heap.size + 1 < _; omega)]; exact f1
    have hz1 : w.heap.size < ws.heap.size := by omega
    have hz2 : w.heap.size + 1 < ws.heap.size := by omega
    subst hvB hvR
    by_cases hlB : 20000 < B.length
    · have eF : Hid (sceneS C L B R = 2) := scene_large HSE.out.symm (.inl hlB)
      have t1 : (20000 : Int) < (B.length : Int) := by omega
      have BL := Lib.hid HBS.out
      clear HST hlB
      go_wp2
      have e0 := set_twice r0 r1
      have HB5 := Lib.hid ((BL.out.setCell (p := ⟨w.heap.size + 1, 0, none⟩) (Nat.le_succ _) (.map none)).setCell (p := ⟨w.heap.size + 1, 1, none⟩) (Nat.le_succ _) (.map none))
      obtain ⟨e1, e2⟩ := e0
      have hz5 : w.heap.size + 1 < ((ws.setCell ⟨w.heap.size + 1, 0, none⟩ (.map none)).setCell ⟨w.heap.size + 1, 1, none⟩ (.map none)).heap.size := by simpa using hz2
      generalize (ws.setCell ⟨w.heap.size + 1, 0, none⟩ (.map none)).setCell ⟨w.heap.size + 1, 1, none⟩ (.map none) = W5 at e1 e2 HB5 hz5 ⊢
      have e3 : (W5.alloc (.cells #[.map (some b1), .map (some b2)] 44)).cell? ⟨w.heap.size + 1, 0, none⟩ = some (.map none) := by rw [World.cell?_alloc_past _ _ _ hz5]; exact e1
      have e4 : (W5.alloc (.cells #[.map (some b1), .map (some b2)] 44)).cell? ⟨w.heap.size + 1, 1, none⟩ = some (.map none) := by rw [World.cell?_alloc_past _ _ _ hz5]; exact e2
      refine bodyPost_ret (v := .tuple #[.agg #[.map none, .map none], .int .i64 2]) (by simp [results, Tryd.results15, go_sem, e3, e4]) rfl ?_
      exact ⟨_, _, by rw [eF.out], HB5.out.alloc HB5.out.size _⟩
    · have t1 : decide ((20000 : Int) < (B.length : Int)) = false := by simp; omega
      by_cases hlR : 20000 < R.length
      · have eF : Hid (sceneS C L B R = 2) := scene_large HSE.out.symm (.inr hlR)
        have t2 : (20000 : Int) < (R.length : Int) := by omega
        have BL := Lib.hid HBS.out
        clear HST hlR hlB
        go_wp2
        have e0 := set_twice r0 r1
        have HB5 := Lib.hid ((BL.out.setCell (p := ⟨w.heap.size + 1, 0, none⟩) (Nat.le_succ _) (.map none)).setCell (p := ⟨w.heap.size + 1, 1, none⟩) (Nat.le_succ _) (.map none))
        obtain ⟨e1, e2⟩ := e0
        have hz5 : w.heap.size + 1 < ((ws.setCell ⟨w.heap.size + 1, 0, none⟩ (.map none)).setCell ⟨w.heap.size + 1, 1, none⟩ (.map none)).heap.size := by simpa using hz2
        generalize (ws.setCell ⟨w.heap.size + 1, 0, none⟩ (.map none)).setCell ⟨w.heap.size + 1, 1, none⟩ (.map none) = W5 at e1 e2 HB5 hz5 ⊢
        have e3 : (W5.alloc (.cells #[.map (some b1), .map (some b2)] 44)).cell? ⟨w.heap.size + 1, 0, none⟩ = some (.map none) := by rw [World.cell?_alloc_past _ _ _ hz5]; exact e1
        have e4 : (W5.alloc (.cells #[.map (some b1), .map (some b2)] 44)).cell? ⟨w.heap.size + 1, 1, none⟩ = some (.map none) := by rw [World.cell?_alloc_past _ _ _ hz5]; exact e2
        refine bodyPost_ret (v := .tuple #[.agg #[.map none, .map none], .int .i64 2]) (by simp [results, Tryd.results15, go_sem, e3, e4]) rfl ?_
        exact ⟨_, _, by rw [eF.out], HB5.out.alloc HB5.out.size _⟩
      · have t2 : decide ((20000 : Int) < (R.length : Int)) = false := by simp; omega
        have hS0 := scene_on (B := B) (R := R) HSE.out.symm (fun h => by omega)
        have EZ : Hid (∀ {p}, boundsF C none B = p → p ≠ 0 → sceneS C L B R = p) := fun {p} h hp => by rw [hS0, if_pos (by rw [h]; exact hp), h]
        have ER : Hid (boundsF C none B = 0 → sceneS C L B R = rowsF L none R) := fun h => by rw [hS0, if_neg (by rw [h]; exact fun h => h rfl)]
        have HZ0 : Hid (boundsF C none B = boundsF C (ahead B 0) (B.drop 0)) := rfl
        clear hlR hlB hS0 r0 r1 f0 f1 hzs
        go_wp2_with fail
        clear x2 x3 hz1 hz2 t1 t2
        generalize boundsF C none B = Z at HZ0 EZ ER
        go_loopw [6, 7, 8, 38] (fun _ _ _ i wr => ∃ k : Nat, k ≤ B.length ∧ i = .int .i64 k ∧ Hid (CSt w W2 C L vC vL (.slice aB B.length cB) (.slice aR R.length cR) b1 b2 ws.heap.size wr) ∧ Hid (Z = boundsF C (ahead B k) (B.drop k))) (fun _ _ _ i _ => B.length - (intOf i).toNat)
        case atStart => exact ⟨0, Nat.zero_le _, rfl, HST.out, HZ0.out⟩
        case round =>
          obtain ⟨k, hk, rfl, hS, hA⟩ := hrel
          clear HST HZ0
          by_cases hlt : k < B.length
          · have hkk : (k : Int) < (B.length : Int) := by omega
            obtain ⟨b, off, rfl, hbl, hCs⟩ : ∃ b off, aB = some ⟨b, off, none⟩ ∧ b < w.heap.size ∧ IsBs w b B off := by
              rcases HIB.out with h | ⟨b, off, h1, h2, _, h3⟩
              · omega
              · exact ⟨b, off, h1, h2, h3⟩
            obtain ⟨c, hc⟩ : ∃ c, B[k]? = some c := ⟨B[k], List.getElem?_eq_getElem hlt⟩
            obtain ⟨rv, sv, g0, g1, g2, g3, g4, g5, g6, hr, hv⟩ := hCs.at hc
            have hmem : c ∈ B := List.mem_of_getElem? hc
            have cc := fun (z : Nat) => hS.out.bel.cell (p := ⟨b, z, none⟩) hbl
            obtain ⟨rp, rc, rfl, _⟩ := hr.len
            obtain ⟨sp, sc, rfl, _⟩ := hv.len
            have k0 := (cc _).trans g0
            have k1 := (cc _).trans g1
            have k2 := (cc _).trans g2
            have k3 := (cc _).trans g3
            have k4 := (cc _).trans g4
            have k5 := (cc _).trans g5
            have k6 := (cc _).trans g6
            have m0 := hS.out.s0
            have m1 := hS.out.s1
            have hz := hS.out.sz
            have hS1 := Lib.hid (hS.out.keep ((Below.refl wr.heap.size wr).alloc (Nat.le_refl _) (.cells #[.string c.nm, .slice rp c.row.length rc, .int .i64 c.vk, .int .i64 c.vn, .string c.vs, .slice sp c.vl.length sc, .bool c.asked] 75)))
            have hAdd := Lib.hid (checkBound_c W2 _ b1 b2 C c.nm c.row c.vk c.vn c.vs c.vl c.asked _ _ hS1.out.mc (hr.below hS1.out.bel) (hv.below hS1.out.bel) (HFB.out c hmem).1 (HFB.out c hmem).2)
            have hE : Hid (Z = if boundS C c ≠ 0 then boundS C c else match ahead B k with
                | none => boundsF C (ahead B (k + 1)) (B.drop (k + 1))
                | some y => if nextS (ordS y.nm y.row c.nm c.row) ≠ 0 then nextS (ordS y.nm y.row c.nm c.row) else boundsF C (ahead B (k + 1)) (B.drop (k + 1))) := hA.out.trans (boundsF_drop hc)
            have HR1 := Lib.hid hr
            have HCS := Lib.hid hCs
            have HBL := Lib.hid hbl
            clear g0 g1 g2 g3 g4 g5 g6 cc hA hmem hr hv hCs hbl
            obtain ⟨f, hf⟩ : ∃ f, f = boundS C c := ⟨_, rfl⟩
            rw [← hf] at hE
            have hAdd2 : Hid (Calls Tryd.prog 35 #[.agg #[.map (some b1), .map (some b2)], .agg #[.string c.nm, .slice rp c.row.length rc, .int .i64 c.vk, .int .i64 c.vn, .string c.vs, .slice sp c.vl.length sc, .bool c.asked]] (wr.alloc (.cells #[.string c.nm, .slice rp c.row.length rc, .int .i64 c.vk, .int .i64 c.vn, .string c.vs, .slice sp c.vl.length sc, .bool c.asked] 75)) fun e w' => e = .returned (.int .i64 f) ∧ Below (wr.alloc (.cells #[.string c.nm, .slice rp c.row.length rc, .int .i64 c.vk, .int .i64 c.vn, .string c.vs, .slice sp c.vl.length sc, .bool c.asked] 75)).heap.size (wr.alloc (.cells #[.string c.nm, .slice rp c.row.length rc, .int .i64 c.vk, .int .i64 c.vn, .string c.vs, .slice sp c.vl.length sc, .bool c.asked] 75)) w') := by rw [hf]; exact hAdd.out
            clear hf hAdd
            by_cases hf0 : f = 0
            · subst hf0
              have hE2 := hE.out.trans (if_neg (fun h => h rfl))
              clear hE
              by_cases hk0 : k = 0
              · subst hk0
                have eN : Hid (Z = boundsF C (ahead B (0 + 1)) (B.drop (0 + 1))) := hE2
                simp only [Nat.zero_mul, Nat.add_zero] at k0
                simp only [Nat.zero_mul, Nat.add_zero] at k1
                simp only [Nat.zero_mul, Nat.add_zero] at k2
                simp only [Nat.zero_mul, Nat.add_zero] at k3
                simp only [Nat.zero_mul, Nat.add_zero] at k4
                simp only [Nat.zero_mul, Nat.add_zero] at k5
                simp only [Nat.zero_mul, Nat.add_zero] at k6
                clear hE2 hc
                go_wp2_with fail
                refine hAdd2.out.mono ?_
                rintro e w4 ⟨rfl, hB⟩
                have hS4 := Lib.hid (hS1.out.keep hB)
                clear hB hS1 hAdd2 hS m0 m1 k0 k1 k2 k3 k4 k5 k6 hz
                go_wp2
                go_roundw
                case rel => exact ⟨0 + 1, by omega, by go_num, hS4.out, eN.out⟩
                case measure => simp [intOf]; omega
              · obtain ⟨j, rfl⟩ : ∃ j, k = j + 1 := ⟨k - 1, by omega⟩
                obtain ⟨y, hy⟩ : ∃ y, B[j]? = some y := ⟨B[j], List.getElem?_eq_getElem (by omega)⟩
                rw [ahead_succ hy] at hE2
                have hE3 := Lib.hid hE2
                clear hE2 hk0
                have HCY := Lib.hid (HCS.out.at hy)
                clear hy hc
                have kj : (j : Int) < (B.length : Int) := by omega
                have kp : (0 : Int) < (j : Int) + 1 := by omega
                go_wp2_with fail
                refine hAdd2.out.mono ?_
                rintro e w4 ⟨rfl, hB⟩
                have hS4 := Lib.hid (hS1.out.keep hB)
                have dd : ∀ i, i < 7 → w4.cell? ⟨wr.heap.size, i, none⟩ = (#[.string c.nm, .slice rp c.row.length rc, .int .i64 c.vk, .int .i64 c.vn, .string c.vs, .slice sp c.vl.length sc, .bool c.asked] : Array Value)[i]? := fun i hi => by
                  rw [hB.cell (p := ⟨wr.heap.size, i, none⟩) (by simp), World.cell?_alloc_at _ _ _ _ rfl]
                have HDD := Lib.hid dd
                clear dd hB hS1 hAdd2 hS m0 m1 k0 k1 k2 k3 k4 k5 k6 hz
                go_wp2_with fail
                have u3 : IntKind.i64.wrap ((j : Int) + 1 - 1) = (j : Int) := by rw [show (j : Int) + 1 - 1 = j by omega]; exact IntWalk.i64_in _ (by omega)
                have u4 : IntKind.i64.wrap (j : Int) = (j : Int) := IntWalk.i64_in _ (by omega)
                have u1 : (0 : Int) ≤ (j : Int) := by omega
                refine wp_tail 7 (by kernel_rfl) (by kernel_rfl) ?_
                intro W hW
                have hS5 := Lib.hid (show CSt w W2 C L vC vL (.slice (some ⟨b, off, none⟩) B.length cB) (.slice aR R.length cR) b1 b2 ws.heap.size W by rw [hW]; exact hS4.out.keep (Below.refl _ _).drew)
                have qq := hS5.out.q2
                have dd : ∀ i, i < 7 → W.cell? ⟨wr.heap.size, i, none⟩ = (#[.string c.nm, .slice rp c.row.length rc, .int .i64 c.vk, .int .i64 c.vn, .string c.vs, .slice sp c.vl.length sc, .bool c.asked] : Array Value)[i]? := fun i hi => by rw [hW]; exact HDD.out i hi
                have d0 := dd 0 (by omega)
                have d1 := dd 1 (by omega)
                have d2 := dd 2 (by omega)
                have d3 := dd 3 (by omega)
                have d4 := dd 4 (by omega)
                have d5 := dd 5 (by omega)
                have d6 := dd 6 (by omega)
                simp only [List.getElem?_toArray, List.getElem?_cons_zero, List.getElem?_cons_succ] at d0 d1 d2 d3 d4 d5 d6
                have HCY2 := HCY.out
                obtain ⟨rv', sv', y0, y1, y2, y3, y4, y5, y6, hr', hv'⟩ := HCY2
                obtain ⟨rp', rc', rfl, _⟩ := hr'.len
                obtain ⟨sp', sc', rfl, _⟩ := hv'.len
                have cc := fun (z : Nat) => hS5.out.bel.cell (p := ⟨b, z, none⟩) HBL.out
                have z0 := (cc _).trans y0
                have z1 := (cc _).trans y1
                have z2 := (cc _).trans y2
                have z3 := (cc _).trans y3
                have z4 := (cc _).trans y4
                have z5 := (cc _).trans y5
                have z6 := (cc _).trans y6
                have HC := Lib.hid (compareBounds_c y.nm c.nm _ _ y.row c.row y.vk y.vn c.vk c.vn y.vs c.vs (.slice sp' y.vl.length sc') (.slice sp c.vl.length sc) y.asked c.asked W (hr'.below hS5.out.bel) (HR1.out.below hS5.out.bel))
                clear hW dd cc hr' hv' HDD hS4 HCY y0 y1 y2 y3 y4 y5 y6
                obtain ⟨o, ho⟩ : ∃ o, o = ordS y.nm y.row c.nm c.row := ⟨_, rfl⟩
                rw [← ho] at HC hE3
                clear ho
                simp only [List.take_succ_cons, List.take_zero, List.drop_succ_cons, List.drop_zero]
                repeat still_step
                refine wpStill_nil ?_
                clear u1 u3 u4
                clear d0 z0 d1 z1 d2 z2 d3 z3 d4 z4 d5 z5 d6 z6 qq
                go_wp2_with fail
                refine HC.out.mono ?_
                rintro e w6 ⟨rfl, hB⟩
                have hS6 := Lib.hid (hS5.out.keep hB)
                clear hB hS5 HC
                go_wp2_with fail
                refine (checkOrder_c o _).mono ?_
                rintro e w7 ⟨rfl, rfl⟩
                obtain ⟨p, hp⟩ : ∃ p, p = nextS o := ⟨_, rfl⟩
                rw [← hp] at hE3 ⊢
                clear hp
                by_cases hp0 : p = 0
                · subst hp0
                  have eN : Hid (Z = boundsF C (ahead B (j + 1 + 1)) (B.drop (j + 1 + 1))) := hE3.out.trans (if_neg (fun h => h rfl))
                  clear hE3
                  go_wp2
                  go_roundw
                  case rel => exact ⟨j + 1 + 1, by omega, by first | go_num | (congr 1), hS6.out, eN.out⟩
                  case measure => simp [intOf]; omega
                · have eZ : Hid (Z = p) := hE3.out.trans (if_pos hp0)
                  have q1 : (p != 0) = true := by simpa using hp0
                  have eF : Hid (sceneS C L B R = p) := EZ.out eZ.out hp0
                  have BL := Lib.hid hS6.out.bel
                  have r0 := hS6.out.r0
                  have r1 := hS6.out.r1
                  have f0 := hS6.out.f0
                  have f1 := hS6.out.f1
                  clear hE3 hp0 hS6
                  go_wp2
                  have e0 := set_twice r0 r1
                  have HB5 := Lib.hid ((BL.out.setCell (p := ⟨w.heap.size + 1, 0, none⟩) (Nat.le_succ _) (.map none)).setCell (p := ⟨w.heap.size + 1, 1, none⟩) (Nat.le_succ _) (.map none))
                  obtain ⟨e1, e2⟩ := e0
                  generalize (w7.setCell ⟨w.heap.size + 1, 0, none⟩ (.map none)).setCell ⟨w.heap.size + 1, 1, none⟩ (.map none) = W5 at e1 e2 HB5 ⊢
                  refine bodyPost_ret (v := .tuple #[.agg #[.map none, .map none], .int .i64 p]) (by simp [results, Tryd.results15, go_sem, e1, e2]) rfl ?_
                  exact ⟨_, _, by rw [eF.out], HB5.out⟩
            · have eZ : Hid (Z = f) := hE.out.trans (if_pos hf0)
              have q1 : (f != 0) = true := by simpa using hf0
              have q2 : (f == 0) = false := by simpa using hf0
              have eF : Hid (sceneS C L B R = f) := EZ.out eZ.out hf0
              clear hE hf0 hc
              go_wp2_with fail
              refine hAdd2.out.mono ?_
              rintro e w4 ⟨rfl, hB⟩
              have hS4 := Lib.hid (hS1.out.keep hB)
              have BL := Lib.hid hS4.out.bel
              have r0 := hS4.out.r0
              have r1 := hS4.out.r1
              have f0 := hS4.out.f0
              have f1 := hS4.out.f1
              clear hB hS1 hAdd2 hS m0 m1 k0 k1 k2 k3 k4 k5 k6 hz hS4
              go_wp2
              have e0 := set_twice r0 r1
              have HB5 := Lib.hid ((BL.out.setCell (p := ⟨w.heap.size + 1, 0, none⟩) (Nat.le_succ _) (.map none)).setCell (p := ⟨w.heap.size + 1, 1, none⟩) (Nat.le_succ _) (.map none))
              obtain ⟨e1, e2⟩ := e0
              generalize (w4.setCell ⟨w.heap.size + 1, 0, none⟩ (.map none)).setCell ⟨w.heap.size + 1, 1, none⟩ (.map none) = W5 at e1 e2 HB5 ⊢
              refine bodyPost_ret (v := .tuple #[.agg #[.map none, .map none], .int .i64 f]) (by simp [results, Tryd.results15, go_sem, e1, e2]) rfl ?_
              exact ⟨_, _, by rw [eF.out], HB5.out⟩
          · obtain rfl : k = B.length := by omega
            have hZ : Hid (Z = 0) := by unfold Hid; rw [hA.out, List.drop_length]; cases ahead B B.length <;> rfl
            have HST := Lib.hid hS.out
            clear hA hS
            have HZR : Hid (sceneS C L B R = rowsF L none R) := ER.out hZ.out
            have EZ : Hid (∀ {p}, rowsF L none R = p → p ≠ 0 → sceneS C L B R = p) := fun h _ => HZR.out.trans h
            have EZ0 : Hid (rowsF L none R = 0 → sceneS C L B R = 0) := fun h => HZR.out.trans h
            have HZ0 : Hid (rowsF L none R = rowsF L (ahead R 0) (R.drop 0)) := rfl
            clear hZ HZR ER
            have qq := HST.out.q3
            go_wp2_with fail
            clear qq
            generalize rowsF L none R = Z at HZ0 EZ EZ0
            go_loopw [9, 10, 11, 69] (fun _ _ _ i wr => ∃ k : Nat, k ≤ R.length ∧ i = .int .i64 k ∧ Hid (CSt w W2 C L vC vL (.slice aB B.length cB) (.slice aR R.length cR) b1 b2 ws.heap.size wr) ∧ Hid (Z = rowsF L (ahead R k) (R.drop k))) (fun _ _ _ i _ => R.length - (intOf i).toNat)
            case atStart => exact ⟨0, Nat.zero_le _, rfl, HST.out, HZ0.out⟩
            case round =>
              obtain ⟨k, hk, rfl, hS, hA⟩ := hrel
              clear HST HZ0
              by_cases hlt : k < R.length
              · have hkk : (k : Int) < (R.length : Int) := by omega
                obtain ⟨b, off, rfl, hbl, hCs⟩ : ∃ b off, aR = some ⟨b, off, none⟩ ∧ b < w.heap.size ∧ IsRs w b R off := by
                  rcases HIR.out with h | ⟨b, off, h1, h2, _, h3⟩
                  · omega
                  · exact ⟨b, off, h1, h2, h3⟩
                obtain ⟨c, hc⟩ : ∃ c, R[k]? = some c := ⟨R[k], List.getElem?_eq_getElem hlt⟩
                obtain ⟨rv, sv, g0, g1, g2, hr, hv⟩ := hCs.at hc
                have hmem : c ∈ R := List.mem_of_getElem? hc
                have cc := fun (z : Nat) => hS.out.bel.cell (p := ⟨b, z, none⟩) hbl
                obtain ⟨rp, rc, rfl, _⟩ := hr.len
                obtain ⟨sp, sc, rfl, _⟩ := hv.len
                have k0 := (cc _).trans g0
                have k1 := (cc _).trans g1
                have k2 := (cc _).trans g2
                have m0 := hS.out.s0
                have m1 := hS.out.s1
                have hz := hS.out.sz
                have hS1 := Lib.hid (hS.out.keep ((Below.refl wr.heap.size wr).alloc (Nat.le_refl _) (.cells #[.string c.nm, .slice rp c.row.length rc, .slice sp c.nums.length sc] 80)))
                have hAdd := Lib.hid (checkRows_c W2 _ b1 b2 L c.nm c.row c.nums _ _ hS1.out.ml (hr.below hS1.out.bel) (hv.below hS1.out.bel) (HFR.out c hmem))
                have hE : Hid (Z = if rowsS L c ≠ 0 then rowsS L c else match ahead R k with
                    | none => rowsF L (ahead R (k + 1)) (R.drop (k + 1))
                    | some y => if nextS (ordS y.nm y.row c.nm c.row) ≠ 0 then nextS (ordS y.nm y.row c.nm c.row) else rowsF L (ahead R (k + 1)) (R.drop (k + 1))) := hA.out.trans (rowsF_drop hc)
                have HR1 := Lib.hid hr
                have HCS := Lib.hid hCs
                have HBL := Lib.hid hbl
                clear g0 g1 g2 cc hA hmem hr hv hCs hbl
                obtain ⟨f, hf⟩ : ∃ f, f = rowsS L c := ⟨_, rfl⟩
                rw [← hf] at hE
                have hAdd2 : Hid (Calls Tryd.prog 38 #[.agg #[.map (some b1), .map (some b2)], .agg #[.string c.nm, .slice rp c.row.length rc, .slice sp c.nums.length sc]] (wr.alloc (.cells #[.string c.nm, .slice rp c.row.length rc, .slice sp c.nums.length sc] 80)) fun e w' => e = .returned (.int .i64 f) ∧ Below (wr.alloc (.cells #[.string c.nm, .slice rp c.row.length rc, .slice sp c.nums.length sc] 80)).heap.size (wr.alloc (.cells #[.string c.nm, .slice rp c.row.length rc, .slice sp c.nums.length sc] 80)) w') := by rw [hf]; exact hAdd.out
                clear hf hAdd
                by_cases hf0 : f = 0
                · subst hf0
                  have hE2 := hE.out.trans (if_neg (fun h => h rfl))
                  clear hE
                  by_cases hk0 : k = 0
                  · subst hk0
                    have eN : Hid (Z = rowsF L (ahead R (0 + 1)) (R.drop (0 + 1))) := hE2
                    simp only [Nat.zero_mul, Nat.add_zero] at k0
                    simp only [Nat.zero_mul, Nat.add_zero] at k1
                    simp only [Nat.zero_mul, Nat.add_zero] at k2
                    clear hE2 hc
                    go_wp2_with fail
                    refine hAdd2.out.mono ?_
                    rintro e w4 ⟨rfl, hB⟩
                    have hS4 := Lib.hid (hS1.out.keep hB)
                    clear hB hS1 hAdd2 hS m0 m1 k0 k1 k2 hz
                    go_wp2
                    go_roundw
                    case rel => exact ⟨0 + 1, by omega, by go_num, hS4.out, eN.out⟩
                    case measure => simp [intOf]; omega
                  · obtain ⟨j, rfl⟩ : ∃ j, k = j + 1 := ⟨k - 1, by omega⟩
                    obtain ⟨y, hy⟩ : ∃ y, R[j]? = some y := ⟨R[j], List.getElem?_eq_getElem (by omega)⟩
                    rw [ahead_succ hy] at hE2
                    have hE3 := Lib.hid hE2
                    clear hE2 hk0
                    have HCY := Lib.hid (HCS.out.at hy)
                    clear hy hc
                    have kj : (j : Int) < (R.length : Int) := by omega
                    have kp : (0 : Int) < (j : Int) + 1 := by omega
                    go_wp2_with fail
                    refine hAdd2.out.mono ?_
                    rintro e w4 ⟨rfl, hB⟩
                    have hS4 := Lib.hid (hS1.out.keep hB)
                    have dd : ∀ i, i < 3 → w4.cell? ⟨wr.heap.size, i, none⟩ = (#[.string c.nm, .slice rp c.row.length rc, .slice sp c.nums.length sc] : Array Value)[i]? := fun i hi => by
                      rw [hB.cell (p := ⟨wr.heap.size, i, none⟩) (by simp), World.cell?_alloc_at _ _ _ _ rfl]
                    have HDD := Lib.hid dd
                    clear dd hB hS1 hAdd2 hS m0 m1 k0 k1 k2 hz
                    go_wp2_with fail
                    have u3 : IntKind.i64.wrap ((j : Int) + 1 - 1) = (j : Int) := by rw [show (j : Int) + 1 - 1 = j by omega]; exact IntWalk.i64_in _ (by omega)
                    have u4 : IntKind.i64.wrap (j : Int) = (j : Int) := IntWalk.i64_in _ (by omega)
                    have u1 : (0 : Int) ≤ (j : Int) := by omega
                    refine wp_tail 7 (by kernel_rfl) (by kernel_rfl) ?_
                    intro W hW
                    have hS5 := Lib.hid (show CSt w W2 C L vC vL (.slice aB B.length cB) (.slice (some ⟨b, off, none⟩) R.length cR) b1 b2 ws.heap.size W by rw [hW]; exact hS4.out.keep (Below.refl _ _).drew)
                    have qq := hS5.out.q3
                    have dd : ∀ i, i < 3 → W.cell? ⟨wr.heap.size, i, none⟩ = (#[.string c.nm, .slice rp c.row.length rc, .slice sp c.nums.length sc] : Array Value)[i]? := fun i hi => by rw [hW]; exact HDD.out i hi
                    have d0 := dd 0 (by omega)
                    have d1 := dd 1 (by omega)
                    have d2 := dd 2 (by omega)
                    simp only [List.getElem?_toArray, List.getElem?_cons_zero, List.getElem?_cons_succ] at d0 d1 d2
                    have HCY2 := HCY.out
                    obtain ⟨rv', sv', y0, y1, y2, hr', hv'⟩ := HCY2
                    obtain ⟨rp', rc', rfl, _⟩ := hr'.len
                    obtain ⟨sp', sc', rfl, _⟩ := hv'.len
                    have cc := fun (z : Nat) => hS5.out.bel.cell (p := ⟨b, z, none⟩) HBL.out
                    have z0 := (cc _).trans y0
                    have z1 := (cc _).trans y1
                    have z2 := (cc _).trans y2
                    have HC := Lib.hid (compareRows_c y.nm c.nm _ _ y.row c.row (.slice sp' y.nums.length sc') (.slice sp c.nums.length sc) W (hr'.below hS5.out.bel) (HR1.out.below hS5.out.bel))
                    clear hW dd cc hr' hv' HDD hS4 HCY y0 y1 y2
                    obtain ⟨o, ho⟩ : ∃ o, o = ordS y.nm y.row c.nm c.row := ⟨_, rfl⟩
                    rw [← ho] at HC hE3
                    clear ho
                    simp only [List.take_succ_cons, List.take_zero, List.drop_succ_cons, List.drop_zero]
                    repeat still_step
                    refine wpStill_nil ?_
                    clear u1 u3 u4
                    clear d0 z0 d1 z1 d2 z2 qq
                    go_wp2_with fail
                    refine HC.out.mono ?_
                    rintro e w6 ⟨rfl, hB⟩
                    have hS6 := Lib.hid (hS5.out.keep hB)
                    clear hB hS5 HC
                    go_wp2_with fail
                    refine (checkOrder_c o _).mono ?_
                    rintro e w7 ⟨rfl, rfl⟩
                    obtain ⟨p, hp⟩ : ∃ p, p = nextS o := ⟨_, rfl⟩
                    rw [← hp] at hE3 ⊢
                    clear hp
                    by_cases hp0 : p = 0
                    · subst hp0
                      have eN : Hid (Z = rowsF L (ahead R (j + 1 + 1)) (R.drop (j + 1 + 1))) := hE3.out.trans (if_neg (fun h => h rfl))
                      clear hE3
                      go_wp2
                      go_roundw
                      case rel => exact ⟨j + 1 + 1, by omega, by first | go_num | (congr 1), hS6.out, eN.out⟩
                      case measure => simp [intOf]; omega
                    · have eZ : Hid (Z = p) := hE3.out.trans (if_pos hp0)
                      have q1 : (p != 0) = true := by simpa using hp0
                      have eF : Hid (sceneS C L B R = p) := EZ.out eZ.out hp0
                      have BL := Lib.hid hS6.out.bel
                      have r0 := hS6.out.r0
                      have r1 := hS6.out.r1
                      have f0 := hS6.out.f0
                      have f1 := hS6.out.f1
                      clear hE3 hp0 hS6
                      go_wp2
                      have e0 := set_twice r0 r1
                      have HB5 := Lib.hid ((BL.out.setCell (p := ⟨w.heap.size + 1, 0, none⟩) (Nat.le_succ _) (.map none)).setCell (p := ⟨w.heap.size + 1, 1, none⟩) (Nat.le_succ _) (.map none))
                      obtain ⟨e1, e2⟩ := e0
                      generalize (w7.setCell ⟨w.heap.size + 1, 0, none⟩ (.map none)).setCell ⟨w.heap.size + 1, 1, none⟩ (.map none) = W5 at e1 e2 HB5 ⊢
                      refine bodyPost_ret (v := .tuple #[.agg #[.map none, .map none], .int .i64 p]) (by simp [results, Tryd.results15, go_sem, e1, e2]) rfl ?_
                      exact ⟨_, _, by rw [eF.out], HB5.out⟩
                · have eZ : Hid (Z = f) := hE.out.trans (if_pos hf0)
                  have q1 : (f != 0) = true := by simpa using hf0
                  have q2 : (f == 0) = false := by simpa using hf0
                  have eF : Hid (sceneS C L B R = f) := EZ.out eZ.out hf0
                  clear hE hf0 hc
                  go_wp2_with fail
                  refine hAdd2.out.mono ?_
                  rintro e w4 ⟨rfl, hB⟩
                  have hS4 := Lib.hid (hS1.out.keep hB)
                  have BL := Lib.hid hS4.out.bel
                  have r0 := hS4.out.r0
                  have r1 := hS4.out.r1
                  have f0 := hS4.out.f0
                  have f1 := hS4.out.f1
                  clear hB hS1 hAdd2 hS m0 m1 k0 k1 k2 hz hS4
                  go_wp2
                  have e0 := set_twice r0 r1
                  have HB5 := Lib.hid ((BL.out.setCell (p := ⟨w.heap.size + 1, 0, none⟩) (Nat.le_succ _) (.map none)).setCell (p := ⟨w.heap.size + 1, 1, none⟩) (Nat.le_succ _) (.map none))
                  obtain ⟨e1, e2⟩ := e0
                  generalize (w4.setCell ⟨w.heap.size + 1, 0, none⟩ (.map none)).setCell ⟨w.heap.size + 1, 1, none⟩ (.map none) = W5 at e1 e2 HB5 ⊢
                  refine bodyPost_ret (v := .tuple #[.agg #[.map none, .map none], .int .i64 f]) (by simp [results, Tryd.results15, go_sem, e1, e2]) rfl ?_
                  exact ⟨_, _, by rw [eF.out], HB5.out⟩
              · obtain rfl : k = R.length := by omega
                have hZ : Hid (Z = 0) := by unfold Hid; rw [hA.out, List.drop_length]; cases ahead R R.length <;> rfl
                have HST := Lib.hid hS.out
                clear hA hS
                have eF : Hid (sceneS C L B R = 0) := EZ0.out hZ.out
                have qq := HST.out.q3
                obtain ⟨_, _, r0, r1, f0, f1, s0, s1, _, _, bl, sg, sz⟩ := HST.out
                have BL := Lib.hid bl
                clear bl qq
                go_wp2
                have e0 := set_both (.map (some b1)) (.map (some b2)) r0 r1
                have HB5 := Lib.hid ((BL.out.setCell (p := ⟨w.heap.size + 1, 0, none⟩) (Nat.le_succ _) (.map (some b1))).setCell (p := ⟨w.heap.size + 1, 1, none⟩) (Nat.le_succ _) (.map (some b2)))
                obtain ⟨e1, e2⟩ := e0
                generalize (wr.setCell ⟨w.heap.size + 1, 0, none⟩ (.map (some b1))).setCell ⟨w.heap.size + 1, 1, none⟩ (.map (some b2)) = W5 at e1 e2 HB5 ⊢
                refine bodyPost_ret (v := .tuple #[.agg #[.map (some b1), .map (some b2)], .int .i64 0]) (by simp [results, Tryd.results15, go_sem, e1, e2]) rfl ?_
                exact ⟨_, _, by rw [eF.out], HB5.out⟩
  · have eF : Hid (sceneS C L B R = S) := by unfold Hid; rw [scene_sight (by rw [← HSE.out]; exact hS0), ← HSE.out]
    have q1 : (S != 0) = true := by simpa using hS0
    clear hS0
    go_enter Tryd.func15, Tryd.ntmps15
    go_wp2_with fail
    generalize (w.alloc (.cells #[.slice aC C.length cC, .slice aL L.length cL, .slice aB B.length cB, .slice aR R.length cR] 33)).alloc (.cells #[.map none, .map none] 44) = W2 at HBB XX ⊢
    refine (HS.out _ HBB.out).mono ?_
    rintro e ws ⟨n1, n2, rfl, hB, hok⟩
    rw [← HSE.out]
    obtain ⟨⟨x2, x3⟩, ⟨r0, r1⟩, ⟨f0, f1⟩, hzs⟩ := XX.out _ hB
    have BL := Lib.hid (HBB.out.trans (hB.mono HBB.out.size))
    have hz2 : w.heap.size + 1 < ws.heap.size := by omega
    clear hB hok x2 x3 hzs
    go_wp2
    have e0 := set_twice r0 r1
    have HB5 := Lib.hid ((BL.out.setCell (p := ⟨w.heap.size + 1, 0, none⟩) (Nat.le_succ _) (.map none)).setCell (p := ⟨w.heap.size + 1, 1, none⟩) (Nat.le_succ _) (.map none))
    obtain ⟨e1, e2⟩ := e0
    have hz5 : w.heap.size + 1 < ((ws.setCell ⟨w.heap.size + 1, 0, none⟩ (.map none)).setCell ⟨w.heap.size + 1, 1, none⟩ (.map none)).heap.size := by simpa using hz2
    generalize (ws.setCell ⟨w.heap.size + 1, 0, none⟩ (.map none)).setCell ⟨w.heap.size + 1, 1, none⟩ (.map none) = W5 at e1 e2 HB5 hz5 ⊢
    have e3 : (W5.alloc (.cells #[.map n1, .map n2] 44)).cell? ⟨w.heap.size + 1, 0, none⟩ = some (.map none) := by rw [World.cell?_alloc_past _ _ _ hz5]; exact e1
    have e4 : (W5.alloc (.cells #[.map n1, .map n2] 44)).cell? ⟨w.heap.size + 1, 1, none⟩ = some (.map none) := by rw [World.cell?_alloc_past _ _ _ hz5]; exact e2
    refine bodyPost_ret (v := .tuple #[.agg #[.map none, .map none], .int .i64 S]) (by simp [results, Tryd.results15, go_sem, e3, e4]) rfl ?_
    exact ⟨_, _, by rw [eF.out], HB5.out.alloc HB5.out.size _⟩
end Go.Proofs.YtngijlmokhkdjaaDoor
