/-
  CheckScene of package value; ValueTypesMatchSpec: the walk of the law.
-/
import Derived.Test.YtngijlmokhkdjaaDoorTyRTypeOf
import Derived.Test.YtngijlmokhkdjaaDoorTyRScene
import Derived.Deep.RegionHeld3
namespace Go.Proofs.YtngijlmokhkdjaaDoor
open Go.RowKit

set_option maxRecDepth 100000 in
theorem checkScene_c (w : World) (vC vL vB vR : Value) (C : List Cl) (L : List Ne) (B : List Bd) (R : List Ro) (hC : IsC w vC C) (hL : IsM w vL L) (hB : IsB w vB B) (hR : IsR w vR R)
    (hFC : FineC C) (hFL : FineL L) (hFB : FineB B) (hFR : FineR R) (hnC : C.length ≤ 1048576) (hnL : L.length ≤ 1048576) (hnB : B.length ≤ 1048576) (hnR : R.length ≤ 1048576) :
    Calls Tryd.prog 6 #[.agg #[vC, vL, vB, vR]] w fun e w' => e = .returned (.int .i64 (sceneS C L B R)) ∧ Below w.heap.size w w' := by
  have HS := Lib.hid (fun W (hW : Below w.heap.size w W) => sightOfScene_c W vC vL vB vR C L B R (hC.below hW) (hL.below hW) (hB.below hW) (hR.below hW) hFC hFL hFB hFR hnC hnL hnB hnR)
  obtain ⟨aC, cC, rfl, _⟩ := hC
  obtain ⟨aL, cL, rfl, _⟩ := hL
  obtain ⟨aB, cB, rfl, _⟩ := hB
  obtain ⟨aR, cR, rfl, _⟩ := hR
  have HB := Lib.hid ((Below.refl w.heap.size w).alloc (Nat.le_refl _) (.cells #[.slice aC C.length cC, .slice aL L.length cL, .slice aB B.length cB, .slice aR R.length cR] 33))
  clear hFC hFL hFB hFR hnC hnL hnB hnR
  go_enter Tryd.func6, Tryd.ntmps6
  go_wp2_with fail
  refine (HS.out _ HB.out).mono ?_
  rintro e w4 ⟨m1, m2, rfl, hB⟩
  have HB4 := Lib.hid (HB.out.trans (hB.mono HB.out.size))
  clear hB
  go_wp2
  go_ret
  exact ⟨rfl, HB4.out.alloc HB4.out.size _⟩

/-- What the law has boxed: an expression, and a scene. -/
def LawB (w : World) (T E : List Value) (vC vL vB vR : Value) (W : World) : Prop :=
  W.cell? ⟨w.heap.size + 1, 0, none⟩ = some vC ∧ W.cell? ⟨w.heap.size + 1, 1, none⟩ = some vL ∧ W.cell? ⟨w.heap.size + 1, 2, none⟩ = some vB ∧ W.cell? ⟨w.heap.size + 1, 3, none⟩ = some vR ∧ Hid (Bx w T E W)
theorem LawB.of {w W : World} {T : List Value} {vC vL vB vR : Value} (h : Bx w T [vC, vL, vB, vR] W) : LawB w T [vC, vL, vB, vR] vC vL vB vR W :=
  ⟨h.e 0, h.e 1, h.e 2, h.e 3, h⟩
theorem LawB.bx {w W : World} {T E : List Value} {vC vL vB vR : Value} (h : LawB w T E vC vL vB vR W) : Bx w T E W := h.2.2.2.2.out
set_option maxRecDepth 100000 in
set_option maxHeartbeats 16000000 in
theorem law_types (h : Hd) (a : Fo) (v vC vL vB vR pv : Value) (C : List Cl) (L : List Ne) (B : List Bd) (R : List Ro) (pl : List ByteArray) (w : World) (hE : Env w) (hx : IsX w h a v) (hN : IsN w pv pl) (hC : IsC w vC C) (hL : IsM w vL L) (hB : IsB w vB B) (hR : IsR w vR R)
    (hFC : FineC C) (hFL : FineL L) (hFB : FineB B) (hFR : FineR R) (hnC : C.length ≤ 1048576) (hnL : L.length ≤ 1048576) (hnB : B.length ≤ 1048576) (hnR : R.length ≤ 1048576)
    (hp : a.parts ≤ 1048576) (hz : h.vs.size ≤ 9223372036854775807) (hf : a.fine) (hpl : pl.length ≤ 1048576) (hs : ∀ s ∈ pl, s.size ≤ 9223372036854775807) :
    Calls Tryd.prog 3 #[v, .agg #[vC, vL, vB, vR], pv] w fun e w' => e = .returned (.bool true) ∧ Below w.heap.size w w' := by
  have HT := Lib.hid (fun W (hW : Below w.heap.size w W) => typeOf_c W W vC vL C L h a v pv pl (Below.refl _ _) (hx.below hW) (hN.below hW) (hC.below hW) (hL.below hW) hFC hFL hnC hnL hp hz hf hpl hs)
  have HRT := Lib.hid (fun W (hW : Below w.heap.size w W) => rTypeOf_c W W vC vL C L h a v pv pl (hE.below hW) (Below.refl _ _) (hx.below hW) (hN.below hW) (hC.below hW) (hL.below hW) hFC hFL hnC hnL hp hz hf hpl)
  have HS := Lib.hid (fun W (hW : Below w.heap.size w W) => checkScene_c W vC vL vB vR C L B R (hC.below hW) (hL.below hW) (hB.below hW) (hR.below hW) hFC hFL hFB hFR hnC hnL hnB hnR)
  have HRS := Lib.hid (fun W (hW : Below w.heap.size w W) => rCheckScene_c W W vC vL vB vR C L B R (hE.below hW) (Below.refl _ _) (hC.below hW) (hL.below hW) (hB.below hW) (hR.below hW) hFC hFL hFB hnC hnL hnB hnR)
  obtain ⟨sv, xa, n, c, rfl, hLv, rfl, _⟩ := hx
  obtain ⟨p, m, q, rfl⟩ := hLv.form
  obtain ⟨pa, pc, rfl⟩ := hN.form
  obtain ⟨aC, cC, rfl, _⟩ := hC
  obtain ⟨aL, cL, rfl, _⟩ := hL
  obtain ⟨aB, cB, rfl, _⟩ := hB
  obtain ⟨aR, cR, rfl, _⟩ := hR
  clear hLv hN hFC hFL hFB hFR hnC hnL hnB hnR hp hz hf hpl hs hE
  generalize typeS C L h a pl = K at HT HRT
  generalize sceneS C L B R = Z at HS HRS
  obtain ⟨K1, K2⟩ := K
  simp only at HT HRT
  have HBX : Hid (Bx w [.int .i64 h.k, .int .i64 h.o, .string h.nm, .int .i64 h.vk, .int .i64 h.vn, .string h.vs, .slice p m q, .slice xa a.len c] [.slice aC C.length cC, .slice aL L.length cL, .slice aB B.length cB, .slice aR R.length cR] ((w.alloc (.cells #[.int .i64 h.k, .int .i64 h.o, .string h.nm, .int .i64 h.vk, .int .i64 h.vn, .string h.vs, .slice p m q, .slice xa a.len c] 27)).alloc (.cells #[.slice aC C.length cC, .slice aL L.length cL, .slice aB B.length cB, .slice aR R.length cR] 33))) := Bx.start _ _ _ _ _
  have CS : ∀ W, LawB w [.int .i64 h.k, .int .i64 h.o, .string h.nm, .int .i64 h.vk, .int .i64 h.vn, .string h.vs, .slice p m q, .slice xa a.len c] [.slice aC C.length cC, .slice aL L.length cL, .slice aB B.length cB, .slice aR R.length cR] (.slice aC C.length cC) (.slice aL L.length cL) (.slice aB B.length cB) (.slice aR R.length cR) W → Calls Tryd.prog 6 #[.agg #[.slice aC C.length cC, .slice aL L.length cL, .slice aB B.length cB, .slice aR R.length cR]] W fun e w' => e = .returned (.int .i64 Z) ∧ LawB w [.int .i64 h.k, .int .i64 h.o, .string h.nm, .int .i64 h.vk, .int .i64 h.vn, .string h.vs, .slice p m q, .slice xa a.len c] [.slice aC C.length cC, .slice aL L.length cL, .slice aB B.length cB, .slice aR R.length cR] (.slice aC C.length cC) (.slice aL L.length cL) (.slice aB B.length cB) (.slice aR R.length cR) w' :=
    fun W hW => (HS.out W hW.bx.bel).mono fun e w' ⟨he, hb⟩ => ⟨he, LawB.of (hW.bx.keep hb)⟩
  have RCS : ∀ W, LawB w [.int .i64 h.k, .int .i64 h.o, .string h.nm, .int .i64 h.vk, .int .i64 h.vn, .string h.vs, .slice p m q, .slice xa a.len c] [.slice aC C.length cC, .slice aL L.length cL, .slice aB B.length cB, .slice aR R.length cR] (.slice aC C.length cC) (.slice aL L.length cL) (.slice aB B.length cB) (.slice aR R.length cR) W → Calls Tryd.prog 7 #[.agg #[.slice aC C.length cC, .slice aL L.length cL, .slice aB B.length cB, .slice aR R.length cR]] W fun e w' => e = .returned (.int .i64 Z) ∧ LawB w [.int .i64 h.k, .int .i64 h.o, .string h.nm, .int .i64 h.vk, .int .i64 h.vn, .string h.vs, .slice p m q, .slice xa a.len c] [.slice aC C.length cC, .slice aL L.length cL, .slice aB B.length cB, .slice aR R.length cR] (.slice aC C.length cC) (.slice aL L.length cL) (.slice aB B.length cB) (.slice aR R.length cR) w' :=
    fun W hW => (HRS.out W hW.bx.bel).mono fun e w' ⟨he, hb⟩ => ⟨he, LawB.of (hW.bx.keep hb)⟩
  have HCS := Lib.hid CS
  have HRCS := Lib.hid RCS
  clear CS RCS HS HRS
  go_enter Tryd.func3, Tryd.ntmps3
  go_wp2_with fail
  generalize ((w.alloc (.cells #[.int .i64 h.k, .int .i64 h.o, .string h.nm, .int .i64 h.vk, .int .i64 h.vn, .string h.vs, .slice p m q, .slice xa a.len c] 27)).alloc (.cells #[.slice aC C.length cC, .slice aL L.length cL, .slice aB B.length cB, .slice aR R.length cR] 33)) = W1 at HBX ⊢
  have y0 := HBX.out.s 0
  have y1 := HBX.out.s 1
  have y2 := HBX.out.s 2
  have y3 := HBX.out.s 3
  have y4 := HBX.out.s 4
  have y5 := HBX.out.s 5
  have y6 := HBX.out.s 6
  have y7 := HBX.out.s 7
  have e0 := HBX.out.e 0
  have e1 := HBX.out.e 1
  simp only [List.getElem?_cons_zero, List.getElem?_cons_succ] at y0 y1 y2 y3 y4 y5 y6 y7 e0 e1
  go_wp2_with fail
  refine (HT.out _ HBX.out.bel).mono ?_
  rintro e w2 ⟨rfl, hB⟩
  have HB2 := Lib.hid (HBX.out.keep hB)
  clear hB HBX y0 y1 y2 y3 y4 y5 y6 y7 e0 e1
  have y0 := HB2.out.s 0
  have y1 := HB2.out.s 1
  have y2 := HB2.out.s 2
  have y3 := HB2.out.s 3
  have y4 := HB2.out.s 4
  have y5 := HB2.out.s 5
  have y6 := HB2.out.s 6
  have y7 := HB2.out.s 7
  have e0 := HB2.out.e 0
  have e1 := HB2.out.e 1
  simp only [List.getElem?_cons_zero, List.getElem?_cons_succ] at y0 y1 y2 y3 y4 y5 y6 y7 e0 e1
  go_wp2_with fail
  refine (HRT.out _ HB2.out.bel).mono ?_
  rintro e w3 ⟨rfl, hB⟩
  have HB3 := Lib.hid (HB2.out.keep hB)
  clear hB HB2 y0 y1 y2 y3 y4 y5 y6 y7 e0 e1
  have hLB := LawB.of HB3.out
  clear HB3 HT HRT
  have t1 : (K1 == K1) = true := by simp
  have t2 : (K2 == K2) = true := by simp
  have t3 : (Z == Z) = true := by simp
  go_wp2_with fail
  go_region_held3 (fun W => W.cell? ⟨w.heap.size + 1, 0, none⟩ = some (.slice aC C.length cC) ∧ W.cell? ⟨w.heap.size + 1, 1, none⟩ = some (.slice aL L.length cL) ∧ W.cell? ⟨w.heap.size + 1, 2, none⟩ = some (.slice aB B.length cB) ∧ W.cell? ⟨w.heap.size + 1, 3, none⟩ = some (.slice aR R.length cR) ∧ Hid (Bx w [.int .i64 h.k, .int .i64 h.o, .string h.nm, .int .i64 h.vk, .int .i64 h.vn, .string h.vs, .slice p m q, .slice xa a.len c] [.slice aC C.length cC, .slice aL L.length cL, .slice aB B.length cB, .slice aR R.length cR] W)) ((first | exact LawB.of (hLB.bx.keep (Below.refl _ _).drew) | assumption))
    (first | (go_at_call 6; (with_reducible refine (HCS.out _ ?_).mono ?_); assumption; rintro e w' ⟨rfl, hbx⟩) | (go_at_call 7; (with_reducible refine (HRCS.out _ ?_).mono ?_); assumption; rintro e w' ⟨rfl, hbx⟩))
  all_goals
    go_wp2
    go_ret
    exact ⟨rfl, (LawB.bx (by assumption)).bel⟩
end Go.Proofs.YtngijlmokhkdjaaDoor
