/-
  Whole numbers of any size: quotients and rests.
  Fractions of whole numbers of any size: Over.
  Fractions of whole numbers of any size: sums, products, inverses, the order.
-/
import Derived.Test.YtdkphfafcmogmaaGreatDoorMo11
namespace Go.Proofs.YtdkphfafcmogmaaGreatDoor
open Go.RowKit

theorem zv_tdiv (b1 b2 : Bool) (n1 n2 : Nat) : zv (b1 != b2) (n1 / n2) = (zv b1 n1).tdiv (zv b2 n2) := by
  cases b1 <;> cases b2 <;> simp [zv, Int.neg_tdiv, Int.tdiv_neg, Int.ofNat_tdiv]
theorem zv_tmod (b1 b2 : Bool) (n1 n2 : Nat) : zv b1 (n1 % n2) = (zv b1 n1).tmod (zv b2 n2) := by
  cases b1 <;> cases b2 <;> simp [zv, Int.neg_tmod, Int.tmod_neg, Int.ofNat_tmod] <;> exact (Int.tmod_eq_emod_of_nonneg (by omega)).symm
/-- Two boxes of arguments, and the boxes of two results. -/
structure I4 (w : World) (b1 : Bool) (a1 : Option Addr) (k1 c1 : Nat) (b2 : Bool) (a2 : Option Addr) (k2 c2 : Nat) (W : World) : Prop where
  x : B2 W w.heap.size (.bool b1) (.slice a1 k1 c1)
  y : B2 W (w.heap.size + 1) (.bool b2) (.slice a2 k2 c2)
  r : B2 W (w.heap.size + 1 + 1) (.bool false) (.slice none 0 0)
  s : B2 W (w.heap.size + 1 + 1 + 1) (.bool false) (.slice none 0 0)
  bel : Below w.heap.size w W
theorem I4.keep {w : World} {b1 : Bool} {a1 : Option Addr} {k1 c1 : Nat} {b2 : Bool} {a2 : Option Addr} {k2 c2 : Nat} {W W' : World} (h : I4 w b1 a1 k1 c1 b2 a2 k2 c2 W) (hb : Below W.heap.size W W') : I4 w b1 a1 k1 c1 b2 a2 k2 c2 W' :=
  ⟨h.x.keep hb, h.y.keep hb, h.r.keep hb, h.s.keep hb, h.bel.trans (hb.mono h.bel.size)⟩
theorem I4.made (w : World) (b1 : Bool) (a1 : Option Addr) (k1 c1 : Nat) (b2 : Bool) (a2 : Option Addr) (k2 c2 : Nat) (T1 T2 T3 T4 : TypeId) :
    I4 w b1 a1 k1 c1 b2 a2 k2 c2 ((((w.alloc (.cells #[.bool b1, .slice a1 k1 c1] T1)).alloc (.cells #[.bool b2, .slice a2 k2 c2] T2)).alloc (.cells #[.bool false, .slice none 0 0] T3)).alloc (.cells #[.bool false, .slice none 0 0] T4)) := by
  have h := I3.made w b1 a1 k1 c1 b2 a2 k2 c2 T1 T2 T3
  have s3 : (((w.alloc (.cells #[.bool b1, .slice a1 k1 c1] T1)).alloc (.cells #[.bool b2, .slice a2 k2 c2] T2)).alloc (.cells #[.bool false, .slice none 0 0] T3)).heap.size = w.heap.size + 1 + 1 + 1 := by simp
  have k := h.keep (bel_one _ (.cells #[.bool false, .slice none 0 0] T4))
  refine ⟨k.x, k.y, k.r, ?_, k.bel⟩
  rw [← s3]; exact B2.made _ _ _ T4
theorem I4.si {w : World} {b1 : Bool} {a1 : Option Addr} {k1 c1 : Nat} {b2 : Bool} {a2 : Option Addr} {k2 c2 : Nat} {W : World} (h : I4 w b1 a1 k1 c1 b2 a2 k2 c2 W) : SI w.heap.size b1 a1 k1 c1 b2 a2 k2 c2 W := ⟨h.x.c0, h.x.c1, h.y.c0, h.y.c1⟩
def DvPost (q r : Int) (w : World) (e : Ending) (w' : World) : Prop :=
  ∃ b a k c b' a' k' c', e = .returned (.tuple #[.agg #[.bool b, .slice a k c], .agg #[.bool b', .slice a' k' c']]) ∧ Zn w' b a k c q ∧ Zn w' b' a' k' c' r ∧ Below w.heap.size w w'
set_option maxRecDepth 100000 in
set_option maxHeartbeats 4000000 in
theorem Divide_c (b1 b2 : Bool) (a1 a2 : Option Addr) (k1 k2 c1 c2 : Nat) (z1 z2 : Int) (w : World) (h1 : Zn w b1 a1 k1 c1 z1) (h2 : Zn w b2 a2 k2 c2 z2) (hz : z2 ≠ 0) (n1 : z1.natAbs < bp 4000) :
    Calls Tryz.prog 57 #[.agg #[.bool b1, .slice a1 k1 c1], .agg #[.bool b2, .slice a2 k2 c2]] w (DvPost (z1.tdiv z2) (z1.tmod z2) w) := by
  obtain ⟨W0, hW0⟩ : ∃ W0, (((w.alloc (.cells #[.bool b1, .slice a1 k1 c1] 44)).alloc (.cells #[.bool b2, .slice a2 k2 c2] 44)).alloc (.cells #[.bool false, .slice none 0 0] 44)).alloc (.cells #[.bool false, .slice none 0 0] 44) = W0 := ⟨_, rfl⟩
  have J0 : Hid (I4 w b1 a1 k1 c1 b2 a2 k2 c2 W0) := by rw [← hW0]; exact I4.made _ _ _ _ _ _ _ _ _ _ _ _ _
  have HC := Lib.hid (divide_c a1 a2 k1 k2 c1 c2 _ _ W0 (h1.nm.below J0.out.bel) (h2.nm.below J0.out.bel) (by omega) n1)
  have E1 := Lib.hid h1.zv
  have E2 := Lib.hid h2.zv
  clear h1 h2 n1 hz
  have x0 := J0.out.x.c0
  have x1 := J0.out.x.c1
  have y0 := J0.out.y.c0
  have y1 := J0.out.y.c1
  go_enter Tryz.func57, Tryz.ntmps57
  go_wp2_with fail
  clear hW0
  refine HC.out.mono ?_
  rintro e w1 ⟨qa, qk, qc, ra, rk, rc, rfl, l1, l2, b1'⟩
  have J1 := Lib.hid (J0.out.keep b1')
  have L1 := Lib.hid l1
  have L2 := Lib.hid l2
  clear x0 x1 y0 y1 HC J0 l1 l2 b1'
  go_wp2_with fail
  refine wp_region_noPanic ?_
  refine wp_region_held_drew (S := SI w.heap.size b1 a1 k1 c1 b2 a2 k2 c2) (by kernel_rfl) (J1.out.keep (Below.refl _ _).drew).si (fun hS => ?_)
  have J2 := Lib.hid (J1.out.keep (Below.refl _ _).drew)
  have L1' := Lib.hid (L1.out.below (Below.refl _ _).drew)
  have L2' := Lib.hid (L2.out.below (Below.refl _ _).drew)
  clear L1 L2 J1
  refine wpAnyH_take (i := 0) (v := ?v0z29) rfl (by kernel_rfl) (by kernel_rfl) (by kernel_rfl) (fun _ _ _ h => h) (Or.inl ⟨by rfl, ?hy0z29⟩) (by assumption) ?rest0z29
  case hy0z29 =>
    intro w hSw
    dsimp only [SI] at hSw
    go_simp
    try with_reducible rfl
  simp only [Act.put, List.getElem_toArray, List.getElem_cons_succ, List.getElem_cons_zero, List.setIfInBounds_toArray, List.set_cons_zero, List.set_cons_succ]
  refine wpAnyH_take (i := 1) (v := ?v1z30) rfl (by kernel_rfl) (by kernel_rfl) (by kernel_rfl) (fun _ _ _ h => h) (Or.inl ⟨by rfl, ?hy1z30⟩) (by assumption) ?rest1z30
  case hy1z30 =>
    intro w hSw
    dsimp only [SI] at hSw
    go_simp
    try with_reducible rfl
  simp only [Act.put, List.getElem_toArray, List.getElem_cons_succ, List.getElem_cons_zero, List.setIfInBounds_toArray, List.set_cons_zero, List.set_cons_succ]
  refine wpAnyH_take (i := 2) (v := ?v2z31) rfl (by kernel_rfl) (by kernel_rfl) (by kernel_rfl) (fun _ _ _ h => h) (Or.inl ⟨by rfl, ?hy2z31⟩) (by assumption) ?rest2z31
  case hy2z31 =>
    intro w hSw
    dsimp only [SI] at hSw
    go_simp
    try with_reducible rfl
  simp only [Act.put, List.getElem_toArray, List.getElem_cons_succ, List.getElem_cons_zero, List.setIfInBounds_toArray, List.set_cons_zero, List.set_cons_succ]
  refine wpAnyH_take (i := 3) (v := ?v3z32) rfl (by kernel_rfl) (by kernel_rfl) (by kernel_rfl) (fun _ _ _ h => h) (Or.inl ⟨by rfl, ?hy3z32⟩) (by assumption) ?rest3z32
  case hy3z32 =>
    intro w hSw
    dsimp only [SI] at hSw
    go_simp
    try with_reducible rfl
  simp only [Act.put, List.getElem_toArray, List.getElem_cons_succ, List.getElem_cons_zero, List.setIfInBounds_toArray, List.set_cons_zero, List.set_cons_succ]
  refine wpAnyH_take (i := 4) (v := ?v4z33) rfl (by kernel_rfl) (by kernel_rfl) (by kernel_rfl) (fun _ _ _ h => h) (Or.inl ⟨by rfl, ?hy4z33⟩) (by assumption) ?rest4z33
  case hy4z33 =>
    intro w hSw
    dsimp only [SI] at hSw
    go_simp
    try with_reducible rfl
  simp only [Act.put, List.getElem_toArray, List.getElem_cons_succ, List.getElem_cons_zero, List.setIfInBounds_toArray, List.set_cons_zero, List.set_cons_succ]
  refine wpAnyH_take (i := 5) (v := ?v5z34) rfl (by kernel_rfl) (by kernel_rfl) (by kernel_rfl) (fun _ _ _ h => h) (Or.inl ⟨by rfl, ?hy5z34⟩) (by assumption) ?rest5z34
  case hy5z34 =>
    intro w hSw
    dsimp only [SI] at hSw
    go_simp
    try with_reducible rfl
  simp only [Act.put, List.getElem_toArray, List.getElem_cons_succ, List.getElem_cons_zero, List.setIfInBounds_toArray, List.set_cons_zero, List.set_cons_succ]
  refine wpAnyH_take (i := 7) (v := ?v7z35) rfl (by kernel_rfl) (by kernel_rfl) (by kernel_rfl) (fun _ _ _ h => h) (Or.inl ⟨by rfl, ?hy7z35⟩) (by assumption) ?rest7z35
  case hy7z35 =>
    intro w hSw
    dsimp only [SI] at hSw
    go_simp
    try with_reducible rfl
  simp only [Act.put, List.getElem_toArray, List.getElem_cons_succ, List.getElem_cons_zero, List.setIfInBounds_toArray, List.set_cons_zero, List.set_cons_succ]
  refine wpAnyH_take (i := 8) (v := ?v8z36) rfl (by kernel_rfl) (by kernel_rfl) (by kernel_rfl) (fun _ _ _ h => h) (Or.inl ⟨by rfl, ?hy8z36⟩) (by assumption) ?rest8z36
  case hy8z36 =>
    intro w hSw
    dsimp only [SI] at hSw
    go_simp
    try with_reducible rfl
  simp only [Act.put, List.getElem_toArray, List.getElem_cons_succ, List.getElem_cons_zero, List.setIfInBounds_toArray, List.set_cons_zero, List.set_cons_succ]
  refine wpAnyH_take (i := 9) (v := ?v9z37) rfl (by kernel_rfl) (by kernel_rfl) (by kernel_rfl) (fun _ _ _ h => h) (Or.inl ⟨by rfl, ?hy9z37⟩) (by assumption) ?rest9z37
  case hy9z37 =>
    intro w hSw
    dsimp only [SI] at hSw
    go_simp
    try with_reducible rfl
  simp only [Act.put, List.getElem_toArray, List.getElem_cons_succ, List.getElem_cons_zero, List.setIfInBounds_toArray, List.set_cons_zero, List.set_cons_succ]
  refine wpAnyH_ready (rs := [6]) (by kernel_rfl) (by simp) ?_
  refine AllReadyH.cons rfl (fun K hK => ?_) AllReadyH.nil
  go_simp
  refine (withSign_c (b1 != b2) qa qk qc _ _ L1'.out).mono ?_
  rintro e W3 ⟨b', rfl, hz, bc⟩
  try go_simp
  have J3 := Lib.hid (J2.out.keep bc)
  have hT := J3.out.si
  have HQ : Hid (Zn W3 b' qa qk qc (z1.tdiv z2)) := by
    rw [zv_tdiv, ← E1.out, ← E2.out] at hz
    exact hz
  have L2 := Lib.hid (L2'.out.below bc)
  refine hK.out _ _ hT (fun _ => ?_)
  clear hK K hS bc J2 hz L1' L2'
  have hS := hT
  clear hT
  try simp only [Act.put, List.setIfInBounds_toArray, List.set_cons_zero, List.set_cons_succ]
  refine wpAnyH_ready (rs := [10]) (by kernel_rfl) (by simp) ?_
  refine AllReadyH.cons rfl (fun K hK => ?_) AllReadyH.nil
  go_simp
  refine (withSign_c b1 ra rk rc _ W3 L2.out).mono ?_
  rintro e W4 ⟨b'', rfl, hz, bc⟩
  try go_simp
  have J4 := Lib.hid (J3.out.keep bc)
  have hT := J4.out.si
  have HR : Hid (Zn W4 b'' ra rk rc (z1.tmod z2)) := by
    rw [zv_tmod b1 b2, ← E1.out, ← E2.out] at hz
    exact hz
  have HQ4 := Lib.hid (HQ.out.below bc)
  refine hK.out _ _ hT (fun _ => ?_)
  clear hK K hS bc J3 hz L2 HQ
  have hS := hT
  clear hT
  try simp only [Act.put, List.setIfInBounds_toArray, List.set_cons_zero, List.set_cons_succ]
  refine wpAnyH_ready (rs := [11]) (by kernel_rfl) (by simp) ?_
  refine AllReadyH.cons rfl (fun K hK => ?_) AllReadyH.nil
  have q0 := J4.out.r.c0
  have q1 := J4.out.r.c1
  have g0 := J4.out.r.fr 0
  have g1 := J4.out.r.fr 1
  go_simp
  clear q0 q1 g0 g1
  obtain ⟨W5, hW5⟩ : ∃ W5, two W4 (w.heap.size + 1 + 1) (.bool b') (.slice qa qk qc) = W5 := ⟨_, rfl⟩
  have R5 : B2 W5 (w.heap.size + 1 + 1) (.bool b') (.slice qa qk qc) := by rw [← hW5]; exact J4.out.r.set _ _
  have S5 : B2 W5 (w.heap.size + 1 + 1 + 1) (.bool false) (.slice none 0 0) := by rw [← hW5]; exact J4.out.s.other (by omega) _ _
  have hT : SI w.heap.size b1 a1 k1 c1 b2 a2 k2 c2 W5 := by rw [← hW5]; exact ⟨(J4.out.x.other (by omega) _ _).c0, (J4.out.x.other (by omega) _ _).c1, (J4.out.y.other (by omega) _ _).c0, (J4.out.y.other (by omega) _ _).c1⟩
  have hX : B2 W5 w.heap.size (.bool b1) (.slice a1 k1 c1) := by rw [← hW5]; exact J4.out.x.other (by omega) _ _
  have hY : B2 W5 (w.heap.size + 1) (.bool b2) (.slice a2 k2 c2) := by rw [← hW5]; exact J4.out.y.other (by omega) _ _
  have HQ5 : Hid (Zn W5 b' qa qk qc (z1.tdiv z2)) := by rw [← hW5]; exact HQ4.out.set2 J4.out.r _ _
  have HR5 : Hid (Zn W5 b'' ra rk rc (z1.tmod z2)) := by rw [← hW5]; exact HR.out.set2 J4.out.r _ _
  have B5 : Hid (Below w.heap.size w W5) := by rw [← hW5]; exact below_two J4.out.bel (by omega) _ _
  unfold two at hW5
  rw [hW5]
  refine hK.out _ _ hT (fun _ => ?_)
  clear hK K hS hW5 J4 HQ4 HR
  have hS := hT
  clear hT
  try simp only [Act.put, List.setIfInBounds_toArray, List.set_cons_zero, List.set_cons_succ]
  refine wpAnyH_ready (rs := [12]) (by kernel_rfl) (by simp) ?_
  refine AllReadyH.cons rfl (fun K hK => ?_) AllReadyH.nil
  have q0 := S5.c0
  have q1 := S5.c1
  have g0 := S5.fr 0
  have g1 := S5.fr 1
  go_simp
  clear q0 q1 g0 g1
  obtain ⟨W6, hW6⟩ : ∃ W6, two W5 (w.heap.size + 1 + 1 + 1) (.bool b'') (.slice ra rk rc) = W6 := ⟨_, rfl⟩
  have R6 : B2 W6 (w.heap.size + 1 + 1) (.bool b') (.slice qa qk qc) := by rw [← hW6]; exact R5.other (by omega) _ _
  have S6 : B2 W6 (w.heap.size + 1 + 1 + 1) (.bool b'') (.slice ra rk rc) := by rw [← hW6]; exact S5.set _ _
  have hT : SI w.heap.size b1 a1 k1 c1 b2 a2 k2 c2 W6 := by rw [← hW6]; exact ⟨(hX.other (by omega) _ _).c0, (hX.other (by omega) _ _).c1, (hY.other (by omega) _ _).c0, (hY.other (by omega) _ _).c1⟩
  have PP : Hid (DvPost (z1.tdiv z2) (z1.tmod z2) w (.returned (.tuple #[.agg #[.bool b', .slice qa qk qc], .agg #[.bool b'', .slice ra rk rc]])) W6) := by
    rw [← hW6]
    exact ⟨_, _, _, _, _, _, _, _, rfl, HQ5.out.set2 S5 _ _, HR5.out.set2 S5 _ _, below_two B5.out (by omega) _ _⟩
  unfold two at hW6
  rw [hW6]
  refine hK.out _ _ hT (fun _ => ?_)
  clear hK K hS hW6 R5 S5 hX hY
  try simp only [Act.put, List.setIfInBounds_toArray, List.set_cons_zero, List.set_cons_succ]
  refine wpAnyH_done (by kernel_rfl) ?_ _
  refine NoPanic.normal ?_
  obtain ⟨r0, r1, _, _⟩ := id R6
  obtain ⟨s0, s1, _, _⟩ := id S6
  clear hT R6 S6
  go_wp2_with fail
  exact bodyPost_ret (v := .tuple #[.agg #[.bool b', .slice qa qk qc], .agg #[.bool b'', .slice ra rk rc]]) (by simp [results, Tryz.results57, go_sem, r0, r1, s0, s1]) rfl PP.out
end Go.Proofs.YtdkphfafcmogmaaGreatDoor
namespace Go.Proofs.YtdkphfafcmogmaaGreatDoor
open Go.RowKit

/-- A box of four cells. -/
structure B4 (W : World) (g : Nat) (x0 x1 x2 x3 : Value) : Prop where
  c0 : W.cell? ⟨g, 0, none⟩ = some x0
  c1 : W.cell? ⟨g, 1, none⟩ = some x1
  c2 : W.cell? ⟨g, 2, none⟩ = some x2
  c3 : W.cell? ⟨g, 3, none⟩ = some x3
  fr : ∀ o, W.frozen? ⟨g, o, none⟩ = false
  lt : g < W.heap.size
theorem B4.keep {W W' : World} {g : Nat} {x0 x1 x2 x3 : Value} (h : B4 W g x0 x1 x2 x3) (hb : Below W.heap.size W W') : B4 W' g x0 x1 x2 x3 := by
  have c := fun (o : Nat) => hb.cell (p := ⟨g, o, none⟩) h.lt
  exact ⟨(c 0).trans h.c0, (c 1).trans h.c1, (c 2).trans h.c2, (c 3).trans h.c3, fun o => (hb.frozen (p := ⟨g, o, none⟩) h.lt).trans (h.fr o), Nat.lt_of_lt_of_le h.lt hb.size⟩
theorem B4.made (W : World) (x0 x1 x2 x3 : Value) (T : TypeId) : B4 (W.alloc (.cells #[x0, x1, x2, x3] T)) W.heap.size x0 x1 x2 x3 := by
  refine ⟨?_, ?_, ?_, ?_, fun o => by simp, by simp⟩
  all_goals (rw [World.cell?_alloc_new]; rfl)
/-- All four cells are stored. -/
def four (W : World) (g : Nat) (y0 y1 y2 y3 : Value) : World := (((W.setCell ⟨g, 0, none⟩ y0).setCell ⟨g, 1, none⟩ y1).setCell ⟨g, 2, none⟩ y2).setCell ⟨g, 3, none⟩ y3
theorem four_size (W : World) (g : Nat) (y0 y1 y2 y3 : Value) : (four W g y0 y1 y2 y3).heap.size = W.heap.size := by unfold four; simp
theorem addr_ne {g : Nat} {i j : Nat} (h : i ≠ j) : (⟨g, i, none⟩ : Addr) ≠ ⟨g, j, none⟩ := fun e => by injection e with _ e2; exact h e2
theorem addr_ne' {g h : Nat} {i j : Nat} (hn : h ≠ g) : (⟨h, i, none⟩ : Addr) ≠ ⟨g, j, none⟩ := fun e => by injection e with e1 _; exact hn e1
theorem B4.set {W : World} {g : Nat} {x0 x1 x2 x3 : Value} (h : B4 W g x0 x1 x2 x3) (y0 y1 y2 y3 : Value) : B4 (four W g y0 y1 y2 y3) g y0 y1 y2 y3 := by
  unfold four
  refine ⟨?_, ?_, ?_, ?_, fun o => by simp only [World.frozen?_setCell]; exact h.fr o, by simpa using h.lt⟩
  · rw [World.cell?_setCell_other _ _ _ _ (addr_ne (by decide)), World.cell?_setCell_other _ _ _ _ (addr_ne (by decide)), World.cell?_setCell_other _ _ _ _ (addr_ne (by decide)), World.cell?_setCell_same _ _ _ h.c0]
  · rw [World.cell?_setCell_other _ _ _ _ (addr_ne (by decide)), World.cell?_setCell_other _ _ _ _ (addr_ne (by decide)), World.cell?_setCell_same _ _ _ (u := x1) (by rw [World.cell?_setCell_other _ _ _ _ (addr_ne (by decide))]; exact h.c1)]
  · rw [World.cell?_setCell_other _ _ _ _ (addr_ne (by decide)), World.cell?_setCell_same _ _ _ (u := x2) (by rw [World.cell?_setCell_other _ _ _ _ (addr_ne (by decide)), World.cell?_setCell_other _ _ _ _ (addr_ne (by decide))]; exact h.c2)]
  · rw [World.cell?_setCell_same _ _ _ (u := x3) (by rw [World.cell?_setCell_other _ _ _ _ (addr_ne (by decide)), World.cell?_setCell_other _ _ _ _ (addr_ne (by decide)), World.cell?_setCell_other _ _ _ _ (addr_ne (by decide))]; exact h.c3)]
theorem four_cell {W : World} {g h : Nat} (hne : h ≠ g) (y0 y1 y2 y3 : Value) (o : Nat) : (four W h y0 y1 y2 y3).cell? ⟨g, o, none⟩ = W.cell? ⟨g, o, none⟩ := by
  unfold four
  rw [World.cell?_setCell_other _ _ _ _ (addr_ne' hne), World.cell?_setCell_other _ _ _ _ (addr_ne' hne), World.cell?_setCell_other _ _ _ _ (addr_ne' hne), World.cell?_setCell_other _ _ _ _ (addr_ne' hne)]
theorem two_cell {W : World} {g h : Nat} (hne : h ≠ g) (y0 y1 : Value) (o : Nat) : (two W h y0 y1).cell? ⟨g, o, none⟩ = W.cell? ⟨g, o, none⟩ := by
  unfold two
  rw [World.cell?_setCell_other _ _ _ _ (addr_ne' hne), World.cell?_setCell_other _ _ _ _ (addr_ne' hne)]
theorem B4.other2 {W : World} {g h : Nat} {x0 x1 x2 x3 : Value} (hb : B4 W g x0 x1 x2 x3) (hne : h ≠ g) (y0 y1 : Value) : B4 (two W h y0 y1) g x0 x1 x2 x3 :=
  ⟨(two_cell hne _ _ 0).trans hb.c0, (two_cell hne _ _ 1).trans hb.c1, (two_cell hne _ _ 2).trans hb.c2, (two_cell hne _ _ 3).trans hb.c3, fun o => by unfold two; simp only [World.frozen?_setCell]; exact hb.fr o, by rw [two_size]; exact hb.lt⟩
theorem B4.other {W : World} {g h : Nat} {x0 x1 x2 x3 : Value} (hb : B4 W g x0 x1 x2 x3) (hne : h ≠ g) (y0 y1 y2 y3 : Value) : B4 (four W h y0 y1 y2 y3) g x0 x1 x2 x3 :=
  ⟨(four_cell hne _ _ _ _ 0).trans hb.c0, (four_cell hne _ _ _ _ 1).trans hb.c1, (four_cell hne _ _ _ _ 2).trans hb.c2, (four_cell hne _ _ _ _ 3).trans hb.c3, fun o => by unfold four; simp only [World.frozen?_setCell]; exact hb.fr o, by rw [four_size]; exact hb.lt⟩
theorem below_four {W0 W : World} {g : Nat} (h : Below W0.heap.size W0 W) (hg : W0.heap.size ≤ g) (y0 y1 y2 y3 : Value) : Below W0.heap.size W0 (four W g y0 y1 y2 y3) :=
  (((h.setCell (p := ⟨g, 0, none⟩) hg y0).setCell (p := ⟨g, 1, none⟩) hg y1).setCell (p := ⟨g, 2, none⟩) hg y2).setCell (p := ⟨g, 3, none⟩) hg y3
/-- No limb lies in this box. -/
def NL (u : Value) : Prop := ∀ m, u ≠ .int .u64 m
theorem NL.b (s : Bool) : NL (.bool s) := fun m e => by cases e
theorem NL.s (a : Option Addr) (k c : Nat) : NL (.slice a k c) := fun m e => by cases e
theorem Zn.set4 {W : World} {b : Bool} {a : Option Addr} {k c : Nat} {z : Int} (h : Zn W b a k c z) {g : Nat} {x0 x1 x2 x3 : Value} (hb : B4 W g x0 x1 x2 x3) (l0 : NL x0) (l1 : NL x1) (l2 : NL x2) (l3 : NL x3) (y0 y1 y2 y3 : Value) : Zn (four W g y0 y1 y2 y3) b a k c z := by
  obtain ⟨n, h1, h2⟩ := h
  refine ⟨n, ?_, h2⟩
  unfold four
  refine (((h1.set hb.c0 l0 y0).set (u := x1) ?_ l1 y1).set (u := x2) ?_ l2 y2).set (u := x3) ?_ l3 y3
  · rw [World.cell?_setCell_other _ _ _ _ (addr_ne (by decide))]; exact hb.c1
  · rw [World.cell?_setCell_other _ _ _ _ (addr_ne (by decide)), World.cell?_setCell_other _ _ _ _ (addr_ne (by decide))]; exact hb.c2
  · rw [World.cell?_setCell_other _ _ _ _ (addr_ne (by decide)), World.cell?_setCell_other _ _ _ _ (addr_ne (by decide)), World.cell?_setCell_other _ _ _ _ (addr_ne (by decide))]; exact hb.c3
def FrPost (n d : Int) (w : World) (e : Ending) (w' : World) : Prop :=
  ∃ b a k c b' a' k' c', e = .returned (.agg #[.bool b, .slice a k c, .bool b', .slice a' k' c']) ∧ Zn w' b a k c n ∧ Zn w' b' a' k' c' d ∧ Below w.heap.size w w'
/-- The arguments' boxes of Over, its result's, and the divisor's. -/
structure Ov (w : World) (gd : Nat) (b1 : Bool) (a1 : Option Addr) (k1 c1 : Nat) (b2 : Bool) (a2 : Option Addr) (k2 c2 : Nat) (b3 : Bool) (a3 : Option Addr) (k3 c3 : Nat) (W : World) : Prop where
  x : B2 W w.heap.size (.bool b1) (.slice a1 k1 c1)
  y : B2 W (w.heap.size + 1) (.bool b2) (.slice a2 k2 c2)
  r : B4 W (w.heap.size + 1 + 1) (.bool false) (.slice none 0 0) (.bool false) (.slice none 0 0)
  d : B2 W gd (.bool b3) (.slice a3 k3 c3)
  hd : w.heap.size + 1 + 1 < gd
  bel : Below w.heap.size w W
theorem Ov.keep {w : World} {gd : Nat} {b1 : Bool} {a1 : Option Addr} {k1 c1 : Nat} {b2 : Bool} {a2 : Option Addr} {k2 c2 : Nat} {b3 : Bool} {a3 : Option Addr} {k3 c3 : Nat} {W W' : World} (h : Ov w gd b1 a1 k1 c1 b2 a2 k2 c2 b3 a3 k3 c3 W) (hb : Below W.heap.size W W') :
    Ov w gd b1 a1 k1 c1 b2 a2 k2 c2 b3 a3 k3 c3 W' := ⟨h.x.keep hb, h.y.keep hb, h.r.keep hb, h.d.keep hb, h.hd, h.bel.trans (hb.mono h.bel.size)⟩
theorem Ov.setD {w : World} {gd : Nat} {b1 : Bool} {a1 : Option Addr} {k1 c1 : Nat} {b2 : Bool} {a2 : Option Addr} {k2 c2 : Nat} {b3 : Bool} {a3 : Option Addr} {k3 c3 : Nat} {W : World} (h : Ov w gd b1 a1 k1 c1 b2 a2 k2 c2 b3 a3 k3 c3 W) (b : Bool) (a : Option Addr) (k c : Nat) :
    Ov w gd b1 a1 k1 c1 b2 a2 k2 c2 b a k c (two W gd (.bool b) (.slice a k c)) :=
  have hd := h.hd
  ⟨h.x.other (by omega) _ _, h.y.other (by omega) _ _, h.r.other2 (by omega) _ _, h.d.set _ _, h.hd, below_two h.bel (by omega) _ _⟩
theorem Ov.setX {w : World} {gd : Nat} {b1 : Bool} {a1 : Option Addr} {k1 c1 : Nat} {b2 : Bool} {a2 : Option Addr} {k2 c2 : Nat} {b3 : Bool} {a3 : Option Addr} {k3 c3 : Nat} {W : World} (h : Ov w gd b1 a1 k1 c1 b2 a2 k2 c2 b3 a3 k3 c3 W) (b : Bool) (a : Option Addr) (k c : Nat) :
    Ov w gd b a k c b2 a2 k2 c2 b3 a3 k3 c3 (two W w.heap.size (.bool b) (.slice a k c)) :=
  have hd := h.hd
  ⟨h.x.set _ _, h.y.other (by omega) _ _, h.r.other2 (by omega) _ _, h.d.other (by omega) _ _, h.hd, below_two h.bel (by omega) _ _⟩
theorem Ov.setY {w : World} {gd : Nat} {b1 : Bool} {a1 : Option Addr} {k1 c1 : Nat} {b2 : Bool} {a2 : Option Addr} {k2 c2 : Nat} {b3 : Bool} {a3 : Option Addr} {k3 c3 : Nat} {W : World} (h : Ov w gd b1 a1 k1 c1 b2 a2 k2 c2 b3 a3 k3 c3 W) (b : Bool) (a : Option Addr) (k c : Nat) :
    Ov w gd b1 a1 k1 c1 b a k c b3 a3 k3 c3 (two W (w.heap.size + 1) (.bool b) (.slice a k c)) :=
  have hd := h.hd
  ⟨h.x.other (by omega) _ _, h.y.set _ _, h.r.other2 (by omega) _ _, h.d.other (by omega) _ _, h.hd, below_two h.bel (by omega) _ _⟩
/-- The divisor of Over: the greatest common divisor, with the denominator's sign. -/
def ovG (n d : Int) : Int := if d < 0 then -(Int.gcd n d : Int) else Int.gcd n d
theorem ovG_abs (n d : Int) : (ovG n d).natAbs = Int.gcd n d := by unfold ovG; split <;> omega
theorem ovG_ne {n d : Int} (h : d ≠ 0) : ovG n d ≠ 0 := by
  have : 0 < Int.gcd n d := Int.gcd_pos_of_ne_zero_right n h
  intro e
  have := ovG_abs n d
  rw [e] at this
  simp at this
  omega
set_option maxRecDepth 100000 in
set_option maxHeartbeats 4000000 in
theorem Over_pos (b1 : Bool) (a1 a2 : Option Addr) (k1 k2 c1 c2 : Nat) (z1 z2 : Int) (w : World) (h1 : Zn w b1 a1 k1 c1 z1) (h2 : Zn w false a2 k2 c2 z2) (hz : z2 ≠ 0) (n1 : z1.natAbs < bp 2000) (n2 : z2.natAbs < bp 2000) :
    Calls Tryz.prog 24 #[.agg #[.bool b1, .slice a1 k1 c1], .agg #[.bool false, .slice a2 k2 c2]] w (FrPost (z1.tdiv (ovG z1 z2)) (z2.tdiv (ovG z1 z2)) w) := by
  obtain ⟨W0, hW0⟩ : ∃ W0, ((w.alloc (.cells #[.bool b1, .slice a1 k1 c1] 44)).alloc (.cells #[.bool false, .slice a2 k2 c2] 44)).alloc (.cells #[.bool false, .slice none 0 0, .bool false, .slice none 0 0] 46) = W0 := ⟨_, rfl⟩
  have h3 := I3.made w b1 a1 k1 c1 false a2 k2 c2 44 44 44
  have s2 : ((w.alloc (.cells #[.bool b1, .slice a1 k1 c1] 44)).alloc (.cells #[.bool false, .slice a2 k2 c2] 44)).heap.size = w.heap.size + 1 + 1 := by simp
  have X0 : B2 W0 w.heap.size (.bool b1) (.slice a1 k1 c1) := by rw [← hW0]; exact ((B2.made w _ _ _).keep (bel_one _ _)).keep (bel_one _ _)
  have Y0 : B2 W0 (w.heap.size + 1) (.bool false) (.slice a2 k2 c2) := by
    have s1 : (w.alloc (.cells #[.bool b1, .slice a1 k1 c1] 44)).heap.size = w.heap.size + 1 := by simp
    rw [← hW0, ← s1]; exact (B2.made _ _ _ _).keep (bel_one _ _)
  have R0 : B4 W0 (w.heap.size + 1 + 1) (.bool false) (.slice none 0 0) (.bool false) (.slice none 0 0) := by rw [← hW0, ← s2]; exact B4.made _ _ _ _ _ _
  have B0 : Below w.heap.size w W0 := by rw [← hW0]; exact (((Below.refl _ _).alloc (Nat.le_refl _) _).alloc (by simp) _).alloc (by simp; omega) _
  have S0 : Hid (w.heap.size + 1 + 1 < W0.heap.size) := by rw [← hW0]; simp [Hid]
  have HB0 := Lib.hid B0
  have HX0 := Lib.hid X0
  have HY0 := Lib.hid Y0
  have HR0 := Lib.hid R0
  have HC := Lib.hid (Common_c b1 false a1 a2 k1 k2 c1 c2 z1 z2 W0 (h1.below B0) (h2.below B0) n1 n2)
  have Z1 := Lib.hid (h1.below B0)
  have Z2 := Lib.hid (h2.below B0)
  have SG := Lib.hid h2.sign
  have N1 := Lib.hid (Nat.lt_of_lt_of_le n1 (bp_mono (show 2000 ≤ 4000 by decide)))
  have N2 := Lib.hid (Nat.lt_of_lt_of_le n2 (bp_mono (show 2000 ≤ 4000 by decide)))
  have HNE := Lib.hid (ovG_ne (n := z1) hz)
  have x0 := X0.c0
  have x1 := X0.c1
  have y0 := Y0.c0
  have y1 := Y0.c1
  clear h1 h2 h3 s2 hz n1 n2 X0 Y0 R0 B0
  go_enter Tryz.func24, Tryz.ntmps24
  go_wp2_with fail
  clear hW0
  clear x0 x1 y0 y1
  refine HC.out.mono ?_
  rintro e w1 ⟨gb, ga, gk, gc, rfl, hg, b1'⟩
  have HG1 := Lib.hid hg
  have BB1 := Lib.hid b1'
  clear hg b1' HC
  obtain ⟨W2, hW2⟩ : ∃ W2, w1.alloc (.cells #[.bool false, .slice none 0 0] 44) = W2 := ⟨_, rfl⟩
  have D2 : B2 W2 w1.heap.size (.bool false) (.slice none 0 0) := by rw [← hW2]; exact B2.made _ _ _ _
  have B2' : Below w1.heap.size w1 W2 := by rw [← hW2]; exact bel_one _ _
  have hb02 : Below W0.heap.size W0 W2 := BB1.out.trans (B2'.mono BB1.out.size)
  have O2 : Ov w w1.heap.size b1 a1 k1 c1 false a2 k2 c2 false none 0 0 W2 := ⟨HX0.out.keep hb02, HY0.out.keep hb02, HR0.out.keep hb02, D2, Nat.lt_of_lt_of_le S0.out BB1.out.size, HB0.out.trans (hb02.mono HB0.out.size)⟩
  obtain ⟨gd, hgd⟩ : ∃ gd, w1.heap.size = gd := ⟨_, rfl⟩
  rw [hgd] at D2 O2
  obtain ⟨W3, hW3⟩ : ∃ W3, two W2 gd (.bool gb) (.slice ga gk gc) = W3 := ⟨_, rfl⟩
  have O3 : Hid (Ov w gd b1 a1 k1 c1 false a2 k2 c2 gb ga gk gc W3) := by rw [← hW3]; exact O2.setD _ _ _ _
  have Z13 : Hid (Zn W3 b1 a1 k1 c1 z1) := by rw [← hW3]; exact (Z1.out.below hb02).set2 D2 _ _
  have Z23 : Hid (Zn W3 false a2 k2 c2 z2) := by rw [← hW3]; exact (Z2.out.below hb02).set2 D2 _ _
  have G3 : Hid (Zn W3 gb ga gk gc (Int.gcd z1 z2)) := by rw [← hW3]; exact (HG1.out.below B2').set2 D2 _ _
  have d0 := D2.c0
  have d1 := D2.c1
  have f0 := D2.fr 0
  have f1 := D2.fr 1
  clear D2 B2' hb02 O2 HX0 HY0 HR0 S0 HB0 Z1 Z2 HG1 BB1
  have xc0W3 := O3.out.x.c0
  have xc1W3 := O3.out.x.c1
  have xf0W3 := O3.out.x.fr 0
  have xf1W3 := O3.out.x.fr 1
  have yc0W3 := O3.out.y.c0
  have yc1W3 := O3.out.y.c1
  have yf0W3 := O3.out.y.fr 0
  have yf1W3 := O3.out.y.fr 1
  have dc0W3 := O3.out.d.c0
  have dc1W3 := O3.out.d.c1
  have df0W3 := O3.out.d.fr 0
  have df1W3 := O3.out.d.fr 1
  unfold two at hW3
  go_wp2_with fail
  clear hW3 hW2 d0 d1 f0 f1
  clear xc0W3 xc1W3 xf0W3 xf1W3 yc0W3 yc1W3 yf0W3 yf1W3 dc0W3 dc1W3 df0W3 df1W3
  clear hgd
  have G5 : Hid (Zn W3 gb ga gk gc (ovG z1 z2)) := by
    have e : ovG z1 z2 = (Int.gcd z1 z2 : Int) := by
      have := SG.out
      unfold ovG
      rw [if_neg (by simpa using this.symm)]
    rw [e]
    exact G3.out
  clear G3
  refine (Divide_c b1 gb a1 ga k1 gk c1 gc _ _ W3 Z13.out G5.out HNE.out N1.out).mono ?_
  rintro e w6 ⟨qb, qa, qk, qc, rb, ra, rk, rc, rfl, hq, _, b6⟩
  have O6 := Lib.hid (O3.out.keep b6)
  have Z26 := Lib.hid (Z23.out.below b6)
  have G6 := Lib.hid (G5.out.below b6)
  have Q6 := Lib.hid hq
  clear hq b6 O3 Z13 Z23 G5
  obtain ⟨W7, hW7⟩ : ∃ W7, two w6 w.heap.size (.bool qb) (.slice qa qk qc) = W7 := ⟨_, rfl⟩
  have O7 : Hid (Ov w gd qb qa qk qc false a2 k2 c2 gb ga gk gc W7) := by rw [← hW7]; exact O6.out.setX _ _ _ _
  have Z27 : Hid (Zn W7 false a2 k2 c2 z2) := by rw [← hW7]; exact Z26.out.set2 O6.out.x _ _
  have G7 : Hid (Zn W7 gb ga gk gc (ovG z1 z2)) := by rw [← hW7]; exact G6.out.set2 O6.out.x _ _
  have Q7 : Hid (Zn W7 qb qa qk qc (z1.tdiv (ovG z1 z2))) := by rw [← hW7]; exact Q6.out.set2 O6.out.x _ _
  have xc0w6 := O6.out.x.c0
  have xc1w6 := O6.out.x.c1
  have xf0w6 := O6.out.x.fr 0
  have xf1w6 := O6.out.x.fr 1
  have xc0W7 := O7.out.x.c0
  have xc1W7 := O7.out.x.c1
  have xf0W7 := O7.out.x.fr 0
  have xf1W7 := O7.out.x.fr 1
  have yc0W7 := O7.out.y.c0
  have yc1W7 := O7.out.y.c1
  have yf0W7 := O7.out.y.fr 0
  have yf1W7 := O7.out.y.fr 1
  have dc0W7 := O7.out.d.c0
  have dc1W7 := O7.out.d.c1
  have df0W7 := O7.out.d.fr 0
  have df1W7 := O7.out.d.fr 1
  clear O6 Z26 G6 Q6
  unfold two at hW7
  go_wp2_with fail
  clear hW7
  clear xc0w6 xc1w6 xf0w6 xf1w6
  clear xc0W7 xc1W7 xf0W7 xf1W7 yc0W7 yc1W7 yf0W7 yf1W7 dc0W7 dc1W7 df0W7 df1W7
  refine (Divide_c false gb a2 ga k2 gk c2 gc _ _ W7 Z27.out G7.out HNE.out N2.out).mono ?_
  rintro e w8 ⟨pb, pa, pk, pc, sb, sa, sk, sc, rfl, hp, _, b8⟩
  have O8 := Lib.hid (O7.out.keep b8)
  have Q8 := Lib.hid (Q7.out.below b8)
  have P8 := Lib.hid hp
  clear hp b8 O7 Z27 G7 Q7
  obtain ⟨W9, hW9⟩ : ∃ W9, two w8 (w.heap.size + 1) (.bool pb) (.slice pa pk pc) = W9 := ⟨_, rfl⟩
  have O9 : Hid (Ov w gd qb qa qk qc pb pa pk pc gb ga gk gc W9) := by rw [← hW9]; exact O8.out.setY _ _ _ _
  have Q9 : Hid (Zn W9 qb qa qk qc (z1.tdiv (ovG z1 z2))) := by rw [← hW9]; exact Q8.out.set2 O8.out.y _ _
  have P9 : Hid (Zn W9 pb pa pk pc (z2.tdiv (ovG z1 z2))) := by rw [← hW9]; exact P8.out.set2 O8.out.y _ _
  have yc0w8 := O8.out.y.c0
  have yc1w8 := O8.out.y.c1
  have yf0w8 := O8.out.y.fr 0
  have yf1w8 := O8.out.y.fr 1
  have xc0W9 := O9.out.x.c0
  have xc1W9 := O9.out.x.c1
  have xf0W9 := O9.out.x.fr 0
  have xf1W9 := O9.out.x.fr 1
  have yc0W9 := O9.out.y.c0
  have yc1W9 := O9.out.y.c1
  have yf0W9 := O9.out.y.fr 0
  have yf1W9 := O9.out.y.fr 1
  obtain ⟨WX, hWX⟩ : ∃ WX, four W9 (w.heap.size + 1 + 1) (.bool qb) (.slice qa qk qc) (.bool pb) (.slice pa pk pc) = WX := ⟨_, rfl⟩
  have RX : B4 WX (w.heap.size + 1 + 1) (.bool qb) (.slice qa qk qc) (.bool pb) (.slice pa pk pc) := by rw [← hWX]; exact O9.out.r.set _ _ _ _
  have PP : Hid (FrPost (z1.tdiv (ovG z1 z2)) (z2.tdiv (ovG z1 z2)) w (.returned (.agg #[.bool qb, .slice qa qk qc, .bool pb, .slice pa pk pc])) WX) := by
    rw [← hWX]
    exact ⟨_, _, _, _, _, _, _, _, rfl, Q9.out.set4 O9.out.r (NL.b _) (NL.s _ _ _) (NL.b _) (NL.s _ _ _) _ _ _ _, P9.out.set4 O9.out.r (NL.b _) (NL.s _ _ _) (NL.b _) (NL.s _ _ _) _ _ _ _, below_four O9.out.bel (by omega) _ _ _ _⟩
  have r0 := O9.out.r.c0
  have r1 := O9.out.r.c1
  have r2 := O9.out.r.c2
  have r3 := O9.out.r.c3
  have rf0 := O9.out.r.fr 0
  have rf1 := O9.out.r.fr 1
  have rf2 := O9.out.r.fr 2
  have rf3 := O9.out.r.fr 3
  obtain ⟨t0, t1, t2, t3, _, _⟩ := id RX
  clear O8 O9 Q8 P8 Q9 P9 RX
  unfold two at hW9
  unfold four at hWX
  go_wp2_with fail
  exact bodyPost_ret (v := .agg #[.bool qb, .slice qa qk qc, .bool pb, .slice pa pk pc]) (by simp [results, Tryz.results24, go_sem, t0, t1, t2, t3]) rfl PP.out
set_option maxRecDepth 100000 in
set_option maxHeartbeats 4000000 in
theorem Over_neg (b1 : Bool) (a1 a2 : Option Addr) (k1 k2 c1 c2 : Nat) (z1 z2 : Int) (w : World) (h1 : Zn w b1 a1 k1 c1 z1) (h2 : Zn w true a2 k2 c2 z2) (hz : z2 ≠ 0) (n1 : z1.natAbs < bp 2000) (n2 : z2.natAbs < bp 2000) :
    Calls Tryz.prog 24 #[.agg #[.bool b1, .slice a1 k1 c1], .agg #[.bool true, .slice a2 k2 c2]] w (FrPost (z1.tdiv (ovG z1 z2)) (z2.tdiv (ovG z1 z2)) w) := by
  obtain ⟨W0, hW0⟩ : ∃ W0, ((w.alloc (.cells #[.bool b1, .slice a1 k1 c1] 44)).alloc (.cells #[.bool true, .slice a2 k2 c2] 44)).alloc (.cells #[.bool false, .slice none 0 0, .bool false, .slice none 0 0] 46) = W0 := ⟨_, rfl⟩
  have h3 := I3.made w b1 a1 k1 c1 true a2 k2 c2 44 44 44
  have s2 : ((w.alloc (.cells #[.bool b1, .slice a1 k1 c1] 44)).alloc (.cells #[.bool true, .slice a2 k2 c2] 44)).heap.size = w.heap.size + 1 + 1 := by simp
  have X0 : B2 W0 w.heap.size (.bool b1) (.slice a1 k1 c1) := by rw [← hW0]; exact ((B2.made w _ _ _).keep (bel_one _ _)).keep (bel_one _ _)
  have Y0 : B2 W0 (w.heap.size + 1) (.bool true) (.slice a2 k2 c2) := by
    have s1 : (w.alloc (.cells #[.bool b1, .slice a1 k1 c1] 44)).heap.size = w.heap.size + 1 := by simp
    rw [← hW0, ← s1]; exact (B2.made _ _ _ _).keep (bel_one _ _)
  have R0 : B4 W0 (w.heap.size + 1 + 1) (.bool false) (.slice none 0 0) (.bool false) (.slice none 0 0) := by rw [← hW0, ← s2]; exact B4.made _ _ _ _ _ _
  have B0 : Below w.heap.size w W0 := by rw [← hW0]; exact (((Below.refl _ _).alloc (Nat.le_refl _) _).alloc (by simp) _).alloc (by simp; omega) _
  have S0 : Hid (w.heap.size + 1 + 1 < W0.heap.size) := by rw [← hW0]; simp [Hid]
  have HB0 := Lib.hid B0
  have HX0 := Lib.hid X0
  have HY0 := Lib.hid Y0
  have HR0 := Lib.hid R0
  have HC := Lib.hid (Common_c b1 true a1 a2 k1 k2 c1 c2 z1 z2 W0 (h1.below B0) (h2.below B0) n1 n2)
  have Z1 := Lib.hid (h1.below B0)
  have Z2 := Lib.hid (h2.below B0)
  have SG := Lib.hid h2.sign
  have N1 := Lib.hid (Nat.lt_of_lt_of_le n1 (bp_mono (show 2000 ≤ 4000 by decide)))
  have N2 := Lib.hid (Nat.lt_of_lt_of_le n2 (bp_mono (show 2000 ≤ 4000 by decide)))
  have HNE := Lib.hid (ovG_ne (n := z1) hz)
  have x0 := X0.c0
  have x1 := X0.c1
  have y0 := Y0.c0
  have y1 := Y0.c1
  clear h1 h2 h3 s2 hz n1 n2 X0 Y0 R0 B0
  go_enter Tryz.func24, Tryz.ntmps24
  go_wp2_with fail
  clear hW0
  clear x0 x1 y0 y1
  refine HC.out.mono ?_
  rintro e w1 ⟨gb, ga, gk, gc, rfl, hg, b1'⟩
  have HG1 := Lib.hid hg
  have BB1 := Lib.hid b1'
  clear hg b1' HC
  obtain ⟨W2, hW2⟩ : ∃ W2, w1.alloc (.cells #[.bool false, .slice none 0 0] 44) = W2 := ⟨_, rfl⟩
  have D2 : B2 W2 w1.heap.size (.bool false) (.slice none 0 0) := by rw [← hW2]; exact B2.made _ _ _ _
  have B2' : Below w1.heap.size w1 W2 := by rw [← hW2]; exact bel_one _ _
  have hb02 : Below W0.heap.size W0 W2 := BB1.out.trans (B2'.mono BB1.out.size)
  have O2 : Ov w w1.heap.size b1 a1 k1 c1 true a2 k2 c2 false none 0 0 W2 := ⟨HX0.out.keep hb02, HY0.out.keep hb02, HR0.out.keep hb02, D2, Nat.lt_of_lt_of_le S0.out BB1.out.size, HB0.out.trans (hb02.mono HB0.out.size)⟩
  obtain ⟨gd, hgd⟩ : ∃ gd, w1.heap.size = gd := ⟨_, rfl⟩
  rw [hgd] at D2 O2
  obtain ⟨W3, hW3⟩ : ∃ W3, two W2 gd (.bool gb) (.slice ga gk gc) = W3 := ⟨_, rfl⟩
  have O3 : Hid (Ov w gd b1 a1 k1 c1 true a2 k2 c2 gb ga gk gc W3) := by rw [← hW3]; exact O2.setD _ _ _ _
  have Z13 : Hid (Zn W3 b1 a1 k1 c1 z1) := by rw [← hW3]; exact (Z1.out.below hb02).set2 D2 _ _
  have Z23 : Hid (Zn W3 true a2 k2 c2 z2) := by rw [← hW3]; exact (Z2.out.below hb02).set2 D2 _ _
  have G3 : Hid (Zn W3 gb ga gk gc (Int.gcd z1 z2)) := by rw [← hW3]; exact (HG1.out.below B2').set2 D2 _ _
  have d0 := D2.c0
  have d1 := D2.c1
  have f0 := D2.fr 0
  have f1 := D2.fr 1
  clear D2 B2' hb02 O2 HX0 HY0 HR0 S0 HB0 Z1 Z2 HG1 BB1
  have xc0W3 := O3.out.x.c0
  have xc1W3 := O3.out.x.c1
  have xf0W3 := O3.out.x.fr 0
  have xf1W3 := O3.out.x.fr 1
  have yc0W3 := O3.out.y.c0
  have yc1W3 := O3.out.y.c1
  have yf0W3 := O3.out.y.fr 0
  have yf1W3 := O3.out.y.fr 1
  have dc0W3 := O3.out.d.c0
  have dc1W3 := O3.out.d.c1
  have df0W3 := O3.out.d.fr 0
  have df1W3 := O3.out.d.fr 1
  unfold two at hW3
  go_wp2_with fail
  clear hW3 hW2 d0 d1 f0 f1
  clear xc0W3 xc1W3 xf0W3 xf1W3 yc0W3 yc1W3 yf0W3 yf1W3 dc0W3 dc1W3 df0W3 df1W3
  clear hgd
  refine (Minus_c gb ga gk gc _ W3 G3.out).mono ?_
  rintro e w4 ⟨hb, ha, hk, hc, rfl, hg4, b4⟩
  have O4 := Lib.hid (O3.out.keep b4)
  have Z14 := Lib.hid (Z13.out.below b4)
  have Z24 := Lib.hid (Z23.out.below b4)
  have HG4 := Lib.hid hg4
  clear hg4 b4 O3 Z13 Z23 G3
  obtain ⟨W5, hW5⟩ : ∃ W5, two w4 gd (.bool hb) (.slice ha hk hc) = W5 := ⟨_, rfl⟩
  have O5 : Hid (Ov w gd b1 a1 k1 c1 true a2 k2 c2 hb ha hk hc W5) := by rw [← hW5]; exact O4.out.setD _ _ _ _
  have Z15 : Hid (Zn W5 b1 a1 k1 c1 z1) := by rw [← hW5]; exact Z14.out.set2 O4.out.d _ _
  have Z25 : Hid (Zn W5 true a2 k2 c2 z2) := by rw [← hW5]; exact Z24.out.set2 O4.out.d _ _
  have G5 : Hid (Zn W5 hb ha hk hc (ovG z1 z2)) := by
    rw [← hW5]
    have e : ovG z1 z2 = -(Int.gcd z1 z2 : Int) := by
      have := SG.out
      unfold ovG
      rw [if_pos (by simpa using this.symm)]
    rw [e]
    exact HG4.out.set2 O4.out.d _ _
  have dc0w4 := O4.out.d.c0
  have dc1w4 := O4.out.d.c1
  have df0w4 := O4.out.d.fr 0
  have df1w4 := O4.out.d.fr 1
  have xc0W5 := O5.out.x.c0
  have xc1W5 := O5.out.x.c1
  have xf0W5 := O5.out.x.fr 0
  have xf1W5 := O5.out.x.fr 1
  have yc0W5 := O5.out.y.c0
  have yc1W5 := O5.out.y.c1
  have yf0W5 := O5.out.y.fr 0
  have yf1W5 := O5.out.y.fr 1
  have dc0W5 := O5.out.d.c0
  have dc1W5 := O5.out.d.c1
  have df0W5 := O5.out.d.fr 0
  have df1W5 := O5.out.d.fr 1
  clear O4 Z14 Z24 HG4
  unfold two at hW5
  go_wp2_with fail
  clear hW5
  clear dc0w4 dc1w4 df0w4 df1w4
  clear xc0W5 xc1W5 xf0W5 xf1W5 yc0W5 yc1W5 yf0W5 yf1W5 dc0W5 dc1W5 df0W5 df1W5
  refine (Divide_c b1 hb a1 ha k1 hk c1 hc _ _ W5 Z15.out G5.out HNE.out N1.out).mono ?_
  rintro e w6 ⟨qb, qa, qk, qc, rb, ra, rk, rc, rfl, hq, _, b6⟩
  have O6 := Lib.hid (O5.out.keep b6)
  have Z26 := Lib.hid (Z25.out.below b6)
  have G6 := Lib.hid (G5.out.below b6)
  have Q6 := Lib.hid hq
  clear hq b6 O5 Z15 Z25 G5
  obtain ⟨W7, hW7⟩ : ∃ W7, two w6 w.heap.size (.bool qb) (.slice qa qk qc) = W7 := ⟨_, rfl⟩
  have O7 : Hid (Ov w gd qb qa qk qc true a2 k2 c2 hb ha hk hc W7) := by rw [← hW7]; exact O6.out.setX _ _ _ _
  have Z27 : Hid (Zn W7 true a2 k2 c2 z2) := by rw [← hW7]; exact Z26.out.set2 O6.out.x _ _
  have G7 : Hid (Zn W7 hb ha hk hc (ovG z1 z2)) := by rw [← hW7]; exact G6.out.set2 O6.out.x _ _
  have Q7 : Hid (Zn W7 qb qa qk qc (z1.tdiv (ovG z1 z2))) := by rw [← hW7]; exact Q6.out.set2 O6.out.x _ _
  have xc0w6 := O6.out.x.c0
  have xc1w6 := O6.out.x.c1
  have xf0w6 := O6.out.x.fr 0
  have xf1w6 := O6.out.x.fr 1
  have xc0W7 := O7.out.x.c0
  have xc1W7 := O7.out.x.c1
  have xf0W7 := O7.out.x.fr 0
  have xf1W7 := O7.out.x.fr 1
  have yc0W7 := O7.out.y.c0
  have yc1W7 := O7.out.y.c1
  have yf0W7 := O7.out.y.fr 0
  have yf1W7 := O7.out.y.fr 1
  have dc0W7 := O7.out.d.c0
  have dc1W7 := O7.out.d.c1
  have df0W7 := O7.out.d.fr 0
  have df1W7 := O7.out.d.fr 1
  clear O6 Z26 G6 Q6
  unfold two at hW7
  go_wp2_with fail
  clear hW7
  clear xc0w6 xc1w6 xf0w6 xf1w6
  clear xc0W7 xc1W7 xf0W7 xf1W7 yc0W7 yc1W7 yf0W7 yf1W7 dc0W7 dc1W7 df0W7 df1W7
  refine (Divide_c true hb a2 ha k2 hk c2 hc _ _ W7 Z27.out G7.out HNE.out N2.out).mono ?_
  rintro e w8 ⟨pb, pa, pk, pc, sb, sa, sk, sc, rfl, hp, _, b8⟩
  have O8 := Lib.hid (O7.out.keep b8)
  have Q8 := Lib.hid (Q7.out.below b8)
  have P8 := Lib.hid hp
  clear hp b8 O7 Z27 G7 Q7
  obtain ⟨W9, hW9⟩ : ∃ W9, two w8 (w.heap.size + 1) (.bool pb) (.slice pa pk pc) = W9 := ⟨_, rfl⟩
  have O9 : Hid (Ov w gd qb qa qk qc pb pa pk pc hb ha hk hc W9) := by rw [← hW9]; exact O8.out.setY _ _ _ _
  have Q9 : Hid (Zn W9 qb qa qk qc (z1.tdiv (ovG z1 z2))) := by rw [← hW9]; exact Q8.out.set2 O8.out.y _ _
  have P9 : Hid (Zn W9 pb pa pk pc (z2.tdiv (ovG z1 z2))) := by rw [← hW9]; exact P8.out.set2 O8.out.y _ _
  have yc0w8 := O8.out.y.c0
  have yc1w8 := O8.out.y.c1
  have yf0w8 := O8.out.y.fr 0
  have yf1w8 := O8.out.y.fr 1
  have xc0W9 := O9.out.x.c0
  have xc1W9 := O9.out.x.c1
  have xf0W9 := O9.out.x.fr 0
  have xf1W9 := O9.out.x.fr 1
  have yc0W9 := O9.out.y.c0
  have yc1W9 := O9.out.y.c1
  have yf0W9 := O9.out.y.fr 0
  have yf1W9 := O9.out.y.fr 1
  obtain ⟨WX, hWX⟩ : ∃ WX, four W9 (w.heap.size + 1 + 1) (.bool qb) (.slice qa qk qc) (.bool pb) (.slice pa pk pc) = WX := ⟨_, rfl⟩
  have RX : B4 WX (w.heap.size + 1 + 1) (.bool qb) (.slice qa qk qc) (.bool pb) (.slice pa pk pc) := by rw [← hWX]; exact O9.out.r.set _ _ _ _
  have PP : Hid (FrPost (z1.tdiv (ovG z1 z2)) (z2.tdiv (ovG z1 z2)) w (.returned (.agg #[.bool qb, .slice qa qk qc, .bool pb, .slice pa pk pc])) WX) := by
    rw [← hWX]
    exact ⟨_, _, _, _, _, _, _, _, rfl, Q9.out.set4 O9.out.r (NL.b _) (NL.s _ _ _) (NL.b _) (NL.s _ _ _) _ _ _ _, P9.out.set4 O9.out.r (NL.b _) (NL.s _ _ _) (NL.b _) (NL.s _ _ _) _ _ _ _, below_four O9.out.bel (by omega) _ _ _ _⟩
  have r0 := O9.out.r.c0
  have r1 := O9.out.r.c1
  have r2 := O9.out.r.c2
  have r3 := O9.out.r.c3
  have rf0 := O9.out.r.fr 0
  have rf1 := O9.out.r.fr 1
  have rf2 := O9.out.r.fr 2
  have rf3 := O9.out.r.fr 3
  obtain ⟨t0, t1, t2, t3, _, _⟩ := id RX
  clear O8 O9 Q8 P8 Q9 P9 RX
  unfold two at hW9
  unfold four at hWX
  go_wp2_with fail
  exact bodyPost_ret (v := .agg #[.bool qb, .slice qa qk qc, .bool pb, .slice pa pk pc]) (by simp [results, Tryz.results24, go_sem, t0, t1, t2, t3]) rfl PP.out
theorem Over_c (b1 b2 : Bool) (a1 a2 : Option Addr) (k1 k2 c1 c2 : Nat) (z1 z2 : Int) (w : World) (h1 : Zn w b1 a1 k1 c1 z1) (h2 : Zn w b2 a2 k2 c2 z2) (hz : z2 ≠ 0) (n1 : z1.natAbs < bp 2000) (n2 : z2.natAbs < bp 2000) :
    Calls Tryz.prog 24 #[.agg #[.bool b1, .slice a1 k1 c1], .agg #[.bool b2, .slice a2 k2 c2]] w (FrPost (z1.tdiv (ovG z1 z2)) (z2.tdiv (ovG z1 z2)) w) := by
  cases b2
  · exact Over_pos b1 a1 a2 k1 k2 c1 c2 z1 z2 w h1 h2 hz n1 n2
  · exact Over_neg b1 a1 a2 k1 k2 c1 c2 z1 z2 w h1 h2 hz n1 n2
end Go.Proofs.YtdkphfafcmogmaaGreatDoor
namespace Go.Proofs.YtdkphfafcmogmaaGreatDoor
open Go.RowKit

/-- Two boxes of fractions, and the box of a result. -/
structure F3 (w : World) (b1 : Bool) (a1 : Option Addr) (k1 c1 : Nat) (d1 : Bool) (e1 : Option Addr) (m1 q1 : Nat) (b2 : Bool) (a2 : Option Addr) (k2 c2 : Nat) (d2 : Bool) (e2 : Option Addr) (m2 q2 : Nat) (W : World) : Prop where
  x : B4 W w.heap.size (.bool b1) (.slice a1 k1 c1) (.bool d1) (.slice e1 m1 q1)
  y : B4 W (w.heap.size + 1) (.bool b2) (.slice a2 k2 c2) (.bool d2) (.slice e2 m2 q2)
  r : B4 W (w.heap.size + 1 + 1) (.bool false) (.slice none 0 0) (.bool false) (.slice none 0 0)
  bel : Below w.heap.size w W
theorem F3.keep {w : World} {b1 : Bool} {a1 : Option Addr} {k1 c1 : Nat} {d1 : Bool} {e1 : Option Addr} {m1 q1 : Nat} {b2 : Bool} {a2 : Option Addr} {k2 c2 : Nat} {d2 : Bool} {e2 : Option Addr} {m2 q2 : Nat} {W W' : World} (h : F3 w b1 a1 k1 c1 d1 e1 m1 q1 b2 a2 k2 c2 d2 e2 m2 q2 W) (hb : Below W.heap.size W W') : F3 w b1 a1 k1 c1 d1 e1 m1 q1 b2 a2 k2 c2 d2 e2 m2 q2 W' :=
  ⟨h.x.keep hb, h.y.keep hb, h.r.keep hb, h.bel.trans (hb.mono h.bel.size)⟩
theorem F3.made (w : World) (b1 : Bool) (a1 : Option Addr) (k1 c1 : Nat) (d1 : Bool) (e1 : Option Addr) (m1 q1 : Nat) (b2 : Bool) (a2 : Option Addr) (k2 c2 : Nat) (d2 : Bool) (e2 : Option Addr) (m2 q2 : Nat) (T1 T2 T3 : TypeId) :
    F3 w b1 a1 k1 c1 d1 e1 m1 q1 b2 a2 k2 c2 d2 e2 m2 q2 (((w.alloc (.cells #[.bool b1, .slice a1 k1 c1, .bool d1, .slice e1 m1 q1] T1)).alloc (.cells #[.bool b2, .slice a2 k2 c2, .bool d2, .slice e2 m2 q2] T2)).alloc (.cells #[.bool false, .slice none 0 0, .bool false, .slice none 0 0] T3)) := by
  have s1 : (w.alloc (.cells #[.bool b1, .slice a1 k1 c1, .bool d1, .slice e1 m1 q1] T1)).heap.size = w.heap.size + 1 := by simp
  have s2 : ((w.alloc (.cells #[.bool b1, .slice a1 k1 c1, .bool d1, .slice e1 m1 q1] T1)).alloc (.cells #[.bool b2, .slice a2 k2 c2, .bool d2, .slice e2 m2 q2] T2)).heap.size = w.heap.size + 1 + 1 := by simp
  refine ⟨((B4.made w _ _ _ _ T1).keep (bel_one _ _)).keep (bel_one _ _), ?_, ?_, ?_⟩
  · rw [← s1]; exact (B4.made _ _ _ _ _ T2).keep (bel_one _ _)
  · rw [← s2]; exact B4.made _ _ _ _ _ T3
  · exact (((Below.refl _ _).alloc (Nat.le_refl _) _).alloc (by simp) _).alloc (by simp; omega) _
def SF (g : Nat) (b1 : Bool) (a1 : Option Addr) (k1 c1 : Nat) (d1 : Bool) (e1 : Option Addr) (m1 q1 : Nat) (b2 : Bool) (a2 : Option Addr) (k2 c2 : Nat) (d2 : Bool) (e2 : Option Addr) (m2 q2 : Nat) (W : World) : Prop :=
  W.cell? ⟨g, 0, none⟩ = some (.bool b1) ∧ W.cell? ⟨g, 1, none⟩ = some (.slice a1 k1 c1) ∧ W.cell? ⟨g, 2, none⟩ = some (.bool d1) ∧ W.cell? ⟨g, 3, none⟩ = some (.slice e1 m1 q1) ∧
  W.cell? ⟨g + 1, 0, none⟩ = some (.bool b2) ∧ W.cell? ⟨g + 1, 1, none⟩ = some (.slice a2 k2 c2) ∧ W.cell? ⟨g + 1, 2, none⟩ = some (.bool d2) ∧ W.cell? ⟨g + 1, 3, none⟩ = some (.slice e2 m2 q2)
theorem F3.si {w : World} {b1 : Bool} {a1 : Option Addr} {k1 c1 : Nat} {d1 : Bool} {e1 : Option Addr} {m1 q1 : Nat} {b2 : Bool} {a2 : Option Addr} {k2 c2 : Nat} {d2 : Bool} {e2 : Option Addr} {m2 q2 : Nat} {W : World} (h : F3 w b1 a1 k1 c1 d1 e1 m1 q1 b2 a2 k2 c2 d2 e2 m2 q2 W) : SF w.heap.size b1 a1 k1 c1 d1 e1 m1 q1 b2 a2 k2 c2 d2 e2 m2 q2 W := ⟨h.x.c0, h.x.c1, h.x.c2, h.x.c3, h.y.c0, h.y.c1, h.y.c2, h.y.c3⟩
theorem F3.done {w : World} {b1 : Bool} {a1 : Option Addr} {k1 c1 : Nat} {d1 : Bool} {e1 : Option Addr} {m1 q1 : Nat} {b2 : Bool} {a2 : Option Addr} {k2 c2 : Nat} {d2 : Bool} {e2 : Option Addr} {m2 q2 : Nat} {W : World} (h : F3 w b1 a1 k1 c1 d1 e1 m1 q1 b2 a2 k2 c2 d2 e2 m2 q2 W) (y0 y1 y2 y3 : Value) : SF w.heap.size b1 a1 k1 c1 d1 e1 m1 q1 b2 a2 k2 c2 d2 e2 m2 q2 (four W (w.heap.size + 1 + 1) y0 y1 y2 y3) := by
  have u := h.x.other (h := w.heap.size + 1 + 1) (by omega) y0 y1 y2 y3
  have v := h.y.other (h := w.heap.size + 1 + 1) (by omega) y0 y1 y2 y3
  exact ⟨u.c0, u.c1, u.c2, u.c3, v.c0, v.c1, v.c2, v.c3⟩
theorem bp_mul {x y i j : Nat} (hx : x < bp i) (hy : y < bp j) : x * y < bp (i + j) := by
  rw [bp_add]
  have := bp_pos i
  exact Nat.mul_lt_mul_of_lt_of_lt hx hy
theorem bpz_mul {x y : Int} {i j k : Nat} (hx : x.natAbs < bp i) (hy : y.natAbs < bp j) (hk : i + j ≤ k) : (x * y).natAbs < bp k := by
  rw [Int.natAbs_mul]
  exact Nat.lt_of_lt_of_le (bp_mul hx hy) (bp_mono hk)
theorem bpz_add {x y : Int} {i k : Nat} (hx : x.natAbs < bp i) (hy : y.natAbs < bp i) (hk : i + 1 ≤ k) : (x + y).natAbs < bp k := by
  refine Nat.lt_of_lt_of_le ?_ (bp_mono hk)
  rw [bp_succ]
  have := Int.natAbs_add_le x y
  omega
set_option maxRecDepth 100000 in
set_option maxHeartbeats 4000000 in
theorem FTimes_c (b1 : Bool) (a1 : Option Addr) (k1 c1 : Nat) (d1 : Bool) (e1 : Option Addr) (m1 q1 : Nat) (b2 : Bool) (a2 : Option Addr) (k2 c2 : Nat) (d2 : Bool) (e2 : Option Addr) (m2 q2 : Nat) (z1 y1 z2 y2 : Int) (w : World) (h1 : Zn w b1 a1 k1 c1 z1) (g1 : Zn w d1 e1 m1 q1 y1) (h2 : Zn w b2 a2 k2 c2 z2) (g2 : Zn w d2 e2 m2 q2 y2) (n1 : z1.natAbs < bp 400) (o1 : y1.natAbs < bp 400) (n2 : z2.natAbs < bp 400) (o2 : y2.natAbs < bp 400) (hy1 : y1 ≠ 0) (hy2 : y2 ≠ 0) :
    Calls Tryz.prog 42 #[.agg #[.bool b1, .slice a1 k1 c1, .bool d1, .slice e1 m1 q1], .agg #[.bool b2, .slice a2 k2 c2, .bool d2, .slice e2 m2 q2]] w (FrPost ((z1 * z2).tdiv (ovG (z1 * z2) (y1 * y2))) ((y1 * y2).tdiv (ovG (z1 * z2) (y1 * y2))) w) := by
  obtain ⟨W0, hW0⟩ : ∃ W0, ((w.alloc (.cells #[.bool b1, .slice a1 k1 c1, .bool d1, .slice e1 m1 q1] 46)).alloc (.cells #[.bool b2, .slice a2 k2 c2, .bool d2, .slice e2 m2 q2] 46)).alloc (.cells #[.bool false, .slice none 0 0, .bool false, .slice none 0 0] 46) = W0 := ⟨_, rfl⟩
  have J0 : Hid (F3 w b1 a1 k1 c1 d1 e1 m1 q1 b2 a2 k2 c2 d2 e2 m2 q2 W0) := by rw [← hW0]; exact F3.made _ _ _ _ _ _ _ _ _ _ _ _ _ _ _ _ _ _ _ _
  have M1 := Lib.hid (fun W (h : F3 w b1 a1 k1 c1 d1 e1 m1 q1 b2 a2 k2 c2 d2 e2 m2 q2 W) => h1.below h.bel)
  have M2 := Lib.hid (fun W (h : F3 w b1 a1 k1 c1 d1 e1 m1 q1 b2 a2 k2 c2 d2 e2 m2 q2 W) => h2.below h.bel)
  have D1 := Lib.hid (fun W (h : F3 w b1 a1 k1 c1 d1 e1 m1 q1 b2 a2 k2 c2 d2 e2 m2 q2 W) => g1.below h.bel)
  have D2 := Lib.hid (fun W (h : F3 w b1 a1 k1 c1 d1 e1 m1 q1 b2 a2 k2 c2 d2 e2 m2 q2 W) => g2.below h.bel)
  have P1 := Lib.hid (Nat.lt_of_lt_of_le n1 (bp_mono (show 400 ≤ 2000 by decide)))
  have P2 := Lib.hid (Nat.lt_of_lt_of_le n2 (bp_mono (show 400 ≤ 2000 by decide)))
  have Q1 := Lib.hid (Nat.lt_of_lt_of_le o1 (bp_mono (show 400 ≤ 2000 by decide)))
  have Q2 := Lib.hid (Nat.lt_of_lt_of_le o2 (bp_mono (show 400 ≤ 2000 by decide)))
  have NN := Lib.hid (bpz_mul n1 n2 (show 400 + 400 ≤ 2000 by decide))
  have DD := Lib.hid (bpz_mul o1 o2 (show 400 + 400 ≤ 2000 by decide))
  have NE : Hid (y1 * y2 ≠ 0) := Int.mul_ne_zero hy1 hy2
  clear h1 h2 g1 g2 n1 n2 o1 o2 hy1 hy2
  go_enter Tryz.func42, Tryz.ntmps42
  go_wp2_with fail
  clear hW0
  refine wp_region_noPanic ?_
  refine wp_region_held_drew (S := SF w.heap.size b1 a1 k1 c1 d1 e1 m1 q1 b2 a2 k2 c2 d2 e2 m2 q2) (by kernel_rfl) (J0.out.keep (Below.refl _ _).drew).si (fun hS => ?_)
  have J1 := Lib.hid (J0.out.keep (Below.refl _ _).drew)
  clear J0
  refine wpAnyH_take (i := 0) (v := ?v0z29) rfl (by kernel_rfl) (by kernel_rfl) (by kernel_rfl) (fun _ _ _ h => h) (Or.inl ⟨by rfl, ?hy0z29⟩) (by assumption) ?rest0z29
  case hy0z29 =>
    intro w hSw
    dsimp only [SF] at hSw
    go_simp
    try with_reducible rfl
  simp only [Act.put, List.getElem_toArray, List.getElem_cons_succ, List.getElem_cons_zero, List.setIfInBounds_toArray, List.set_cons_zero, List.set_cons_succ]
  refine wpAnyH_take (i := 1) (v := ?v1z30) rfl (by kernel_rfl) (by kernel_rfl) (by kernel_rfl) (fun _ _ _ h => h) (Or.inl ⟨by rfl, ?hy1z30⟩) (by assumption) ?rest1z30
  case hy1z30 =>
    intro w hSw
    dsimp only [SF] at hSw
    go_simp
    try with_reducible rfl
  simp only [Act.put, List.getElem_toArray, List.getElem_cons_succ, List.getElem_cons_zero, List.setIfInBounds_toArray, List.set_cons_zero, List.set_cons_succ]
  refine wpAnyH_take (i := 2) (v := ?v2z31) rfl (by kernel_rfl) (by kernel_rfl) (by kernel_rfl) (fun _ _ _ h => h) (Or.inl ⟨by rfl, ?hy2z31⟩) (by assumption) ?rest2z31
  case hy2z31 =>
    intro w hSw
    dsimp only [SF] at hSw
    go_simp
    try with_reducible rfl
  simp only [Act.put, List.getElem_toArray, List.getElem_cons_succ, List.getElem_cons_zero, List.setIfInBounds_toArray, List.set_cons_zero, List.set_cons_succ]
  refine wpAnyH_take (i := 3) (v := ?v3z32) rfl (by kernel_rfl) (by kernel_rfl) (by kernel_rfl) (fun _ _ _ h => h) (Or.inl ⟨by rfl, ?hy3z32⟩) (by assumption) ?rest3z32
  case hy3z32 =>
    intro w hSw
    dsimp only [SF] at hSw
    go_simp
    try with_reducible rfl
  simp only [Act.put, List.getElem_toArray, List.getElem_cons_succ, List.getElem_cons_zero, List.setIfInBounds_toArray, List.set_cons_zero, List.set_cons_succ]
  refine wpAnyH_take (i := 5) (v := ?v5z33) rfl (by kernel_rfl) (by kernel_rfl) (by kernel_rfl) (fun _ _ _ h => h) (Or.inl ⟨by rfl, ?hy5z33⟩) (by assumption) ?rest5z33
  case hy5z33 =>
    intro w hSw
    dsimp only [SF] at hSw
    go_simp
    try with_reducible rfl
  simp only [Act.put, List.getElem_toArray, List.getElem_cons_succ, List.getElem_cons_zero, List.setIfInBounds_toArray, List.set_cons_zero, List.set_cons_succ]
  refine wpAnyH_take (i := 6) (v := ?v6z34) rfl (by kernel_rfl) (by kernel_rfl) (by kernel_rfl) (fun _ _ _ h => h) (Or.inl ⟨by rfl, ?hy6z34⟩) (by assumption) ?rest6z34
  case hy6z34 =>
    intro w hSw
    dsimp only [SF] at hSw
    go_simp
    try with_reducible rfl
  simp only [Act.put, List.getElem_toArray, List.getElem_cons_succ, List.getElem_cons_zero, List.setIfInBounds_toArray, List.set_cons_zero, List.set_cons_succ]
  refine wpAnyH_take (i := 7) (v := ?v7z35) rfl (by kernel_rfl) (by kernel_rfl) (by kernel_rfl) (fun _ _ _ h => h) (Or.inl ⟨by rfl, ?hy7z35⟩) (by assumption) ?rest7z35
  case hy7z35 =>
    intro w hSw
    dsimp only [SF] at hSw
    go_simp
    try with_reducible rfl
  simp only [Act.put, List.getElem_toArray, List.getElem_cons_succ, List.getElem_cons_zero, List.setIfInBounds_toArray, List.set_cons_zero, List.set_cons_succ]
  refine wpAnyH_take (i := 8) (v := ?v8z36) rfl (by kernel_rfl) (by kernel_rfl) (by kernel_rfl) (fun _ _ _ h => h) (Or.inl ⟨by rfl, ?hy8z36⟩) (by assumption) ?rest8z36
  case hy8z36 =>
    intro w hSw
    dsimp only [SF] at hSw
    go_simp
    try with_reducible rfl
  simp only [Act.put, List.getElem_toArray, List.getElem_cons_succ, List.getElem_cons_zero, List.setIfInBounds_toArray, List.set_cons_zero, List.set_cons_succ]
  refine wpAnyH_ready (rs := [4]) (by kernel_rfl) (by simp) ?_
  refine AllReadyH.cons rfl (fun K hK => ?_) AllReadyH.nil
  go_simp
  refine (Times_c b1 b2 a1 a2 k1 k2 c1 c2 z1 z2 _ (M1.out _ J1.out) (M2.out _ J1.out) P1.out P2.out).mono ?_
  rintro e W3 ⟨nb, na, nk, nc, rfl, hn, bc⟩
  try go_simp
  have J3 := Lib.hid (J1.out.keep bc)
  have hT := J3.out.si
  have HN := Lib.hid hn
  refine hK.out _ _ hT (fun _ => ?_)
  clear hK K hS bc J1 hn
  have hS := hT
  clear hT
  try simp only [Act.put, List.setIfInBounds_toArray, List.set_cons_zero, List.set_cons_succ]
  refine wpAnyH_ready (rs := [9]) (by kernel_rfl) (by simp) ?_
  refine AllReadyH.cons rfl (fun K hK => ?_) AllReadyH.nil
  go_simp
  refine (Times_c d1 d2 e1 e2 m1 m2 q1 q2 y1 y2 _ (D1.out _ J3.out) (D2.out _ J3.out) Q1.out Q2.out).mono ?_
  rintro e W4 ⟨tb, ta, tk, tc, rfl, hn, bc⟩
  try go_simp
  have J4 := Lib.hid (J3.out.keep bc)
  have hT := J4.out.si
  have HD := Lib.hid hn
  have HN4 := Lib.hid (HN.out.below bc)
  refine hK.out _ _ hT (fun _ => ?_)
  clear hK K hS bc J3 hn HN
  have hS := hT
  clear hT
  try simp only [Act.put, List.setIfInBounds_toArray, List.set_cons_zero, List.set_cons_succ]
  refine wpAnyH_ready (rs := [10]) (by kernel_rfl) (by simp) ?_
  refine AllReadyH.cons rfl (fun K hK => ?_) AllReadyH.nil
  go_simp
  refine (Over_c nb tb na ta nk tk nc tc (z1 * z2) (y1 * y2) _ HN4.out HD.out NE.out NN.out DD.out).mono ?_
  rintro e W8 ⟨ob, oa, ok, oc, ob', oa', ok', oc', rfl, hn, hd, bc⟩
  try go_simp
  have J8 := Lib.hid (J4.out.keep bc)
  have hT := J8.out.si
  have ON := Lib.hid hn
  have OD := Lib.hid hd
  refine hK.out _ _ hT (fun _ => ?_)
  clear hK K hS bc J4 hn hd HN4 HD
  have hS := hT
  clear hT
  try simp only [Act.put, List.setIfInBounds_toArray, List.set_cons_zero, List.set_cons_succ]
  refine wpAnyH_ready (rs := [11]) (by kernel_rfl) (by simp) ?_
  refine AllReadyH.cons rfl (fun K hK => ?_) AllReadyH.nil
  have q0' := J8.out.r.c0
  have q1' := J8.out.r.c1
  have q2' := J8.out.r.c2
  have q3' := J8.out.r.c3
  have g0' := J8.out.r.fr 0
  have g1' := J8.out.r.fr 1
  have g2' := J8.out.r.fr 2
  have g3' := J8.out.r.fr 3
  go_simp
  clear q0' q1' q2' q3' g0' g1' g2' g3'
  have hT := J8.out.done (.bool ob) (.slice oa ok oc) (.bool ob') (.slice oa' ok' oc')
  have R9 := J8.out.r.set (.bool ob) (.slice oa ok oc) (.bool ob') (.slice oa' ok' oc')
  have PP : Hid (FrPost ((z1 * z2).tdiv (ovG (z1 * z2) (y1 * y2))) ((y1 * y2).tdiv (ovG (z1 * z2) (y1 * y2))) w (.returned (.agg #[.bool ob, .slice oa ok oc, .bool ob', .slice oa' ok' oc'])) (four W8 (w.heap.size + 1 + 1) (.bool ob) (.slice oa ok oc) (.bool ob') (.slice oa' ok' oc'))) :=
    ⟨_, _, _, _, _, _, _, _, rfl, ON.out.set4 J8.out.r (NL.b _) (NL.s _ _ _) (NL.b _) (NL.s _ _ _) _ _ _ _, OD.out.set4 J8.out.r (NL.b _) (NL.s _ _ _) (NL.b _) (NL.s _ _ _) _ _ _ _, below_four J8.out.bel (by omega) _ _ _ _⟩
  unfold four at hT R9 PP
  refine hK.out _ _ hT (fun _ => ?_)
  clear hK K hS
  try simp only [Act.put, List.setIfInBounds_toArray, List.set_cons_zero, List.set_cons_succ]
  refine wpAnyH_done (by kernel_rfl) ?_ _
  refine NoPanic.normal ?_
  obtain ⟨r0, r1, r2, r3, _, _⟩ := id R9
  clear hT R9
  go_wp2_with fail
  exact bodyPost_ret (v := .agg #[.bool ob, .slice oa ok oc, .bool ob', .slice oa' ok' oc']) (by simp [results, Tryz.results42, go_sem, r0, r1, r2, r3]) rfl PP.out
set_option maxRecDepth 100000 in
set_option maxHeartbeats 4000000 in
theorem FPlus_c (b1 : Bool) (a1 : Option Addr) (k1 c1 : Nat) (d1 : Bool) (e1 : Option Addr) (m1 q1 : Nat) (b2 : Bool) (a2 : Option Addr) (k2 c2 : Nat) (d2 : Bool) (e2 : Option Addr) (m2 q2 : Nat) (z1 y1 z2 y2 : Int) (w : World) (h1 : Zn w b1 a1 k1 c1 z1) (g1 : Zn w d1 e1 m1 q1 y1) (h2 : Zn w b2 a2 k2 c2 z2) (g2 : Zn w d2 e2 m2 q2 y2) (n1 : z1.natAbs < bp 400) (o1 : y1.natAbs < bp 400) (n2 : z2.natAbs < bp 400) (o2 : y2.natAbs < bp 400) (hy1 : y1 ≠ 0) (hy2 : y2 ≠ 0) :
    Calls Tryz.prog 35 #[.agg #[.bool b1, .slice a1 k1 c1, .bool d1, .slice e1 m1 q1], .agg #[.bool b2, .slice a2 k2 c2, .bool d2, .slice e2 m2 q2]] w (FrPost ((z1 * y2 + z2 * y1).tdiv (ovG (z1 * y2 + z2 * y1) (y1 * y2))) ((y1 * y2).tdiv (ovG (z1 * y2 + z2 * y1) (y1 * y2))) w) := by
  obtain ⟨W0, hW0⟩ : ∃ W0, ((w.alloc (.cells #[.bool b1, .slice a1 k1 c1, .bool d1, .slice e1 m1 q1] 46)).alloc (.cells #[.bool b2, .slice a2 k2 c2, .bool d2, .slice e2 m2 q2] 46)).alloc (.cells #[.bool false, .slice none 0 0, .bool false, .slice none 0 0] 46) = W0 := ⟨_, rfl⟩
  have J0 : Hid (F3 w b1 a1 k1 c1 d1 e1 m1 q1 b2 a2 k2 c2 d2 e2 m2 q2 W0) := by rw [← hW0]; exact F3.made _ _ _ _ _ _ _ _ _ _ _ _ _ _ _ _ _ _ _ _
  have M1 := Lib.hid (fun W (h : F3 w b1 a1 k1 c1 d1 e1 m1 q1 b2 a2 k2 c2 d2 e2 m2 q2 W) => h1.below h.bel)
  have M2 := Lib.hid (fun W (h : F3 w b1 a1 k1 c1 d1 e1 m1 q1 b2 a2 k2 c2 d2 e2 m2 q2 W) => h2.below h.bel)
  have D1 := Lib.hid (fun W (h : F3 w b1 a1 k1 c1 d1 e1 m1 q1 b2 a2 k2 c2 d2 e2 m2 q2 W) => g1.below h.bel)
  have D2 := Lib.hid (fun W (h : F3 w b1 a1 k1 c1 d1 e1 m1 q1 b2 a2 k2 c2 d2 e2 m2 q2 W) => g2.below h.bel)
  have P1 := Lib.hid (Nat.lt_of_lt_of_le n1 (bp_mono (show 400 ≤ 2000 by decide)))
  have P2 := Lib.hid (Nat.lt_of_lt_of_le n2 (bp_mono (show 400 ≤ 2000 by decide)))
  have Q1 := Lib.hid (Nat.lt_of_lt_of_le o1 (bp_mono (show 400 ≤ 2000 by decide)))
  have Q2 := Lib.hid (Nat.lt_of_lt_of_le o2 (bp_mono (show 400 ≤ 2000 by decide)))
  have NA := Lib.hid (bpz_mul n1 o2 (show 400 + 400 ≤ 2000 by decide))
  have NB := Lib.hid (bpz_mul n2 o1 (show 400 + 400 ≤ 2000 by decide))
  have NN := Lib.hid (bpz_add (bpz_mul n1 o2 (show 400 + 400 ≤ 800 by decide)) (bpz_mul n2 o1 (show 400 + 400 ≤ 800 by decide)) (show 800 + 1 ≤ 2000 by decide))
  have DD := Lib.hid (bpz_mul o1 o2 (show 400 + 400 ≤ 2000 by decide))
  have NE : Hid (y1 * y2 ≠ 0) := Int.mul_ne_zero hy1 hy2
  clear h1 h2 g1 g2 n1 n2 o1 o2 hy1 hy2
  go_enter Tryz.func35, Tryz.ntmps35
  go_wp2_with fail
  clear hW0
  refine wp_region_noPanic ?_
  refine wp_region_held_drew (S := SF w.heap.size b1 a1 k1 c1 d1 e1 m1 q1 b2 a2 k2 c2 d2 e2 m2 q2) (by kernel_rfl) (J0.out.keep (Below.refl _ _).drew).si (fun hS => ?_)
  have J1 := Lib.hid (J0.out.keep (Below.refl _ _).drew)
  clear J0
  refine wpAnyH_take (i := 0) (v := ?v0z37) rfl (by kernel_rfl) (by kernel_rfl) (by kernel_rfl) (fun _ _ _ h => h) (Or.inl ⟨by rfl, ?hy0z37⟩) (by assumption) ?rest0z37
  case hy0z37 =>
    intro w hSw
    dsimp only [SF] at hSw
    go_simp
    try with_reducible rfl
  simp only [Act.put, List.getElem_toArray, List.getElem_cons_succ, List.getElem_cons_zero, List.setIfInBounds_toArray, List.set_cons_zero, List.set_cons_succ]
  refine wpAnyH_take (i := 1) (v := ?v1z38) rfl (by kernel_rfl) (by kernel_rfl) (by kernel_rfl) (fun _ _ _ h => h) (Or.inl ⟨by rfl, ?hy1z38⟩) (by assumption) ?rest1z38
  case hy1z38 =>
    intro w hSw
    dsimp only [SF] at hSw
    go_simp
    try with_reducible rfl
  simp only [Act.put, List.getElem_toArray, List.getElem_cons_succ, List.getElem_cons_zero, List.setIfInBounds_toArray, List.set_cons_zero, List.set_cons_succ]
  refine wpAnyH_take (i := 2) (v := ?v2z39) rfl (by kernel_rfl) (by kernel_rfl) (by kernel_rfl) (fun _ _ _ h => h) (Or.inl ⟨by rfl, ?hy2z39⟩) (by assumption) ?rest2z39
  case hy2z39 =>
    intro w hSw
    dsimp only [SF] at hSw
    go_simp
    try with_reducible rfl
  simp only [Act.put, List.getElem_toArray, List.getElem_cons_succ, List.getElem_cons_zero, List.setIfInBounds_toArray, List.set_cons_zero, List.set_cons_succ]
  refine wpAnyH_take (i := 3) (v := ?v3z40) rfl (by kernel_rfl) (by kernel_rfl) (by kernel_rfl) (fun _ _ _ h => h) (Or.inl ⟨by rfl, ?hy3z40⟩) (by assumption) ?rest3z40
  case hy3z40 =>
    intro w hSw
    dsimp only [SF] at hSw
    go_simp
    try with_reducible rfl
  simp only [Act.put, List.getElem_toArray, List.getElem_cons_succ, List.getElem_cons_zero, List.setIfInBounds_toArray, List.set_cons_zero, List.set_cons_succ]
  refine wpAnyH_take (i := 5) (v := ?v5z41) rfl (by kernel_rfl) (by kernel_rfl) (by kernel_rfl) (fun _ _ _ h => h) (Or.inl ⟨by rfl, ?hy5z41⟩) (by assumption) ?rest5z41
  case hy5z41 =>
    intro w hSw
    dsimp only [SF] at hSw
    go_simp
    try with_reducible rfl
  simp only [Act.put, List.getElem_toArray, List.getElem_cons_succ, List.getElem_cons_zero, List.setIfInBounds_toArray, List.set_cons_zero, List.set_cons_succ]
  refine wpAnyH_take (i := 6) (v := ?v6z42) rfl (by kernel_rfl) (by kernel_rfl) (by kernel_rfl) (fun _ _ _ h => h) (Or.inl ⟨by rfl, ?hy6z42⟩) (by assumption) ?rest6z42
  case hy6z42 =>
    intro w hSw
    dsimp only [SF] at hSw
    go_simp
    try with_reducible rfl
  simp only [Act.put, List.getElem_toArray, List.getElem_cons_succ, List.getElem_cons_zero, List.setIfInBounds_toArray, List.set_cons_zero, List.set_cons_succ]
  refine wpAnyH_take (i := 7) (v := ?v7z43) rfl (by kernel_rfl) (by kernel_rfl) (by kernel_rfl) (fun _ _ _ h => h) (Or.inl ⟨by rfl, ?hy7z43⟩) (by assumption) ?rest7z43
  case hy7z43 =>
    intro w hSw
    dsimp only [SF] at hSw
    go_simp
    try with_reducible rfl
  simp only [Act.put, List.getElem_toArray, List.getElem_cons_succ, List.getElem_cons_zero, List.setIfInBounds_toArray, List.set_cons_zero, List.set_cons_succ]
  refine wpAnyH_take (i := 8) (v := ?v8z44) rfl (by kernel_rfl) (by kernel_rfl) (by kernel_rfl) (fun _ _ _ h => h) (Or.inl ⟨by rfl, ?hy8z44⟩) (by assumption) ?rest8z44
  case hy8z44 =>
    intro w hSw
    dsimp only [SF] at hSw
    go_simp
    try with_reducible rfl
  simp only [Act.put, List.getElem_toArray, List.getElem_cons_succ, List.getElem_cons_zero, List.setIfInBounds_toArray, List.set_cons_zero, List.set_cons_succ]
  refine wpAnyH_take (i := 11) (v := ?v11z45) rfl (by kernel_rfl) (by kernel_rfl) (by kernel_rfl) (fun _ _ _ h => h) (Or.inl ⟨by rfl, ?hy11z45⟩) (by assumption) ?rest11z45
  case hy11z45 =>
    intro w hSw
    dsimp only [SF] at hSw
    go_simp
    try with_reducible rfl
  simp only [Act.put, List.getElem_toArray, List.getElem_cons_succ, List.getElem_cons_zero, List.setIfInBounds_toArray, List.set_cons_zero, List.set_cons_succ]
  refine wpAnyH_take (i := 12) (v := ?v12z46) rfl (by kernel_rfl) (by kernel_rfl) (by kernel_rfl) (fun _ _ _ h => h) (Or.inl ⟨by rfl, ?hy12z46⟩) (by assumption) ?rest12z46
  case hy12z46 =>
    intro w hSw
    dsimp only [SF] at hSw
    go_simp
    try with_reducible rfl
  simp only [Act.put, List.getElem_toArray, List.getElem_cons_succ, List.getElem_cons_zero, List.setIfInBounds_toArray, List.set_cons_zero, List.set_cons_succ]
  refine wpAnyH_take (i := 13) (v := ?v13z47) rfl (by kernel_rfl) (by kernel_rfl) (by kernel_rfl) (fun _ _ _ h => h) (Or.inl ⟨by rfl, ?hy13z47⟩) (by assumption) ?rest13z47
  case hy13z47 =>
    intro w hSw
    dsimp only [SF] at hSw
    go_simp
    try with_reducible rfl
  simp only [Act.put, List.getElem_toArray, List.getElem_cons_succ, List.getElem_cons_zero, List.setIfInBounds_toArray, List.set_cons_zero, List.set_cons_succ]
  refine wpAnyH_take (i := 14) (v := ?v14z48) rfl (by kernel_rfl) (by kernel_rfl) (by kernel_rfl) (fun _ _ _ h => h) (Or.inl ⟨by rfl, ?hy14z48⟩) (by assumption) ?rest14z48
  case hy14z48 =>
    intro w hSw
    dsimp only [SF] at hSw
    go_simp
    try with_reducible rfl
  simp only [Act.put, List.getElem_toArray, List.getElem_cons_succ, List.getElem_cons_zero, List.setIfInBounds_toArray, List.set_cons_zero, List.set_cons_succ]
  refine wpAnyH_ready (rs := [4]) (by kernel_rfl) (by simp) ?_
  refine AllReadyH.cons rfl (fun K hK => ?_) AllReadyH.nil
  go_simp
  refine (Times_c b1 d2 a1 e2 k1 m2 c1 q2 z1 y2 _ (M1.out _ J1.out) (D2.out _ J1.out) P1.out Q2.out).mono ?_
  rintro e W3 ⟨nb, na, nk, nc, rfl, hn, bc⟩
  try go_simp
  have J3 := Lib.hid (J1.out.keep bc)
  have hT := J3.out.si
  have HN := Lib.hid hn
  refine hK.out _ _ hT (fun _ => ?_)
  clear hK K hS bc J1 hn
  have hS := hT
  clear hT
  try simp only [Act.put, List.setIfInBounds_toArray, List.set_cons_zero, List.set_cons_succ]
  refine wpAnyH_ready (rs := [9]) (by kernel_rfl) (by simp) ?_
  refine AllReadyH.cons rfl (fun K hK => ?_) AllReadyH.nil
  go_simp
  refine (Times_c b2 d1 a2 e1 k2 m1 c2 q1 z2 y1 _ (M2.out _ J3.out) (D1.out _ J3.out) P2.out Q1.out).mono ?_
  rintro e W4 ⟨tb, ta, tk, tc, rfl, hn, bc⟩
  try go_simp
  have J4 := Lib.hid (J3.out.keep bc)
  have hT := J4.out.si
  have HD := Lib.hid hn
  have HN4 := Lib.hid (HN.out.below bc)
  refine hK.out _ _ hT (fun _ => ?_)
  clear hK K hS bc J3 hn HN
  have hS := hT
  clear hT
  try simp only [Act.put, List.setIfInBounds_toArray, List.set_cons_zero, List.set_cons_succ]
  refine wpAnyH_ready (rs := [10]) (by kernel_rfl) (by simp) ?_
  refine AllReadyH.cons rfl (fun K hK => ?_) AllReadyH.nil
  go_simp
  refine (Plus_c nb tb na ta nk tk nc tc (z1 * y2) (z2 * y1) _ HN4.out HD.out NA.out NB.out).mono ?_
  rintro e W5 ⟨sb, sa, sk, sc, rfl, hn, bc⟩
  try go_simp
  have J5 := Lib.hid (J4.out.keep bc)
  have hT := J5.out.si
  have HS5 := Lib.hid hn
  refine hK.out _ _ hT (fun _ => ?_)
  clear hK K hS bc J4 hn HN4 HD
  have hS := hT
  clear hT
  try simp only [Act.put, List.setIfInBounds_toArray, List.set_cons_zero, List.set_cons_succ]
  refine wpAnyH_ready (rs := [15]) (by kernel_rfl) (by simp) ?_
  refine AllReadyH.cons rfl (fun K hK => ?_) AllReadyH.nil
  go_simp
  refine (Times_c d1 d2 e1 e2 m1 m2 q1 q2 y1 y2 _ (D1.out _ J5.out) (D2.out _ J5.out) Q1.out Q2.out).mono ?_
  rintro e W6 ⟨ub, ua, uk, uc, rfl, hn, bc⟩
  try go_simp
  have J6 := Lib.hid (J5.out.keep bc)
  have hT := J6.out.si
  have HU := Lib.hid hn
  have HS6 := Lib.hid (HS5.out.below bc)
  refine hK.out _ _ hT (fun _ => ?_)
  clear hK K hS bc J5 hn HS5
  have hS := hT
  clear hT
  try simp only [Act.put, List.setIfInBounds_toArray, List.set_cons_zero, List.set_cons_succ]
  refine wpAnyH_ready (rs := [16]) (by kernel_rfl) (by simp) ?_
  refine AllReadyH.cons rfl (fun K hK => ?_) AllReadyH.nil
  go_simp
  refine (Over_c sb ub sa ua sk uk sc uc (z1 * y2 + z2 * y1) (y1 * y2) _ HS6.out HU.out NE.out NN.out DD.out).mono ?_
  rintro e W8 ⟨ob, oa, ok, oc, ob', oa', ok', oc', rfl, hn, hd, bc⟩
  try go_simp
  have J8 := Lib.hid (J6.out.keep bc)
  have hT := J8.out.si
  have ON := Lib.hid hn
  have OD := Lib.hid hd
  refine hK.out _ _ hT (fun _ => ?_)
  clear hK K hS bc J6 hn hd HS6 HU
  have hS := hT
  clear hT
  try simp only [Act.put, List.setIfInBounds_toArray, List.set_cons_zero, List.set_cons_succ]
  refine wpAnyH_ready (rs := [17]) (by kernel_rfl) (by simp) ?_
  refine AllReadyH.cons rfl (fun K hK => ?_) AllReadyH.nil
  have q0' := J8.out.r.c0
  have q1' := J8.out.r.c1
  have q2' := J8.out.r.c2
  have q3' := J8.out.r.c3
  have g0' := J8.out.r.fr 0
  have g1' := J8.out.r.fr 1
  have g2' := J8.out.r.fr 2
  have g3' := J8.out.r.fr 3
  go_simp
  clear q0' q1' q2' q3' g0' g1' g2' g3'
  have hT := J8.out.done (.bool ob) (.slice oa ok oc) (.bool ob') (.slice oa' ok' oc')
  have R9 := J8.out.r.set (.bool ob) (.slice oa ok oc) (.bool ob') (.slice oa' ok' oc')
  have PP : Hid (FrPost ((z1 * y2 + z2 * y1).tdiv (ovG (z1 * y2 + z2 * y1) (y1 * y2))) ((y1 * y2).tdiv (ovG (z1 * y2 + z2 * y1) (y1 * y2))) w (.returned (.agg #[.bool ob, .slice oa ok oc, .bool ob', .slice oa' ok' oc'])) (four W8 (w.heap.size + 1 + 1) (.bool ob) (.slice oa ok oc) (.bool ob') (.slice oa' ok' oc'))) :=
    ⟨_, _, _, _, _, _, _, _, rfl, ON.out.set4 J8.out.r (NL.b _) (NL.s _ _ _) (NL.b _) (NL.s _ _ _) _ _ _ _, OD.out.set4 J8.out.r (NL.b _) (NL.s _ _ _) (NL.b _) (NL.s _ _ _) _ _ _ _, below_four J8.out.bel (by omega) _ _ _ _⟩
  unfold four at hT R9 PP
  refine hK.out _ _ hT (fun _ => ?_)
  clear hK K hS
  try simp only [Act.put, List.setIfInBounds_toArray, List.set_cons_zero, List.set_cons_succ]
  refine wpAnyH_done (by kernel_rfl) ?_ _
  refine NoPanic.normal ?_
  obtain ⟨r0, r1, r2, r3, _, _⟩ := id R9
  clear hT R9
  go_wp2_with fail
  exact bodyPost_ret (v := .agg #[.bool ob, .slice oa ok oc, .bool ob', .slice oa' ok' oc']) (by simp [results, Tryz.results35, go_sem, r0, r1, r2, r3]) rfl PP.out
/-- Two boxes of fractions. -/
structure F2 (w : World) (b1 : Bool) (a1 : Option Addr) (k1 c1 : Nat) (d1 : Bool) (e1 : Option Addr) (m1 q1 : Nat) (b2 : Bool) (a2 : Option Addr) (k2 c2 : Nat) (d2 : Bool) (e2 : Option Addr) (m2 q2 : Nat) (W : World) : Prop where
  x : B4 W w.heap.size (.bool b1) (.slice a1 k1 c1) (.bool d1) (.slice e1 m1 q1)
  y : B4 W (w.heap.size + 1) (.bool b2) (.slice a2 k2 c2) (.bool d2) (.slice e2 m2 q2)
  bel : Below w.heap.size w W
theorem F2.keep {w : World} {b1 : Bool} {a1 : Option Addr} {k1 c1 : Nat} {d1 : Bool} {e1 : Option Addr} {m1 q1 : Nat} {b2 : Bool} {a2 : Option Addr} {k2 c2 : Nat} {d2 : Bool} {e2 : Option Addr} {m2 q2 : Nat} {W W' : World} (h : F2 w b1 a1 k1 c1 d1 e1 m1 q1 b2 a2 k2 c2 d2 e2 m2 q2 W) (hb : Below W.heap.size W W') : F2 w b1 a1 k1 c1 d1 e1 m1 q1 b2 a2 k2 c2 d2 e2 m2 q2 W' :=
  ⟨h.x.keep hb, h.y.keep hb, h.bel.trans (hb.mono h.bel.size)⟩
theorem F2.made (w : World) (b1 : Bool) (a1 : Option Addr) (k1 c1 : Nat) (d1 : Bool) (e1 : Option Addr) (m1 q1 : Nat) (b2 : Bool) (a2 : Option Addr) (k2 c2 : Nat) (d2 : Bool) (e2 : Option Addr) (m2 q2 : Nat) (T1 T2 : TypeId) :
    F2 w b1 a1 k1 c1 d1 e1 m1 q1 b2 a2 k2 c2 d2 e2 m2 q2 ((w.alloc (.cells #[.bool b1, .slice a1 k1 c1, .bool d1, .slice e1 m1 q1] T1)).alloc (.cells #[.bool b2, .slice a2 k2 c2, .bool d2, .slice e2 m2 q2] T2)) := by
  have s1 : (w.alloc (.cells #[.bool b1, .slice a1 k1 c1, .bool d1, .slice e1 m1 q1] T1)).heap.size = w.heap.size + 1 := by simp
  refine ⟨(B4.made w _ _ _ _ T1).keep (bel_one _ _), ?_, ?_⟩
  · rw [← s1]; exact B4.made _ _ _ _ _ T2
  · exact ((Below.refl _ _).alloc (Nat.le_refl _) _).alloc (by simp) _
theorem F2.si {w : World} {b1 : Bool} {a1 : Option Addr} {k1 c1 : Nat} {d1 : Bool} {e1 : Option Addr} {m1 q1 : Nat} {b2 : Bool} {a2 : Option Addr} {k2 c2 : Nat} {d2 : Bool} {e2 : Option Addr} {m2 q2 : Nat} {W : World} (h : F2 w b1 a1 k1 c1 d1 e1 m1 q1 b2 a2 k2 c2 d2 e2 m2 q2 W) : SF w.heap.size b1 a1 k1 c1 d1 e1 m1 q1 b2 a2 k2 c2 d2 e2 m2 q2 W := ⟨h.x.c0, h.x.c1, h.x.c2, h.x.c3, h.y.c0, h.y.c1, h.y.c2, h.y.c3⟩
set_option maxRecDepth 100000 in
set_option maxHeartbeats 4000000 in
theorem FCompare_c (b1 : Bool) (a1 : Option Addr) (k1 c1 : Nat) (d1 : Bool) (e1 : Option Addr) (m1 q1 : Nat) (b2 : Bool) (a2 : Option Addr) (k2 c2 : Nat) (d2 : Bool) (e2 : Option Addr) (m2 q2 : Nat) (z1 y1 z2 y2 : Int) (w : World) (h1 : Zn w b1 a1 k1 c1 z1) (g1 : Zn w d1 e1 m1 q1 y1) (h2 : Zn w b2 a2 k2 c2 z2) (g2 : Zn w d2 e2 m2 q2 y2) (n1 : z1.natAbs < bp 400) (o1 : y1.natAbs < bp 400) (n2 : z2.natAbs < bp 400) (o2 : y2.natAbs < bp 400) :
    Calls Tryz.prog 45 #[.agg #[.bool b1, .slice a1 k1 c1, .bool d1, .slice e1 m1 q1], .agg #[.bool b2, .slice a2 k2 c2, .bool d2, .slice e2 m2 q2]] w fun e w' => e = .returned (.int .i64 (zcmp (z1 * y2) (z2 * y1))) ∧ Below w.heap.size w w' := by
  obtain ⟨W0, hW0⟩ : ∃ W0, (w.alloc (.cells #[.bool b1, .slice a1 k1 c1, .bool d1, .slice e1 m1 q1] 46)).alloc (.cells #[.bool b2, .slice a2 k2 c2, .bool d2, .slice e2 m2 q2] 46) = W0 := ⟨_, rfl⟩
  have J0 : Hid (F2 w b1 a1 k1 c1 d1 e1 m1 q1 b2 a2 k2 c2 d2 e2 m2 q2 W0) := by rw [← hW0]; exact F2.made _ _ _ _ _ _ _ _ _ _ _ _ _ _ _ _ _ _ _
  have M1 := Lib.hid (fun W (h : F2 w b1 a1 k1 c1 d1 e1 m1 q1 b2 a2 k2 c2 d2 e2 m2 q2 W) => h1.below h.bel)
  have M2 := Lib.hid (fun W (h : F2 w b1 a1 k1 c1 d1 e1 m1 q1 b2 a2 k2 c2 d2 e2 m2 q2 W) => h2.below h.bel)
  have D1 := Lib.hid (fun W (h : F2 w b1 a1 k1 c1 d1 e1 m1 q1 b2 a2 k2 c2 d2 e2 m2 q2 W) => g1.below h.bel)
  have D2 := Lib.hid (fun W (h : F2 w b1 a1 k1 c1 d1 e1 m1 q1 b2 a2 k2 c2 d2 e2 m2 q2 W) => g2.below h.bel)
  have P1 := Lib.hid (Nat.lt_of_lt_of_le n1 (bp_mono (show 400 ≤ 2000 by decide)))
  have P2 := Lib.hid (Nat.lt_of_lt_of_le n2 (bp_mono (show 400 ≤ 2000 by decide)))
  have Q1 := Lib.hid (Nat.lt_of_lt_of_le o1 (bp_mono (show 400 ≤ 2000 by decide)))
  have Q2 := Lib.hid (Nat.lt_of_lt_of_le o2 (bp_mono (show 400 ≤ 2000 by decide)))
  clear h1 h2 g1 g2 n1 n2 o1 o2
  go_enter Tryz.func45, Tryz.ntmps45
  go_wp2_with fail
  clear hW0
  refine wp_region_noPanic ?_
  refine wp_region_held_drew (S := SF w.heap.size b1 a1 k1 c1 d1 e1 m1 q1 b2 a2 k2 c2 d2 e2 m2 q2) (by kernel_rfl) (J0.out.keep (Below.refl _ _).drew).si (fun hS => ?_)
  have J1 := Lib.hid (J0.out.keep (Below.refl _ _).drew)
  clear J0
  refine wpAnyH_take (i := 0) (v := ?v0z49) rfl (by kernel_rfl) (by kernel_rfl) (by kernel_rfl) (fun _ _ _ h => h) (Or.inl ⟨by rfl, ?hy0z49⟩) (by assumption) ?rest0z49
  case hy0z49 =>
    intro w hSw
    dsimp only [SF] at hSw
    go_simp
    try with_reducible rfl
  simp only [Act.put, List.getElem_toArray, List.getElem_cons_succ, List.getElem_cons_zero, List.setIfInBounds_toArray, List.set_cons_zero, List.set_cons_succ]
  refine wpAnyH_take (i := 1) (v := ?v1z50) rfl (by kernel_rfl) (by kernel_rfl) (by kernel_rfl) (fun _ _ _ h => h) (Or.inl ⟨by rfl, ?hy1z50⟩) (by assumption) ?rest1z50
  case hy1z50 =>
    intro w hSw
    dsimp only [SF] at hSw
    go_simp
    try with_reducible rfl
  simp only [Act.put, List.getElem_toArray, List.getElem_cons_succ, List.getElem_cons_zero, List.setIfInBounds_toArray, List.set_cons_zero, List.set_cons_succ]
  refine wpAnyH_take (i := 2) (v := ?v2z51) rfl (by kernel_rfl) (by kernel_rfl) (by kernel_rfl) (fun _ _ _ h => h) (Or.inl ⟨by rfl, ?hy2z51⟩) (by assumption) ?rest2z51
  case hy2z51 =>
    intro w hSw
    dsimp only [SF] at hSw
    go_simp
    try with_reducible rfl
  simp only [Act.put, List.getElem_toArray, List.getElem_cons_succ, List.getElem_cons_zero, List.setIfInBounds_toArray, List.set_cons_zero, List.set_cons_succ]
  refine wpAnyH_take (i := 3) (v := ?v3z52) rfl (by kernel_rfl) (by kernel_rfl) (by kernel_rfl) (fun _ _ _ h => h) (Or.inl ⟨by rfl, ?hy3z52⟩) (by assumption) ?rest3z52
  case hy3z52 =>
    intro w hSw
    dsimp only [SF] at hSw
    go_simp
    try with_reducible rfl
  simp only [Act.put, List.getElem_toArray, List.getElem_cons_succ, List.getElem_cons_zero, List.setIfInBounds_toArray, List.set_cons_zero, List.set_cons_succ]
  refine wpAnyH_take (i := 5) (v := ?v5z53) rfl (by kernel_rfl) (by kernel_rfl) (by kernel_rfl) (fun _ _ _ h => h) (Or.inl ⟨by rfl, ?hy5z53⟩) (by assumption) ?rest5z53
  case hy5z53 =>
    intro w hSw
    dsimp only [SF] at hSw
    go_simp
    try with_reducible rfl
  simp only [Act.put, List.getElem_toArray, List.getElem_cons_succ, List.getElem_cons_zero, List.setIfInBounds_toArray, List.set_cons_zero, List.set_cons_succ]
  refine wpAnyH_take (i := 6) (v := ?v6z54) rfl (by kernel_rfl) (by kernel_rfl) (by kernel_rfl) (fun _ _ _ h => h) (Or.inl ⟨by rfl, ?hy6z54⟩) (by assumption) ?rest6z54
  case hy6z54 =>
    intro w hSw
    dsimp only [SF] at hSw
    go_simp
    try with_reducible rfl
  simp only [Act.put, List.getElem_toArray, List.getElem_cons_succ, List.getElem_cons_zero, List.setIfInBounds_toArray, List.set_cons_zero, List.set_cons_succ]
  refine wpAnyH_take (i := 7) (v := ?v7z55) rfl (by kernel_rfl) (by kernel_rfl) (by kernel_rfl) (fun _ _ _ h => h) (Or.inl ⟨by rfl, ?hy7z55⟩) (by assumption) ?rest7z55
  case hy7z55 =>
    intro w hSw
    dsimp only [SF] at hSw
    go_simp
    try with_reducible rfl
  simp only [Act.put, List.getElem_toArray, List.getElem_cons_succ, List.getElem_cons_zero, List.setIfInBounds_toArray, List.set_cons_zero, List.set_cons_succ]
  refine wpAnyH_take (i := 8) (v := ?v8z56) rfl (by kernel_rfl) (by kernel_rfl) (by kernel_rfl) (fun _ _ _ h => h) (Or.inl ⟨by rfl, ?hy8z56⟩) (by assumption) ?rest8z56
  case hy8z56 =>
    intro w hSw
    dsimp only [SF] at hSw
    go_simp
    try with_reducible rfl
  simp only [Act.put, List.getElem_toArray, List.getElem_cons_succ, List.getElem_cons_zero, List.setIfInBounds_toArray, List.set_cons_zero, List.set_cons_succ]
  refine wpAnyH_ready (rs := [4]) (by kernel_rfl) (by simp) ?_
  refine AllReadyH.cons rfl (fun K hK => ?_) AllReadyH.nil
  go_simp
  refine (Times_c b1 d2 a1 e2 k1 m2 c1 q2 z1 y2 _ (M1.out _ J1.out) (D2.out _ J1.out) P1.out Q2.out).mono ?_
  rintro e W3 ⟨nb, na, nk, nc, rfl, hn, bc⟩
  try go_simp
  have J3 := Lib.hid (J1.out.keep bc)
  have hT := J3.out.si
  have HN := Lib.hid hn
  refine hK.out _ _ hT (fun _ => ?_)
  clear hK K hS bc J1 hn
  have hS := hT
  clear hT
  try simp only [Act.put, List.setIfInBounds_toArray, List.set_cons_zero, List.set_cons_succ]
  refine wpAnyH_ready (rs := [9]) (by kernel_rfl) (by simp) ?_
  refine AllReadyH.cons rfl (fun K hK => ?_) AllReadyH.nil
  go_simp
  refine (Times_c b2 d1 a2 e1 k2 m1 c2 q1 z2 y1 _ (M2.out _ J3.out) (D1.out _ J3.out) P2.out Q1.out).mono ?_
  rintro e W4 ⟨tb, ta, tk, tc, rfl, hn, bc⟩
  try go_simp
  have J4 := Lib.hid (J3.out.keep bc)
  have hT := J4.out.si
  have HD := Lib.hid hn
  have HN4 := Lib.hid (HN.out.below bc)
  refine hK.out _ _ hT (fun _ => ?_)
  clear hK K hS bc J3 hn HN
  have hS := hT
  clear hT
  try simp only [Act.put, List.setIfInBounds_toArray, List.set_cons_zero, List.set_cons_succ]
  refine wpAnyH_ready (rs := [10]) (by kernel_rfl) (by simp) ?_
  refine AllReadyH.cons rfl (fun K hK => ?_) AllReadyH.nil
  go_simp
  refine (Compare_c nb tb na ta nk tk nc tc (z1 * y2) (z2 * y1) _ HN4.out HD.out).mono ?_
  rintro e W5 ⟨rfl, bc⟩
  try go_simp
  have J5 := Lib.hid (J4.out.keep bc)
  have hT := J5.out.si
  have BB := Lib.hid J5.out.bel
  refine hK.out _ _ hT (fun _ => ?_)
  clear hK K hS bc J4 HN4 HD
  have hS := hT
  clear hT
  try simp only [Act.put, List.setIfInBounds_toArray, List.set_cons_zero, List.set_cons_succ]
  refine wpAnyH_take (i := 11) (v := ?v11z57) rfl (by kernel_rfl) (by kernel_rfl) (by kernel_rfl) (fun _ _ _ h => h) (Or.inl ⟨by rfl, ?hy11z57⟩) (by assumption) ?rest11z57
  case hy11z57 =>
    intro w hSw
    dsimp only [SF] at hSw
    go_simp
    try with_reducible rfl
  simp only [Act.put, List.getElem_toArray, List.getElem_cons_succ, List.getElem_cons_zero, List.setIfInBounds_toArray, List.set_cons_zero, List.set_cons_succ]
  refine wpAnyH_done (by kernel_rfl) ?_ _
  refine NoPanic.normal ?_
  clear hS J5
  go_wp2
  go_ret
  exact ⟨rfl, BB.out⟩
set_option maxRecDepth 100000 in
set_option maxHeartbeats 4000000 in
theorem FInverse_c (b1 : Bool) (a1 : Option Addr) (k1 c1 : Nat) (d1 : Bool) (e1 : Option Addr) (m1 q1 : Nat) (z1 y1 : Int) (w : World) (h1 : Zn w b1 a1 k1 c1 z1) (g1 : Zn w d1 e1 m1 q1 y1) (n1 : z1.natAbs < bp 400) (o1 : y1.natAbs < bp 400) (hz : z1 ≠ 0) :
    Calls Tryz.prog 44 #[.agg #[.bool b1, .slice a1 k1 c1, .bool d1, .slice e1 m1 q1]] w (FrPost (y1.tdiv (ovG y1 z1)) (z1.tdiv (ovG y1 z1)) w) := by
  obtain ⟨W0, hW0⟩ : ∃ W0, (w.alloc (.cells #[.bool b1, .slice a1 k1 c1, .bool d1, .slice e1 m1 q1] 46)).alloc (.cells #[.bool false, .slice none 0 0, .bool false, .slice none 0 0] 46) = W0 := ⟨_, rfl⟩
  have s1 : (w.alloc (.cells #[.bool b1, .slice a1 k1 c1, .bool d1, .slice e1 m1 q1] 46)).heap.size = w.heap.size + 1 := by simp
  have X0 : B4 W0 w.heap.size (.bool b1) (.slice a1 k1 c1) (.bool d1) (.slice e1 m1 q1) := by rw [← hW0]; exact (B4.made w _ _ _ _ _).keep (bel_one _ _)
  have R0 : B4 W0 (w.heap.size + 1) (.bool false) (.slice none 0 0) (.bool false) (.slice none 0 0) := by rw [← hW0, ← s1]; exact B4.made _ _ _ _ _ _
  have B0 : Below w.heap.size w W0 := by rw [← hW0]; exact ((Below.refl _ _).alloc (Nat.le_refl _) _).alloc (by simp) _
  have HO := Lib.hid (Over_c d1 b1 e1 a1 m1 k1 q1 c1 y1 z1 W0 (g1.below B0) (h1.below B0) hz (Nat.lt_of_lt_of_le o1 (bp_mono (show 400 ≤ 2000 by decide))) (Nat.lt_of_lt_of_le n1 (bp_mono (show 400 ≤ 2000 by decide))))
  have HR0 := Lib.hid R0
  have HB0 := Lib.hid B0
  obtain ⟨x0, x1, x2, x3, _, _⟩ := X0
  clear h1 g1 n1 o1 hz s1 R0 B0
  go_enter Tryz.func44, Tryz.ntmps44
  go_wp2_with fail
  clear hW0
  clear x0 x1 x2 x3
  refine HO.out.mono ?_
  rintro e W8 ⟨ob, oa, ok, oc, ob', oa', ok', oc', rfl, hn, hd, bc⟩
  have ON := Lib.hid hn
  have OD := Lib.hid hd
  have R8 := Lib.hid (HR0.out.keep bc)
  have B8 := Lib.hid (HB0.out.trans (bc.mono HB0.out.size))
  clear hn hd bc HO HR0 HB0
  obtain ⟨WX, hWX⟩ : ∃ WX, four W8 (w.heap.size + 1) (.bool ob) (.slice oa ok oc) (.bool ob') (.slice oa' ok' oc') = WX := ⟨_, rfl⟩
  have RX : B4 WX (w.heap.size + 1) (.bool ob) (.slice oa ok oc) (.bool ob') (.slice oa' ok' oc') := by rw [← hWX]; exact R8.out.set _ _ _ _
  have PP : Hid (FrPost (y1.tdiv (ovG y1 z1)) (z1.tdiv (ovG y1 z1)) w (.returned (.agg #[.bool ob, .slice oa ok oc, .bool ob', .slice oa' ok' oc'])) WX) := by
    rw [← hWX]
    exact ⟨_, _, _, _, _, _, _, _, rfl, ON.out.set4 R8.out (NL.b _) (NL.s _ _ _) (NL.b _) (NL.s _ _ _) _ _ _ _, OD.out.set4 R8.out (NL.b _) (NL.s _ _ _) (NL.b _) (NL.s _ _ _) _ _ _ _, below_four B8.out (by omega) _ _ _ _⟩
  have r0 := R8.out.c0
  have r1 := R8.out.c1
  have r2 := R8.out.c2
  have r3 := R8.out.c3
  have rf0 := R8.out.fr 0
  have rf1 := R8.out.fr 1
  have rf2 := R8.out.fr 2
  have rf3 := R8.out.fr 3
  obtain ⟨t0, t1, t2, t3, _, _⟩ := id RX
  clear ON OD R8 B8 RX
  unfold four at hWX
  go_wp2_with fail
  exact bodyPost_ret (v := .agg #[.bool ob, .slice oa ok oc, .bool ob', .slice oa' ok' oc']) (by simp [results, Tryz.results44, go_sem, t0, t1, t2, t3]) rfl PP.out
end Go.Proofs.YtdkphfafcmogmaaGreatDoor
