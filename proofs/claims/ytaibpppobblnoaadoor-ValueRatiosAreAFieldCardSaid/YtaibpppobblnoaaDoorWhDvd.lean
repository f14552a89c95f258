/-
  Whole numbers of any size: quotients and rests.
-/
import Derived.Test.YtaibpppobblnoaaDoorWhInt2
namespace Go.Proofs.YtaibpppobblnoaaDoor
open Go.RowKit

theorem zv_tdiv (b1 b2 : Bool) (n1 n2 : Nat) : zv (b1 != b2) (n1 / n2) = (zv b1 n1).tdiv (zv b2 n2) := by
  cases b1 <;> cases b2 <;> simp [zv, Int.neg_tdiv, Int.tdiv_neg, Int.ofNat_tdiv]
theorem zv_tmod (b1 b2 : Bool) (n1 n2 : Nat) : zv b1 (n1 % n2) = (zv b1 n1).tmod (zv b2 n2) := by
  cases b1 <;> cases b2 <;> simp [zv, Int.neg_tmod, Int.tmod_neg, Int.ofNat_tmod] <;> exact (Int.tmod_eq_emod_of_nonneg (by omega)).symm
/-- Two boxes of arguments, and the boxes of two results. -/
structure I4 (w : World) (b1 : Bool) (a1 : Option Addr) (k1 c1 : Nat) (b2 : Bool) (a2 : Option Addr) (k2 c2 : Nat) (W : World) : Prop where
  x : B2 W w.heap.size (.bool b1) (.slice a1 k1 c1)
  y : B2 W (w.heap.size + 1) (.bool b2) (.slice a2 k2 c2)
  r : B2 W (w.heap.size + 1 + 1) (.bool false) (.slice none 0 0)
  s : B2 W (w.heap.size + 1 + 1 + 1) (.bool false) (.slice none 0 0)
  bel : Below w.heap.size w W
theorem I4.keep {w : World} {b1 : Bool} {a1 : Option Addr} {k1 c1 : Nat} {b2 : Bool} {a2 : Option Addr} {k2 c2 : Nat} {W W' : World} (h : I4 w b1 a1 k1 c1 b2 a2 k2 c2 W) (hb : Below W.heap.size W W') : I4 w b1 a1 k1 c1 b2 a2 k2 c2 W' :=
  ⟨h.x.keep hb, h.y.keep hb, h.r.keep hb, h.s.keep hb, h.bel.trans (hb.mono h.bel.size)⟩
theorem I4.made (w : World) (b1 : Bool) (a1 : Option Addr) (k1 c1 : Nat) (b2 : Bool) (a2 : Option Addr) (k2 c2 : Nat) (T1 T2 T3 T4 : TypeId) :
    I4 w b1 a1 k1 c1 b2 a2 k2 c2 ((((w.alloc (.cells #[.bool b1, .slice a1 k1 c1] T1)).alloc (.cells #[.bool b2, .slice a2 k2 c2] T2)).alloc (.cells #[.bool false, .slice none 0 0] T3)).alloc (.cells #[.bool false, .slice none 0 0] T4)) := by
  have h := I3.made w b1 a1 k1 c1 b2 a2 k2 c2 T1 T2 T3
  have s3 : (((w.alloc (.cells #[.bool b1, .slice a1 k1 c1] T1)).alloc (.cells #[.bool b2, .slice a2 k2 c2] T2)).alloc (.cells #[.bool false, .slice none 0 0] T3)).heap.size = w.heap.size + 1 + 1 + 1 := by simp
  have k := h.keep (bel_one _ (.cells #[.bool false, .slice none 0 0] T4))
  refine ⟨k.x, k.y, k.r, ?_, k.bel⟩
  rw [← s3]; exact B2.made _ _ _ T4
theorem I4.si {w : World} {b1 : Bool} {a1 : Option Addr} {k1 c1 : Nat} {b2 : Bool} {a2 : Option Addr} {k2 c2 : Nat} {W : World} (h : I4 w b1 a1 k1 c1 b2 a2 k2 c2 W) : SI w.heap.size b1 a1 k1 c1 b2 a2 k2 c2 W := ⟨h.x.c0, h.x.c1, h.y.c0, h.y.c1⟩
def DvPost (q r : Int) (w : World) (e : Ending) (w' : World) : Prop :=
  ∃ b a k c b' a' k' c', e = .returned (.tuple #[.agg #[.bool b, .slice a k c], .agg #[.bool b', .slice a' k' c']]) ∧ Zn w' b a k c q ∧ Zn w' b' a' k' c' r ∧ Below w.heap.size w w'
set_option maxRecDepth 100000 in
set_option maxHeartbeats 4000000 in
theorem Divide_c (b1 b2 : Bool) (a1 a2 : Option Addr) (k1 k2 c1 c2 : Nat) (z1 z2 : Int) (w : World) (h1 : Zn w b1 a1 k1 c1 z1) (h2 : Zn w b2 a2 k2 c2 z2) (hz : z2 ≠ 0) (n1 : z1.natAbs < bp 4000) :
    Calls Tryd.prog 40 #[.agg #[.bool b1, .slice a1 k1 c1], .agg #[.bool b2, .slice a2 k2 c2]] w (DvPost (z1.tdiv z2) (z1.tmod z2) w) := by
  obtain ⟨W0, hW0⟩ : ∃ W0, (((w.alloc (.cells #[.bool b1, .slice a1 k1 c1] 37)).alloc (.cells #[.bool b2, .slice a2 k2 c2] 37)).alloc (.cells #[.bool false, .slice none 0 0] 37)).alloc (.cells #[.bool false, .slice none 0 0] 37) = W0 := ⟨_, rfl⟩
  have J0 : Hid (I4 w b1 a1 k1 c1 b2 a2 k2 c2 W0) := by rw [← hW0]; exact I4.made _ _ _ _ _ _ _ _ _ _ _ _ _
  have HC := Lib.hid (divide_c a1 a2 k1 k2 c1 c2 _ _ W0 (h1.nm.below J0.out.bel) (h2.nm.below J0.out.bel) (by omega) n1)
  have E1 := Lib.hid h1.zv
  have E2 := Lib.hid h2.zv
  clear h1 h2 n1 hz
  have x0 := J0.out.x.c0
  have x1 := J0.out.x.c1
  have y0 := J0.out.y.c0
  have y1 := J0.out.y.c1
  go_enter Tryd.func40, Tryd.ntmps40
  go_wp2_with fail
  clear hW0
  refine HC.out.mono ?_
  rintro e w1 ⟨qa, qk, qc, ra, rk, rc, rfl, l1, l2, b1'⟩
  have J1 := Lib.hid (J0.out.keep b1')
  have L1 := Lib.hid l1
  have L2 := Lib.hid l2
  clear x0 x1 y0 y1 HC J0 l1 l2 b1'
  go_wp2_with fail
  refine wp_region_noPanic ?_
  refine wp_region_held_drew (S := SI w.heap.size b1 a1 k1 c1 b2 a2 k2 c2) (by kernel_rfl) (J1.out.keep (Below.refl _ _).drew).si (fun hS => ?_)
  have J2 := Lib.hid (J1.out.keep (Below.refl _ _).drew)
  have L1' := Lib.hid (L1.out.below (Below.refl _ _).drew)
  have L2' := Lib.hid (L2.out.below (Below.refl _ _).drew)
  clear L1 L2 J1
  refine wpAnyH_take (i := 0) (v := ?v0z29) rfl (by kernel_rfl) (by kernel_rfl) (by kernel_rfl) (fun _ _ _ h => h) (Or.inl ⟨by rfl, ?hy0z29⟩) (by assumption) ?rest0z29
  case hy0z29 =>
    intro w hSw
    dsimp only [SI] at hSw
    go_simp
    try with_reducible rfl
  simp only [Act.put, List.getElem_toArray, List.getElem_cons_succ, List.getElem_cons_zero, List.setIfInBounds_toArray, List.set_cons_zero, List.set_cons_succ]
  refine wpAnyH_take (i := 1) (v := ?v1z30) rfl (by kernel_rfl) (by kernel_rfl) (by kernel_rfl) (fun _ _ _ h => h) (Or.inl ⟨by rfl, ?hy1z30⟩) (by assumption) ?rest1z30
  case hy1z30 =>
    intro w hSw
    dsimp only [SI] at hSw
    go_simp
    try with_reducible rfl
  simp only [Act.put, List.getElem_toArray, List.getElem_cons_succ, List.getElem_cons_zero, List.setIfInBounds_toArray, List.set_cons_zero, List.set_cons_succ]
  refine wpAnyH_take (i := 2) (v := ?v2z31) rfl (by kernel_rfl) (by kernel_rfl) (by kernel_rfl) (fun _ _ _ h => h) (Or.inl ⟨by rfl, ?hy2z31⟩) (by assumption) ?rest2z31
  case hy2z31 =>
    intro w hSw
    dsimp only [SI] at hSw
    go_simp
    try with_reducible rfl
  simp only [Act.put, List.getElem_toArray, List.getElem_cons_succ, List.getElem_cons_zero, List.setIfInBounds_toArray, List.set_cons_zero, List.set_cons_succ]
  refine wpAnyH_take (i := 3) (v := ?v3z32) rfl (by kernel_rfl) (by kernel_rfl) (by kernel_rfl) (fun _ _ _ h => h) (Or.inl ⟨by rfl, ?hy3z32⟩) (by assumption) ?rest3z32
  case hy3z32 =>
    intro w hSw
    dsimp only [SI] at hSw
    go_simp
    try with_reducible rfl
  simp only [Act.put, List.getElem_toArray, List.getElem_cons_succ, List.getElem_cons_zero, List.setIfInBounds_toArray, List.set_cons_zero, List.set_cons_succ]
  refine wpAnyH_take (i := 4) (v := ?v4z33) rfl (by kernel_rfl) (by kernel_rfl) (by kernel_rfl) (fun _ _ _ h => h) (Or.inl ⟨by rfl, ?hy4z33⟩) (by assumption) ?rest4z33
  case hy4z33 =>
    intro w hSw
    dsimp only [SI] at hSw
    go_simp
    try with_reducible rfl
  simp only [Act.put, List.getElem_toArray, List.getElem_cons_succ, List.getElem_cons_zero, List.setIfInBounds_toArray, List.set_cons_zero, List.set_cons_succ]
  refine wpAnyH_take (i := 5) (v := ?v5z34) rfl (by kernel_rfl) (by kernel_rfl) (by kernel_rfl) (fun _ _ _ h => h) (Or.inl ⟨by rfl, ?hy5z34⟩) (by assumption) ?rest5z34
  case hy5z34 =>
    intro w hSw
    dsimp only [SI] at hSw
    go_simp
    try with_reducible rfl
  simp only [Act.put, List.getElem_toArray, List.getElem_cons_succ, List.getElem_cons_zero, List.setIfInBounds_toArray, List.set_cons_zero, List.set_cons_succ]
  refine wpAnyH_take (i := 7) (v := ?v7z35) rfl (by kernel_rfl) (by kernel_rfl) (by kernel_rfl) (fun _ _ _ h => h) (Or.inl ⟨by rfl, ?hy7z35⟩) (by assumption) ?rest7z35
  case hy7z35 =>
    intro w hSw
    dsimp only [SI] at hSw
    go_simp
    try with_reducible rfl
  simp only [Act.put, List.getElem_toArray, List.getElem_cons_succ, List.getElem_cons_zero, List.setIfInBounds_toArray, List.set_cons_zero, List.set_cons_succ]
  refine wpAnyH_take (i := 8) (v := ?v8z36) rfl (by kernel_rfl) (by kernel_rfl) (by kernel_rfl) (fun _ _ _ h => h) (Or.inl ⟨by rfl, ?hy8z36⟩) (by assumption) ?rest8z36
  case hy8z36 =>
    intro w hSw
    dsimp only [SI] at hSw
    go_simp
    try with_reducible rfl
  simp only [Act.put, List.getElem_toArray, List.getElem_cons_succ, List.getElem_cons_zero, List.setIfInBounds_toArray, List.set_cons_zero, List.set_cons_succ]
  refine wpAnyH_take (i := 9) (v := ?v9z37) rfl (by kernel_rfl) (by kernel_rfl) (by kernel_rfl) (fun _ _ _ h => h) (Or.inl ⟨by rfl, ?hy9z37⟩) (by assumption) ?rest9z37
  case hy9z37 =>
    intro w hSw
    dsimp only [SI] at hSw
    go_simp
    try with_reducible rfl
  simp only [Act.put, List.getElem_toArray, List.getElem_cons_succ, List.getElem_cons_zero, List.setIfInBounds_toArray, List.set_cons_zero, List.set_cons_succ]
  refine wpAnyH_ready (rs := [6]) (by kernel_rfl) (by simp) ?_
  refine AllReadyH.cons rfl (fun K hK => ?_) AllReadyH.nil
  go_simp
  refine (withSign_c (b1 != b2) qa qk qc _ _ L1'.out).mono ?_
  rintro e W3 ⟨b', rfl, hz, bc⟩
  try go_simp
  have J3 := Lib.hid (J2.out.keep bc)
  have hT := J3.out.si
  have HQ : Hid (Zn W3 b' qa qk qc (z1.tdiv z2)) := by
    rw [zv_tdiv, ← E1.out, ← E2.out] at hz
    exact hz
  have L2 := Lib.hid (L2'.out.below bc)
  refine hK.out _ _ hT (fun _ => ?_)
  clear hK K hS bc J2 hz L1' L2'
  have hS := hT
  clear hT
  try simp only [Act.put, List.setIfInBounds_toArray, List.set_cons_zero, List.set_cons_succ]
  refine wpAnyH_ready (rs := [10]) (by kernel_rfl) (by simp) ?_
  refine AllReadyH.cons rfl (fun K hK => ?_) AllReadyH.nil
  go_simp
  refine (withSign_c b1 ra rk rc _ W3 L2.out).mono ?_
  rintro e W4 ⟨b'', rfl, hz, bc⟩
  try go_simp
  have J4 := Lib.hid (J3.out.keep bc)
  have hT := J4.out.si
  have HR : Hid (Zn W4 b'' ra rk rc (z1.tmod z2)) := by
    rw [zv_tmod b1 b2, ← E1.out, ← E2.out] at hz
    exact hz
  have HQ4 := Lib.hid (HQ.out.below bc)
  refine hK.out _ _ hT (fun _ => ?_)
  clear hK K hS bc J3 hz L2 HQ
  have hS := hT
  clear hT
  try simp only [Act.put, List.setIfInBounds_toArray, List.set_cons_zero, List.set_cons_succ]
  refine wpAnyH_ready (rs := [11]) (by kernel_rfl) (by simp) ?_
  refine AllReadyH.cons rfl (fun K hK => ?_) AllReadyH.nil
  have q0 := J4.out.r.c0
  have q1 := J4.out.r.c1
  have g0 := J4.out.r.fr 0
  have g1 := J4.out.r.fr 1
  go_simp
  clear q0 q1 g0 g1
  obtain ⟨W5, hW5⟩ : ∃ W5, two W4 (w.heap.size + 1 + 1) (.bool b') (.slice qa qk qc) = W5 := ⟨_, rfl⟩
  have R5 : B2 W5 (w.heap.size + 1 + 1) (.bool b') (.slice qa qk qc) := by rw [← hW5]; exact J4.out.r.set _ _
  have S5 : B2 W5 (w.heap.size + 1 + 1 + 1) (.bool false) (.slice none 0 0) := by rw [← hW5]; exact J4.out.s.other (by omega) _ _
  have hT : SI w.heap.size b1 a1 k1 c1 b2 a2 k2 c2 W5 := by rw [← hW5]; exact ⟨(J4.out.x.other (by omega) _ _).c0, (J4.out.x.other (by omega) _ _).c1, (J4.out.y.other (by omega) _ _).c0, (J4.out.y.other (by omega) _ _).c1⟩
  have hX : B2 W5 w.heap.size (.bool b1) (.slice a1 k1 c1) := by rw [← hW5]; exact J4.out.x.other (by omega) _ _
  have hY : B2 W5 (w.heap.size + 1) (.bool b2) (.slice a2 k2 c2) := by rw [← hW5]; exact J4.out.y.other (by omega) _ _
  have HQ5 : Hid (Zn W5 b' qa qk qc (z1.tdiv z2)) := by rw [← hW5]; exact HQ4.out.set2 J4.out.r _ _
  have HR5 : Hid (Zn W5 b'' ra rk rc (z1.tmod z2)) := by rw [← hW5]; exact HR.out.set2 J4.out.r _ _
  have B5 : Hid (Below w.heap.size w W5) := by rw [← hW5]; exact below_two J4.out.bel (by omega) _ _
  unfold two at hW5
  rw [hW5]
  refine hK.out _ _ hT (fun _ => ?_)
  clear hK K hS hW5 J4 HQ4 HR
  have hS := hT
  clear hT
  try simp only [Act.put, List.setIfInBounds_toArray, List.set_cons_zero, List.set_cons_succ]
  refine wpAnyH_ready (rs := [12]) (by kernel_rfl) (by simp) ?_
  refine AllReadyH.cons rfl (fun K hK => ?_) AllReadyH.nil
  have q0 := S5.c0
  have q1 := S5.c1
  have g0 := S5.fr 0
  have g1 := S5.fr 1
  go_simp
  clear q0 q1 g0 g1
  obtain ⟨W6, hW6⟩ : ∃ W6, two W5 (w.heap.size + 1 + 1 + 1) (.bool b'') (.slice ra rk rc) = W6 := ⟨_, rfl⟩
  have R6 : B2 W6 (w.heap.size + 1 + 1) (.bool b') (.slice qa qk qc) := by rw [← hW6]; exact R5.other (by omega) _ _
  have S6 : B2 W6 (w.heap.size + 1 + 1 + 1) (.bool b'') (.slice ra rk rc) := by rw [← hW6]; exact S5.set _ _
  have hT : SI w.heap.size b1 a1 k1 c1 b2 a2 k2 c2 W6 := by rw [← hW6]; exact ⟨(hX.other (by omega) _ _).c0, (hX.other (by omega) _ _).c1, (hY.other (by omega) _ _).c0, (hY.other (by omega) _ _).c1⟩
  have PP : Hid (DvPost (z1.tdiv z2) (z1.tmod z2) w (.returned (.tuple #[.agg #[.bool b', .slice qa qk qc], .agg #[.bool b'', .slice ra rk rc]])) W6) := by
    rw [← hW6]
    exact ⟨_, _, _, _, _, _, _, _, rfl, HQ5.out.set2 S5 _ _, HR5.out.set2 S5 _ _, below_two B5.out (by omega) _ _⟩
  unfold two at hW6
  rw [hW6]
  refine hK.out _ _ hT (fun _ => ?_)
  clear hK K hS hW6 R5 S5 hX hY
  try simp only [Act.put, List.setIfInBounds_toArray, List.set_cons_zero, List.set_cons_succ]
  refine wpAnyH_done (by kernel_rfl) ?_ _
  refine NoPanic.normal ?_
  obtain ⟨r0, r1, _, _⟩ := id R6
  obtain ⟨s0, s1, _, _⟩ := id S6
  clear hT R6 S6
  go_wp2_with fail
  exact bodyPost_ret (v := .tuple #[.agg #[.bool b', .slice qa qk qc], .agg #[.bool b'', .slice ra rk rc]]) (by simp [results, Tryd.results40, go_sem, r0, r1, s0, s1]) rfl PP.out
end Go.Proofs.YtaibpppobblnoaaDoor
