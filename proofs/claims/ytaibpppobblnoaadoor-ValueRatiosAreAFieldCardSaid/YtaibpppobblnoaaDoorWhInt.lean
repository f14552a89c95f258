/-
  Whole numbers of any size: sums, products, signs, the order.
-/
import Derived.Test.YtaibpppobblnoaaDoorWhIntB
namespace Go.Proofs.YtaibpppobblnoaaDoor
open Go.RowKit

theorem zv_mul (b1 b2 : Bool) (n1 n2 : Nat) : zv (b1 != b2) (n1 * n2) = zv b1 n1 * zv b2 n2 := by
  cases b1 <;> cases b2 <;> simp [zv, Int.neg_mul, Int.mul_neg]
theorem zv_same (b : Bool) (n1 n2 : Nat) : zv b (n1 + n2) = zv b n1 + zv b n2 := by
  cases b
  · simp [zv]
  · simp only [zv, if_true]; omega
theorem zv_diff {b1 b2 : Bool} (h : b1 ≠ b2) {n1 n2 : Nat} (hle : n2 ≤ n1) : zv b1 (n1 - n2) = zv b1 n1 + zv b2 n2 := by
  cases b1 <;> cases b2
  · exact absurd rfl h
  · simp only [zv, if_true, Bool.false_eq_true, if_false]; omega
  · simp only [zv, if_true, Bool.false_eq_true, if_false]; omega
  · exact absurd rfl h
theorem zv_minus (b : Bool) (n : Nat) : zv (!b) n = -(zv b n) := by cases b <;> simp [zv]
/-- What the walks read of the arguments' boxes. -/
def SI (g : Nat) (b1 : Bool) (a1 : Option Addr) (k1 c1 : Nat) (b2 : Bool) (a2 : Option Addr) (k2 c2 : Nat) (W : World) : Prop :=
  W.cell? ⟨g, 0, none⟩ = some (.bool b1) ∧ W.cell? ⟨g, 1, none⟩ = some (.slice a1 k1 c1) ∧ W.cell? ⟨g + 1, 0, none⟩ = some (.bool b2) ∧ W.cell? ⟨g + 1, 1, none⟩ = some (.slice a2 k2 c2)
theorem I3.si {w : World} {b1 : Bool} {a1 : Option Addr} {k1 c1 : Nat} {b2 : Bool} {a2 : Option Addr} {k2 c2 : Nat} {W : World} (h : I3 w b1 a1 k1 c1 b2 a2 k2 c2 W) : SI w.heap.size b1 a1 k1 c1 b2 a2 k2 c2 W := ⟨h.x.c0, h.x.c1, h.y.c0, h.y.c1⟩
/-- A result's box is filled. -/
theorem I3.done {w : World} {b1 : Bool} {a1 : Option Addr} {k1 c1 : Nat} {b2 : Bool} {a2 : Option Addr} {k2 c2 : Nat} {W : World} (h : I3 w b1 a1 k1 c1 b2 a2 k2 c2 W) (y0 y1 : Value) : SI w.heap.size b1 a1 k1 c1 b2 a2 k2 c2 (two W (w.heap.size + 1 + 1) y0 y1) :=
  ⟨(h.x.other (by omega) _ _).c0, (h.x.other (by omega) _ _).c1, (h.y.other (by omega) _ _).c0, (h.y.other (by omega) _ _).c1⟩
set_option maxRecDepth 100000 in
set_option maxHeartbeats 4000000 in
theorem Times_c (b1 b2 : Bool) (a1 a2 : Option Addr) (k1 k2 c1 c2 : Nat) (z1 z2 : Int) (w : World) (h1 : Zn w b1 a1 k1 c1 z1) (h2 : Zn w b2 a2 k2 c2 z2) (n1 : z1.natAbs < bp 2000) (n2 : z2.natAbs < bp 2000) :
    Calls Tryd.prog 27 #[.agg #[.bool b1, .slice a1 k1 c1], .agg #[.bool b2, .slice a2 k2 c2]] w (ZPost (z1 * z2) w) := by
  obtain ⟨W0, hW0⟩ : ∃ W0, ((w.alloc (.cells #[.bool b1, .slice a1 k1 c1] 37)).alloc (.cells #[.bool b2, .slice a2 k2 c2] 37)).alloc (.cells #[.bool false, .slice none 0 0] 37) = W0 := ⟨_, rfl⟩
  have J0 : Hid (I3 w b1 a1 k1 c1 b2 a2 k2 c2 W0) := by rw [← hW0]; exact I3.made _ _ _ _ _ _ _ _ _ _ _ _
  have M1 := Lib.hid (fun W (h : I3 w b1 a1 k1 c1 b2 a2 k2 c2 W) => h1.nm.below h.bel)
  have M2 := Lib.hid (fun W (h : I3 w b1 a1 k1 c1 b2 a2 k2 c2 W) => h2.nm.below h.bel)
  have N1 := Lib.hid n1
  have N2 := Lib.hid n2
  have E1 := Lib.hid h1.zv
  have E2 := Lib.hid h2.zv
  clear h1 h2 n1 n2
  go_enter Tryd.func27, Tryd.ntmps27
  go_wp2_with fail
  clear hW0
  refine wp_region_noPanic ?_
  refine wp_region_held_drew (S := SI w.heap.size b1 a1 k1 c1 b2 a2 k2 c2) (by kernel_rfl) (J0.out.keep (Below.refl _ _).drew).si (fun hS => ?_)
  have J1 := Lib.hid (J0.out.keep (Below.refl _ _).drew)
  refine wpAnyH_take (i := 0) (v := ?v0z1) rfl (by kernel_rfl) (by kernel_rfl) (by kernel_rfl) (fun _ _ _ h => h) (Or.inl ⟨by rfl, ?hy0z1⟩) (by assumption) ?rest0z1
  case hy0z1 =>
    intro w hSw
    dsimp only [SI] at hSw
    go_simp
    try with_reducible rfl
  simp only [Act.put, List.getElem_toArray, List.getElem_cons_succ, List.getElem_cons_zero, List.setIfInBounds_toArray, List.set_cons_zero, List.set_cons_succ]
  refine wpAnyH_take (i := 1) (v := ?v1z2) rfl (by kernel_rfl) (by kernel_rfl) (by kernel_rfl) (fun _ _ _ h => h) (Or.inl ⟨by rfl, ?hy1z2⟩) (by assumption) ?rest1z2
  case hy1z2 =>
    intro w hSw
    dsimp only [SI] at hSw
    go_simp
    try with_reducible rfl
  simp only [Act.put, List.getElem_toArray, List.getElem_cons_succ, List.getElem_cons_zero, List.setIfInBounds_toArray, List.set_cons_zero, List.set_cons_succ]
  refine wpAnyH_take (i := 2) (v := ?v2z3) rfl (by kernel_rfl) (by kernel_rfl) (by kernel_rfl) (fun _ _ _ h => h) (Or.inl ⟨by rfl, ?hy2z3⟩) (by assumption) ?rest2z3
  case hy2z3 =>
    intro w hSw
    dsimp only [SI] at hSw
    go_simp
    try with_reducible rfl
  simp only [Act.put, List.getElem_toArray, List.getElem_cons_succ, List.getElem_cons_zero, List.setIfInBounds_toArray, List.set_cons_zero, List.set_cons_succ]
  refine wpAnyH_take (i := 3) (v := ?v3z4) rfl (by kernel_rfl) (by kernel_rfl) (by kernel_rfl) (fun _ _ _ h => h) (Or.inl ⟨by rfl, ?hy3z4⟩) (by assumption) ?rest3z4
  case hy3z4 =>
    intro w hSw
    dsimp only [SI] at hSw
    go_simp
    try with_reducible rfl
  simp only [Act.put, List.getElem_toArray, List.getElem_cons_succ, List.getElem_cons_zero, List.setIfInBounds_toArray, List.set_cons_zero, List.set_cons_succ]
  refine wpAnyH_take (i := 4) (v := ?v4z5) rfl (by kernel_rfl) (by kernel_rfl) (by kernel_rfl) (fun _ _ _ h => h) (Or.inl ⟨by rfl, ?hy4z5⟩) (by assumption) ?rest4z5
  case hy4z5 =>
    intro w hSw
    dsimp only [SI] at hSw
    go_simp
    try with_reducible rfl
  simp only [Act.put, List.getElem_toArray, List.getElem_cons_succ, List.getElem_cons_zero, List.setIfInBounds_toArray, List.set_cons_zero, List.set_cons_succ]
  refine wpAnyH_take (i := 5) (v := ?v5z6) rfl (by kernel_rfl) (by kernel_rfl) (by kernel_rfl) (fun _ _ _ h => h) (Or.inl ⟨by rfl, ?hy5z6⟩) (by assumption) ?rest5z6
  case hy5z6 =>
    intro w hSw
    dsimp only [SI] at hSw
    go_simp
    try with_reducible rfl
  simp only [Act.put, List.getElem_toArray, List.getElem_cons_succ, List.getElem_cons_zero, List.setIfInBounds_toArray, List.set_cons_zero, List.set_cons_succ]
  refine wpAnyH_take (i := 6) (v := ?v6z7) rfl (by kernel_rfl) (by kernel_rfl) (by kernel_rfl) (fun _ _ _ h => h) (Or.inl ⟨by rfl, ?hy6z7⟩) (by assumption) ?rest6z7
  case hy6z7 =>
    intro w hSw
    dsimp only [SI] at hSw
    go_simp
    try with_reducible rfl
  simp only [Act.put, List.getElem_toArray, List.getElem_cons_succ, List.getElem_cons_zero, List.setIfInBounds_toArray, List.set_cons_zero, List.set_cons_succ]
  refine wpAnyH_take (i := 7) (v := ?v7z8) rfl (by kernel_rfl) (by kernel_rfl) (by kernel_rfl) (fun _ _ _ h => h) (Or.inl ⟨by rfl, ?hy7z8⟩) (by assumption) ?rest7z8
  case hy7z8 =>
    intro w hSw
    dsimp only [SI] at hSw
    go_simp
    try with_reducible rfl
  simp only [Act.put, List.getElem_toArray, List.getElem_cons_succ, List.getElem_cons_zero, List.setIfInBounds_toArray, List.set_cons_zero, List.set_cons_succ]
  refine wpAnyH_take (i := 8) (v := ?v8z9) rfl (by kernel_rfl) (by kernel_rfl) (by kernel_rfl) (fun _ _ _ h => h) (Or.inl ⟨by rfl, ?hy8z9⟩) (by assumption) ?rest8z9
  case hy8z9 =>
    intro w hSw
    dsimp only [SI] at hSw
    go_simp
    try with_reducible rfl
  simp only [Act.put, List.getElem_toArray, List.getElem_cons_succ, List.getElem_cons_zero, List.setIfInBounds_toArray, List.set_cons_zero, List.set_cons_succ]
  refine wpAnyH_ready (rs := [9]) (by kernel_rfl) (by simp) ?_
  refine AllReadyH.cons rfl (fun K hK => ?_) AllReadyH.nil
  go_simp
  refine (product_c a1 a2 k1 k2 c1 c2 _ _ _ (M1.out _ J1.out) (M2.out _ J1.out) N1.out N2.out).mono ?_
  rintro e W2 ⟨pa, pk, pc, rfl, hp, bc⟩
  try go_simp
  have J2 := Lib.hid (J1.out.keep bc)
  have hT := J2.out.si
  have HP := Lib.hid hp
  refine hK.out _ _ hT (fun _ => ?_)
  clear hK K hS bc J1 hp
  have hS := hT
  clear hT
  try simp only [Act.put, List.setIfInBounds_toArray, List.set_cons_zero, List.set_cons_succ]
  refine wpAnyH_ready (rs := [10]) (by kernel_rfl) (by simp) ?_
  refine AllReadyH.cons rfl (fun K hK => ?_) AllReadyH.nil
  go_simp
  refine (withSign_c (b1 != b2) pa pk pc _ W2 HP.out).mono ?_
  rintro e W3 ⟨b', rfl, hz, bc⟩
  try go_simp
  have J3 := Lib.hid (J2.out.keep bc)
  have hT := J3.out.si
  have HZ : Hid (Zn W3 b' pa pk pc (z1 * z2)) := by
    rw [zv_mul, ← E1.out, ← E2.out] at hz
    exact hz
  refine hK.out _ _ hT (fun _ => ?_)
  clear hK K hS bc J2 hz HP
  have hS := hT
  clear hT
  try simp only [Act.put, List.setIfInBounds_toArray, List.set_cons_zero, List.set_cons_succ]
  refine wpAnyH_ready (rs := [11]) (by kernel_rfl) (by simp) ?_
  refine AllReadyH.cons rfl (fun K hK => ?_) AllReadyH.nil
  have q0 := J3.out.r.c0
  have q1 := J3.out.r.c1
  have g0 := J3.out.r.fr 0
  have g1 := J3.out.r.fr 1
  go_simp
  clear q0 q1 g0 g1
  have hT := J3.out.done (.bool b') (.slice pa pk pc)
  have R9 := J3.out.r.set (.bool b') (.slice pa pk pc)
  have PP : Hid (ZPost (z1 * z2) w (.returned (.agg #[.bool b', .slice pa pk pc])) (two W3 (w.heap.size + 1 + 1) (.bool b') (.slice pa pk pc))) :=
    ⟨_, _, _, _, rfl, HZ.out.set2 J3.out.r _ _, below_two J3.out.bel (by omega) _ _⟩
  unfold two at hT R9 PP
  refine hK.out _ _ hT (fun _ => ?_)
  clear hK K hS
  try simp only [Act.put, List.setIfInBounds_toArray, List.set_cons_zero, List.set_cons_succ]
  refine wpAnyH_done (by kernel_rfl) ?_ _
  refine NoPanic.normal ?_
  obtain ⟨r0, r1, _, _⟩ := id R9
  clear hT R9
  go_wp2_with fail
  exact bodyPost_ret (v := .agg #[.bool b', .slice pa pk pc]) (by simp [results, Tryd.results27, go_sem, r0, r1]) rfl PP.out
set_option maxRecDepth 100000 in
set_option maxHeartbeats 4000000 in
theorem Plus_same (b : Bool) (a1 a2 : Option Addr) (k1 k2 c1 c2 : Nat) (z1 z2 : Int) (w : World) (h1 : Zn w b a1 k1 c1 z1) (h2 : Zn w b a2 k2 c2 z2) (n1 : z1.natAbs < bp 2000) (n2 : z2.natAbs < bp 2000) :
    Calls Tryd.prog 29 #[.agg #[.bool b, .slice a1 k1 c1], .agg #[.bool b, .slice a2 k2 c2]] w (ZPost (z1 + z2) w) := by
  obtain ⟨W0, hW0⟩ : ∃ W0, ((w.alloc (.cells #[.bool b, .slice a1 k1 c1] 37)).alloc (.cells #[.bool b, .slice a2 k2 c2] 37)).alloc (.cells #[.bool false, .slice none 0 0] 37) = W0 := ⟨_, rfl⟩
  have J0 : Hid (I3 w b a1 k1 c1 b a2 k2 c2 W0) := by rw [← hW0]; exact I3.made _ _ _ _ _ _ _ _ _ _ _ _
  have M1 := Lib.hid (fun W (h : I3 w b a1 k1 c1 b a2 k2 c2 W) => h1.nm.below h.bel)
  have M2 := Lib.hid (fun W (h : I3 w b a1 k1 c1 b a2 k2 c2 W) => h2.nm.below h.bel)
  have N1 := Lib.hid n1
  have N2 := Lib.hid n2
  have E1 := Lib.hid h1.zv
  have E2 := Lib.hid h2.zv
  have P1 : Hid (b = true → 0 < z1.natAbs) := by
    intro e
    obtain ⟨n, _, hp, rfl⟩ := h1
    rw [zv_abs]; exact hp e
  have hbb : (b == b) = true := by simp
  clear h1 h2 n1 n2
  have x0 := J0.out.x.c0
  have x1 := J0.out.x.c1
  have y0 := J0.out.y.c0
  have y1 := J0.out.y.c1
  go_enter Tryd.func29, Tryd.ntmps29
  go_wp2_with fail
  clear hW0
  clear x0 x1 y0 y1
  refine wp_region_noPanic ?_
  refine wp_region_held_drew (S := SI w.heap.size b a1 k1 c1 b a2 k2 c2) (by kernel_rfl) (J0.out.keep (Below.refl _ _).drew).si (fun hS => ?_)
  have J1 := Lib.hid (J0.out.keep (Below.refl _ _).drew)
  refine wpAnyH_take (i := 0) (v := ?v0z10) rfl (by kernel_rfl) (by kernel_rfl) (by kernel_rfl) (fun _ _ _ h => h) (Or.inl ⟨by rfl, ?hy0z10⟩) (by assumption) ?rest0z10
  case hy0z10 =>
    intro w hSw
    dsimp only [SI] at hSw
    go_simp
    try with_reducible rfl
  simp only [Act.put, List.getElem_toArray, List.getElem_cons_succ, List.getElem_cons_zero, List.setIfInBounds_toArray, List.set_cons_zero, List.set_cons_succ]
  refine wpAnyH_take (i := 1) (v := ?v1z11) rfl (by kernel_rfl) (by kernel_rfl) (by kernel_rfl) (fun _ _ _ h => h) (Or.inl ⟨by rfl, ?hy1z11⟩) (by assumption) ?rest1z11
  case hy1z11 =>
    intro w hSw
    dsimp only [SI] at hSw
    go_simp
    try with_reducible rfl
  simp only [Act.put, List.getElem_toArray, List.getElem_cons_succ, List.getElem_cons_zero, List.setIfInBounds_toArray, List.set_cons_zero, List.set_cons_succ]
  refine wpAnyH_take (i := 2) (v := ?v2z12) rfl (by kernel_rfl) (by kernel_rfl) (by kernel_rfl) (fun _ _ _ h => h) (Or.inl ⟨by rfl, ?hy2z12⟩) (by assumption) ?rest2z12
  case hy2z12 =>
    intro w hSw
    dsimp only [SI] at hSw
    go_simp
    try with_reducible rfl
  simp only [Act.put, List.getElem_toArray, List.getElem_cons_succ, List.getElem_cons_zero, List.setIfInBounds_toArray, List.set_cons_zero, List.set_cons_succ]
  refine wpAnyH_take (i := 3) (v := ?v3z13) rfl (by kernel_rfl) (by kernel_rfl) (by kernel_rfl) (fun _ _ _ h => h) (Or.inl ⟨by rfl, ?hy3z13⟩) (by assumption) ?rest3z13
  case hy3z13 =>
    intro w hSw
    dsimp only [SI] at hSw
    go_simp
    try with_reducible rfl
  simp only [Act.put, List.getElem_toArray, List.getElem_cons_succ, List.getElem_cons_zero, List.setIfInBounds_toArray, List.set_cons_zero, List.set_cons_succ]
  refine wpAnyH_take (i := 4) (v := ?v4z14) rfl (by kernel_rfl) (by kernel_rfl) (by kernel_rfl) (fun _ _ _ h => h) (Or.inl ⟨by rfl, ?hy4z14⟩) (by assumption) ?rest4z14
  case hy4z14 =>
    intro w hSw
    dsimp only [SI] at hSw
    go_simp
    try with_reducible rfl
  simp only [Act.put, List.getElem_toArray, List.getElem_cons_succ, List.getElem_cons_zero, List.setIfInBounds_toArray, List.set_cons_zero, List.set_cons_succ]
  refine wpAnyH_take (i := 5) (v := ?v5z15) rfl (by kernel_rfl) (by kernel_rfl) (by kernel_rfl) (fun _ _ _ h => h) (Or.inl ⟨by rfl, ?hy5z15⟩) (by assumption) ?rest5z15
  case hy5z15 =>
    intro w hSw
    dsimp only [SI] at hSw
    go_simp
    try with_reducible rfl
  simp only [Act.put, List.getElem_toArray, List.getElem_cons_succ, List.getElem_cons_zero, List.setIfInBounds_toArray, List.set_cons_zero, List.set_cons_succ]
  refine wpAnyH_ready (rs := [6]) (by kernel_rfl) (by simp) ?_
  refine AllReadyH.cons rfl (fun K hK => ?_) AllReadyH.nil
  go_simp
  refine (sum_c a1 a2 k1 k2 c1 c2 _ _ _ (M1.out _ J1.out) (M2.out _ J1.out) N1.out N2.out).mono ?_
  rintro e W3 ⟨pa, pk, pc, rfl, hp, bc⟩
  try go_simp
  have J3 := Lib.hid (J1.out.keep bc)
  have hT := J3.out.si
  have HZ : Hid (Zn W3 b pa pk pc (z1 + z2)) := by
    refine ⟨_, hp, fun e => by have := P1.out e; omega, ?_⟩
    rw [zv_same, ← E1.out, ← E2.out]
  refine hK.out _ _ hT (fun _ => ?_)
  clear hK K hS bc J1 hp
  have hS := hT
  clear hT
  try simp only [Act.put, List.setIfInBounds_toArray, List.set_cons_zero, List.set_cons_succ]
  refine wpAnyH_take (i := 7) (v := ?v7z16) rfl (by kernel_rfl) (by kernel_rfl) (by kernel_rfl) (fun _ _ _ h => h) (Or.inl ⟨by rfl, ?hy7z16⟩) (by assumption) ?rest7z16
  case hy7z16 =>
    intro w hSw
    dsimp only [SI] at hSw
    go_simp
    try with_reducible rfl
  simp only [Act.put, List.getElem_toArray, List.getElem_cons_succ, List.getElem_cons_zero, List.setIfInBounds_toArray, List.set_cons_zero, List.set_cons_succ]
  refine wpAnyH_ready (rs := [8]) (by kernel_rfl) (by simp) ?_
  refine AllReadyH.cons rfl (fun K hK => ?_) AllReadyH.nil
  have q0 := J3.out.r.c0
  have q1 := J3.out.r.c1
  have g0 := J3.out.r.fr 0
  have g1 := J3.out.r.fr 1
  go_simp
  clear q0 q1 g0 g1
  have hT := J3.out.done (.bool b) (.slice pa pk pc)
  have R9 := J3.out.r.set (.bool b) (.slice pa pk pc)
  have PP : Hid (ZPost (z1 + z2) w (.returned (.agg #[.bool b, .slice pa pk pc])) (two W3 (w.heap.size + 1 + 1) (.bool b) (.slice pa pk pc))) :=
    ⟨_, _, _, _, rfl, HZ.out.set2 J3.out.r _ _, below_two J3.out.bel (by omega) _ _⟩
  unfold two at hT R9 PP
  refine hK.out _ _ hT (fun _ => ?_)
  clear hK K hS
  try simp only [Act.put, List.setIfInBounds_toArray, List.set_cons_zero, List.set_cons_succ]
  refine wpAnyH_done (by kernel_rfl) ?_ _
  refine NoPanic.normal ?_
  obtain ⟨r0, r1, _, _⟩ := id R9
  clear hT R9
  go_wp2_with fail
  exact bodyPost_ret (v := .agg #[.bool b, .slice pa pk pc]) (by simp [results, Tryd.results29, go_sem, r0, r1]) rfl PP.out
set_option maxRecDepth 100000 in
set_option maxHeartbeats 4000000 in
theorem Plus_diff (b1 b2 : Bool) (a1 a2 : Option Addr) (k1 k2 c1 c2 : Nat) (z1 z2 : Int) (w : World) (h1 : Zn w b1 a1 k1 c1 z1) (h2 : Zn w b2 a2 k2 c2 z2) (hne : b1 ≠ b2) (hlt : z2.natAbs ≤ z1.natAbs) :
    Calls Tryd.prog 29 #[.agg #[.bool b1, .slice a1 k1 c1], .agg #[.bool b2, .slice a2 k2 c2]] w (ZPost (z1 + z2) w) := by
  obtain ⟨W0, hW0⟩ : ∃ W0, ((w.alloc (.cells #[.bool b1, .slice a1 k1 c1] 37)).alloc (.cells #[.bool b2, .slice a2 k2 c2] 37)).alloc (.cells #[.bool false, .slice none 0 0] 37) = W0 := ⟨_, rfl⟩
  have J0 : Hid (I3 w b1 a1 k1 c1 b2 a2 k2 c2 W0) := by rw [← hW0]; exact I3.made _ _ _ _ _ _ _ _ _ _ _ _
  have M1 := Lib.hid h1.nm
  have M2 := Lib.hid h2.nm
  have E1 := Lib.hid h1.zv
  have E2 := Lib.hid h2.zv
  have HC := Lib.hid (compare_c a1 a2 k1 k2 c1 c2 _ _ W0 (h1.nm.below J0.out.bel) (h2.nm.below J0.out.bel))
  have hd : decide (sgn z1.natAbs z2.natAbs < 0) = false := by rw [sgn_neg]; simp; omega
  have HLE := Lib.hid hlt
  have hbe : (b1 == b2) = false := by rw [beq_eq_false_iff_ne]; exact hne
  have HNE := Lib.hid hne
  clear h1 h2 hne hlt
  generalize sgn z1.natAbs z2.natAbs = sg at *
  have x0 := J0.out.x.c0
  have x1 := J0.out.x.c1
  have y0 := J0.out.y.c0
  have y1 := J0.out.y.c1
  go_enter Tryd.func29, Tryd.ntmps29
  go_wp2_with fail
  clear hW0
  refine HC.out.mono ?_
  rintro e w1 ⟨rfl, q, rfl⟩
  have J1 := Lib.hid (J0.out.keep (bel_drewN W0 q))
  have M1' := Lib.hid (M1.out.below (J1.out.bel))
  have M2' := Lib.hid (M2.out.below (J1.out.bel))
  clear x0 x1 y0 y1 HC J0 M1 M2
  generalize W0.drewN q = W1 at *
  have x0 := J1.out.x.c0
  have x1 := J1.out.x.c1
  have y0 := J1.out.y.c0
  have y1 := J1.out.y.c1
  have J0 := Lib.hid J1.out
  have M1 := Lib.hid M1'.out
  have M2 := Lib.hid M2'.out
  clear J1 M1' M2'
  go_wp2_with fail
  clear x0 x1 y0 y1
  refine wp_region_noPanic ?_
  refine wp_region_held_drew (S := SI w.heap.size b1 a1 k1 c1 b2 a2 k2 c2) (by kernel_rfl) (J0.out.keep (Below.refl _ _).drew).si (fun hS => ?_)
  have J2 := Lib.hid (J0.out.keep (Below.refl _ _).drew)
  refine wpAnyH_take (i := 0) (v := ?v0z17) rfl (by kernel_rfl) (by kernel_rfl) (by kernel_rfl) (fun _ _ _ h => h) (Or.inl ⟨by rfl, ?hy0z17⟩) (by assumption) ?rest0z17
  case hy0z17 =>
    intro w hSw
    dsimp only [SI] at hSw
    go_simp
    try with_reducible rfl
  simp only [Act.put, List.getElem_toArray, List.getElem_cons_succ, List.getElem_cons_zero, List.setIfInBounds_toArray, List.set_cons_zero, List.set_cons_succ]
  refine wpAnyH_take (i := 1) (v := ?v1z18) rfl (by kernel_rfl) (by kernel_rfl) (by kernel_rfl) (fun _ _ _ h => h) (Or.inl ⟨by rfl, ?hy1z18⟩) (by assumption) ?rest1z18
  case hy1z18 =>
    intro w hSw
    dsimp only [SI] at hSw
    go_simp
    try with_reducible rfl
  simp only [Act.put, List.getElem_toArray, List.getElem_cons_succ, List.getElem_cons_zero, List.setIfInBounds_toArray, List.set_cons_zero, List.set_cons_succ]
  refine wpAnyH_take (i := 2) (v := ?v2z19) rfl (by kernel_rfl) (by kernel_rfl) (by kernel_rfl) (fun _ _ _ h => h) (Or.inl ⟨by rfl, ?hy2z19⟩) (by assumption) ?rest2z19
  case hy2z19 =>
    intro w hSw
    dsimp only [SI] at hSw
    go_simp
    try with_reducible rfl
  simp only [Act.put, List.getElem_toArray, List.getElem_cons_succ, List.getElem_cons_zero, List.setIfInBounds_toArray, List.set_cons_zero, List.set_cons_succ]
  refine wpAnyH_take (i := 3) (v := ?v3z20) rfl (by kernel_rfl) (by kernel_rfl) (by kernel_rfl) (fun _ _ _ h => h) (Or.inl ⟨by rfl, ?hy3z20⟩) (by assumption) ?rest3z20
  case hy3z20 =>
    intro w hSw
    dsimp only [SI] at hSw
    go_simp
    try with_reducible rfl
  simp only [Act.put, List.getElem_toArray, List.getElem_cons_succ, List.getElem_cons_zero, List.setIfInBounds_toArray, List.set_cons_zero, List.set_cons_succ]
  refine wpAnyH_take (i := 4) (v := ?v4z21) rfl (by kernel_rfl) (by kernel_rfl) (by kernel_rfl) (fun _ _ _ h => h) (Or.inl ⟨by rfl, ?hy4z21⟩) (by assumption) ?rest4z21
  case hy4z21 =>
    intro w hSw
    dsimp only [SI] at hSw
    go_simp
    try with_reducible rfl
  simp only [Act.put, List.getElem_toArray, List.getElem_cons_succ, List.getElem_cons_zero, List.setIfInBounds_toArray, List.set_cons_zero, List.set_cons_succ]
  refine wpAnyH_take (i := 5) (v := ?v5z22) rfl (by kernel_rfl) (by kernel_rfl) (by kernel_rfl) (fun _ _ _ h => h) (Or.inl ⟨by rfl, ?hy5z22⟩) (by assumption) ?rest5z22
  case hy5z22 =>
    intro w hSw
    dsimp only [SI] at hSw
    go_simp
    try with_reducible rfl
  simp only [Act.put, List.getElem_toArray, List.getElem_cons_succ, List.getElem_cons_zero, List.setIfInBounds_toArray, List.set_cons_zero, List.set_cons_succ]
  refine wpAnyH_ready (rs := [6]) (by kernel_rfl) (by simp) ?_
  refine AllReadyH.cons rfl (fun K hK => ?_) AllReadyH.nil
  go_simp
  refine (difference_c a1 a2 k1 k2 c1 c2 _ _ _ (M1.out.below (Below.refl _ _).drew) (M2.out.below (Below.refl _ _).drew) (by have := HLE.out; omega)).mono ?_
  rintro e W4 ⟨pa, pk, pc, rfl, hp, bc⟩
  try go_simp
  have J4 := Lib.hid (J2.out.keep bc)
  have hT := J4.out.si
  have HP := Lib.hid hp
  refine hK.out _ _ hT (fun _ => ?_)
  clear hK K hS bc J2 hp
  have hS := hT
  clear hT
  try simp only [Act.put, List.setIfInBounds_toArray, List.set_cons_zero, List.set_cons_succ]
  refine wpAnyH_ready (rs := [7]) (by kernel_rfl) (by simp) ?_
  refine AllReadyH.cons rfl (fun K hK => ?_) AllReadyH.nil
  go_simp
  refine (withSign_c b1 pa pk pc _ W4 HP.out).mono ?_
  rintro e W5 ⟨b', rfl, hz, bc⟩
  try go_simp
  have J5 := Lib.hid (J4.out.keep bc)
  have hT := J5.out.si
  have HZ : Hid (Zn W5 b' pa pk pc (z1 + z2)) := by
    rw [zv_diff (b1 := b1) (b2 := b2) HNE.out (by have := HLE.out; omega), ← E1.out, ← E2.out] at hz
    exact hz
  refine hK.out _ _ hT (fun _ => ?_)
  clear hK K hS bc J4 hz HP
  have hS := hT
  clear hT
  try simp only [Act.put, List.setIfInBounds_toArray, List.set_cons_zero, List.set_cons_succ]
  refine wpAnyH_ready (rs := [8]) (by kernel_rfl) (by simp) ?_
  refine AllReadyH.cons rfl (fun K hK => ?_) AllReadyH.nil
  have q0 := J5.out.r.c0
  have q1 := J5.out.r.c1
  have g0 := J5.out.r.fr 0
  have g1 := J5.out.r.fr 1
  go_simp
  clear q0 q1 g0 g1
  have hT := J5.out.done (.bool b') (.slice pa pk pc)
  have R9 := J5.out.r.set (.bool b') (.slice pa pk pc)
  have PP : Hid (ZPost (z1 + z2) w (.returned (.agg #[.bool b', .slice pa pk pc])) (two W5 (w.heap.size + 1 + 1) (.bool b') (.slice pa pk pc))) :=
    ⟨_, _, _, _, rfl, HZ.out.set2 J5.out.r _ _, below_two J5.out.bel (by omega) _ _⟩
  unfold two at hT R9 PP
  refine hK.out _ _ hT (fun _ => ?_)
  clear hK K hS
  try simp only [Act.put, List.setIfInBounds_toArray, List.set_cons_zero, List.set_cons_succ]
  refine wpAnyH_done (by kernel_rfl) ?_ _
  refine NoPanic.normal ?_
  obtain ⟨r0, r1, _, _⟩ := id R9
  clear hT R9
  go_wp2_with fail
  exact bodyPost_ret (v := .agg #[.bool b', .slice pa pk pc]) (by simp [results, Tryd.results29, go_sem, r0, r1]) rfl PP.out
set_option maxRecDepth 100000 in
set_option maxHeartbeats 4000000 in
theorem Plus_swap (b1 b2 : Bool) (a1 a2 : Option Addr) (k1 k2 c1 c2 : Nat) (z1 z2 : Int) (w : World) (h1 : Zn w b1 a1 k1 c1 z1) (h2 : Zn w b2 a2 k2 c2 z2) (hne : b1 ≠ b2) (hlt : z1.natAbs < z2.natAbs) :
    Calls Tryd.prog 29 #[.agg #[.bool b1, .slice a1 k1 c1], .agg #[.bool b2, .slice a2 k2 c2]] w (ZPost (z1 + z2) w) := by
  obtain ⟨W0, hW0⟩ : ∃ W0, ((w.alloc (.cells #[.bool b1, .slice a1 k1 c1] 37)).alloc (.cells #[.bool b2, .slice a2 k2 c2] 37)).alloc (.cells #[.bool false, .slice none 0 0] 37) = W0 := ⟨_, rfl⟩
  have J0 : Hid (I3 w b1 a1 k1 c1 b2 a2 k2 c2 W0) := by rw [← hW0]; exact I3.made _ _ _ _ _ _ _ _ _ _ _ _
  have M1 := Lib.hid h1.nm
  have M2 := Lib.hid h2.nm
  have E1 := Lib.hid h1.zv
  have E2 := Lib.hid h2.zv
  have HC := Lib.hid (compare_c a1 a2 k1 k2 c1 c2 _ _ W0 (h1.nm.below J0.out.bel) (h2.nm.below J0.out.bel))
  have hd : decide (sgn z1.natAbs z2.natAbs < 0) = true := by rw [sgn_neg]; simp; omega
  have HLE := Lib.hid hlt
  have hbe : (b1 == b2) = false := by rw [beq_eq_false_iff_ne]; exact hne
  have HNE := Lib.hid hne
  clear h1 h2 hne hlt
  generalize sgn z1.natAbs z2.natAbs = sg at *
  have x0 := J0.out.x.c0
  have x1 := J0.out.x.c1
  have y0 := J0.out.y.c0
  have y1 := J0.out.y.c1
  go_enter Tryd.func29, Tryd.ntmps29
  go_wp2_with fail
  clear hW0
  refine HC.out.mono ?_
  rintro e w1 ⟨rfl, q, rfl⟩
  have J1 := Lib.hid (J0.out.keep (bel_drewN W0 q))
  have M1' := Lib.hid (M1.out.below (J1.out.bel))
  have M2' := Lib.hid (M2.out.below (J1.out.bel))
  clear x0 x1 y0 y1 HC J0 M1 M2
  generalize W0.drewN q = W1 at *
  have x0 := J1.out.x.c0
  have x1 := J1.out.x.c1
  have y0 := J1.out.y.c0
  have y1 := J1.out.y.c1
  have xf0 := J1.out.x.fr 0
  have xf1 := J1.out.x.fr 1
  have yf0 := J1.out.y.fr 0
  have yf1 := J1.out.y.fr 1
  obtain ⟨W2, hW2⟩ : ∃ W2, two (two W1 w.heap.size (.bool b2) (.slice a2 k2 c2)) (w.heap.size + 1) (.bool b1) (.slice a1 k1 c1) = W2 := ⟨_, rfl⟩
  have hyy : B2 (two W1 w.heap.size (.bool b2) (.slice a2 k2 c2)) (w.heap.size + 1) (.bool b2) (.slice a2 k2 c2) := J1.out.y.other (by omega) _ _
  have J0 : Hid (I3 w b2 a2 k2 c2 b1 a1 k1 c1 W2) := by
    rw [← hW2]
    exact ⟨(J1.out.x.set _ _).other (by omega) _ _, hyy.set _ _, (J1.out.r.other (by omega) _ _).other (by omega) _ _, below_two (below_two J1.out.bel (Nat.le_refl _) _ _) (by omega) _ _⟩
  have M1 : Hid (Nm W2 a1 k1 c1 z1.natAbs) := by rw [← hW2]; exact (M1'.out.set2 J1.out.x _ _).set2 hyy _ _
  have M2 : Hid (Nm W2 a2 k2 c2 z2.natAbs) := by rw [← hW2]; exact (M2'.out.set2 J1.out.x _ _).set2 hyy _ _
  clear hyy M1' M2' J1
  unfold two at hW2
  go_wp2_with fail
  clear hW2 x0 x1 y0 y1 xf0 xf1 yf0 yf1
  refine wp_region_noPanic ?_
  refine wp_region_held_drew (S := SI w.heap.size b2 a2 k2 c2 b1 a1 k1 c1) (by kernel_rfl) (J0.out.keep (Below.refl _ _).drew).si (fun hS => ?_)
  have J2 := Lib.hid (J0.out.keep (Below.refl _ _).drew)
  refine wpAnyH_take (i := 0) (v := ?v0z23) rfl (by kernel_rfl) (by kernel_rfl) (by kernel_rfl) (fun _ _ _ h => h) (Or.inl ⟨by rfl, ?hy0z23⟩) (by assumption) ?rest0z23
  case hy0z23 =>
    intro w hSw
    dsimp only [SI] at hSw
    go_simp
    try with_reducible rfl
  simp only [Act.put, List.getElem_toArray, List.getElem_cons_succ, List.getElem_cons_zero, List.setIfInBounds_toArray, List.set_cons_zero, List.set_cons_succ]
  refine wpAnyH_take (i := 1) (v := ?v1z24) rfl (by kernel_rfl) (by kernel_rfl) (by kernel_rfl) (fun _ _ _ h => h) (Or.inl ⟨by rfl, ?hy1z24⟩) (by assumption) ?rest1z24
  case hy1z24 =>
    intro w hSw
    dsimp only [SI] at hSw
    go_simp
    try with_reducible rfl
  simp only [Act.put, List.getElem_toArray, List.getElem_cons_succ, List.getElem_cons_zero, List.setIfInBounds_toArray, List.set_cons_zero, List.set_cons_succ]
  refine wpAnyH_take (i := 2) (v := ?v2z25) rfl (by kernel_rfl) (by kernel_rfl) (by kernel_rfl) (fun _ _ _ h => h) (Or.inl ⟨by rfl, ?hy2z25⟩) (by assumption) ?rest2z25
  case hy2z25 =>
    intro w hSw
    dsimp only [SI] at hSw
    go_simp
    try with_reducible rfl
  simp only [Act.put, List.getElem_toArray, List.getElem_cons_succ, List.getElem_cons_zero, List.setIfInBounds_toArray, List.set_cons_zero, List.set_cons_succ]
  refine wpAnyH_take (i := 3) (v := ?v3z26) rfl (by kernel_rfl) (by kernel_rfl) (by kernel_rfl) (fun _ _ _ h => h) (Or.inl ⟨by rfl, ?hy3z26⟩) (by assumption) ?rest3z26
  case hy3z26 =>
    intro w hSw
    dsimp only [SI] at hSw
    go_simp
    try with_reducible rfl
  simp only [Act.put, List.getElem_toArray, List.getElem_cons_succ, List.getElem_cons_zero, List.setIfInBounds_toArray, List.set_cons_zero, List.set_cons_succ]
  refine wpAnyH_take (i := 4) (v := ?v4z27) rfl (by kernel_rfl) (by kernel_rfl) (by kernel_rfl) (fun _ _ _ h => h) (Or.inl ⟨by rfl, ?hy4z27⟩) (by assumption) ?rest4z27
  case hy4z27 =>
    intro w hSw
    dsimp only [SI] at hSw
    go_simp
    try with_reducible rfl
  simp only [Act.put, List.getElem_toArray, List.getElem_cons_succ, List.getElem_cons_zero, List.setIfInBounds_toArray, List.set_cons_zero, List.set_cons_succ]
  refine wpAnyH_take (i := 5) (v := ?v5z28) rfl (by kernel_rfl) (by kernel_rfl) (by kernel_rfl) (fun _ _ _ h => h) (Or.inl ⟨by rfl, ?hy5z28⟩) (by assumption) ?rest5z28
  case hy5z28 =>
    intro w hSw
    dsimp only [SI] at hSw
    go_simp
    try with_reducible rfl
  simp only [Act.put, List.getElem_toArray, List.getElem_cons_succ, List.getElem_cons_zero, List.setIfInBounds_toArray, List.set_cons_zero, List.set_cons_succ]
  refine wpAnyH_ready (rs := [6]) (by kernel_rfl) (by simp) ?_
  refine AllReadyH.cons rfl (fun K hK => ?_) AllReadyH.nil
  go_simp
  refine (difference_c a2 a1 k2 k1 c2 c1 _ _ _ (M2.out.below (Below.refl _ _).drew) (M1.out.below (Below.refl _ _).drew) (by have := HLE.out; omega)).mono ?_
  rintro e W4 ⟨pa, pk, pc, rfl, hp, bc⟩
  try go_simp
  have J4 := Lib.hid (J2.out.keep bc)
  have hT := J4.out.si
  have HP := Lib.hid hp
  refine hK.out _ _ hT (fun _ => ?_)
  clear hK K hS bc J2 hp
  have hS := hT
  clear hT
  try simp only [Act.put, List.setIfInBounds_toArray, List.set_cons_zero, List.set_cons_succ]
  refine wpAnyH_ready (rs := [7]) (by kernel_rfl) (by simp) ?_
  refine AllReadyH.cons rfl (fun K hK => ?_) AllReadyH.nil
  go_simp
  refine (withSign_c b2 pa pk pc _ W4 HP.out).mono ?_
  rintro e W5 ⟨b', rfl, hz, bc⟩
  try go_simp
  have J5 := Lib.hid (J4.out.keep bc)
  have hT := J5.out.si
  have HZ : Hid (Zn W5 b' pa pk pc (z1 + z2)) := by
    rw [zv_diff (b1 := b2) (b2 := b1) (fun e => HNE.out e.symm) (by have := HLE.out; omega), ← E2.out, ← E1.out, Int.add_comm] at hz
    exact hz
  refine hK.out _ _ hT (fun _ => ?_)
  clear hK K hS bc J4 hz HP
  have hS := hT
  clear hT
  try simp only [Act.put, List.setIfInBounds_toArray, List.set_cons_zero, List.set_cons_succ]
  refine wpAnyH_ready (rs := [8]) (by kernel_rfl) (by simp) ?_
  refine AllReadyH.cons rfl (fun K hK => ?_) AllReadyH.nil
  have q0 := J5.out.r.c0
  have q1 := J5.out.r.c1
  have g0 := J5.out.r.fr 0
  have g1 := J5.out.r.fr 1
  go_simp
  clear q0 q1 g0 g1
  have hT := J5.out.done (.bool b') (.slice pa pk pc)
  have R9 := J5.out.r.set (.bool b') (.slice pa pk pc)
  have PP : Hid (ZPost (z1 + z2) w (.returned (.agg #[.bool b', .slice pa pk pc])) (two W5 (w.heap.size + 1 + 1) (.bool b') (.slice pa pk pc))) :=
    ⟨_, _, _, _, rfl, HZ.out.set2 J5.out.r _ _, below_two J5.out.bel (by omega) _ _⟩
  unfold two at hT R9 PP
  refine hK.out _ _ hT (fun _ => ?_)
  clear hK K hS
  try simp only [Act.put, List.setIfInBounds_toArray, List.set_cons_zero, List.set_cons_succ]
  refine wpAnyH_done (by kernel_rfl) ?_ _
  refine NoPanic.normal ?_
  obtain ⟨r0, r1, _, _⟩ := id R9
  clear hT R9
  go_wp2_with fail
  exact bodyPost_ret (v := .agg #[.bool b', .slice pa pk pc]) (by simp [results, Tryd.results29, go_sem, r0, r1]) rfl PP.out
theorem Plus_c (b1 b2 : Bool) (a1 a2 : Option Addr) (k1 k2 c1 c2 : Nat) (z1 z2 : Int) (w : World) (h1 : Zn w b1 a1 k1 c1 z1) (h2 : Zn w b2 a2 k2 c2 z2) (n1 : z1.natAbs < bp 2000) (n2 : z2.natAbs < bp 2000) :
    Calls Tryd.prog 29 #[.agg #[.bool b1, .slice a1 k1 c1], .agg #[.bool b2, .slice a2 k2 c2]] w (ZPost (z1 + z2) w) := by
  by_cases e : b1 = b2
  · subst e; exact Plus_same b1 a1 a2 k1 k2 c1 c2 z1 z2 w h1 h2 n1 n2
  · by_cases hl : z1.natAbs < z2.natAbs
    · exact Plus_swap b1 b2 a1 a2 k1 k2 c1 c2 z1 z2 w h1 h2 e hl
    · exact Plus_diff b1 b2 a1 a2 k1 k2 c1 c2 z1 z2 w h1 h2 e (by omega)
end Go.Proofs.YtaibpppobblnoaaDoor
