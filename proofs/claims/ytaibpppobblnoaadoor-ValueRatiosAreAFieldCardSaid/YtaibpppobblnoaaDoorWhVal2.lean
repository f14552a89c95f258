/-
  Ratios of package value: the texts of a fraction.
-/
import Derived.Test.YtaibpppobblnoaaDoorWhVal
namespace Go.Proofs.YtaibpppobblnoaaDoor
open Go.RowKit

theorem trim_tz (z : Int) : Lib.trimPrefix (tz z) [45] = Lib.decDigits z.natAbs := by
  unfold tz
  split
  · exact trim_minus _
  · obtain ⟨c, r, e, _⟩ := head_dec z.natAbs
    have hd := digs_dec z.natAbs
    rw [e] at hd ⊢
    have hx : isDig c = true := by simp [digs] at hd; exact hd.1
    have := isDig_iff.1 hx
    exact trim_plain (by omega)
def fits (x y : Int) : Bool := decide ((Lib.decDigits x.natAbs).length ≤ 2000) && decide ((Lib.decDigits y.natAbs).length ≤ 2000)
/-- The texts of a fraction, and the fault if they are too long. -/
def ra (x y : Int) : ByteArray × ByteArray × Int := if fits x y = true then (tzB x, tzB y, 0) else (⟨#[]⟩, ⟨#[]⟩, 2)
def RaPost (x y : Int) (w : World) (e : Ending) (w' : World) : Prop := e = .returned (.tuple #[.agg #[.string (ra x y).1, .string (ra x y).2.1], .int .i64 (ra x y).2.2]) ∧ Below w.heap.size w w'
structure Rb (w : World) (b1 : Bool) (a1 : Option Addr) (k1 c1 : Nat) (b2 : Bool) (a2 : Option Addr) (k2 c2 : Nat) (W : World) : Prop where
  x : B4 W w.heap.size (.bool b1) (.slice a1 k1 c1) (.bool b2) (.slice a2 k2 c2)
  r : B2 W (w.heap.size + 1) (.string ⟨#[]⟩) (.string ⟨#[]⟩)
  bel : Below w.heap.size w W
theorem Rb.keep {w : World} {b1 : Bool} {a1 : Option Addr} {k1 c1 : Nat} {b2 : Bool} {a2 : Option Addr} {k2 c2 : Nat} {W W' : World} (h : Rb w b1 a1 k1 c1 b2 a2 k2 c2 W) (hb : Below W.heap.size W W') : Rb w b1 a1 k1 c1 b2 a2 k2 c2 W' :=
  ⟨h.x.keep hb, h.r.keep hb, h.bel.trans (hb.mono h.bel.size)⟩
def SR (g : Nat) (b1 : Bool) (a1 : Option Addr) (k1 c1 : Nat) (b2 : Bool) (a2 : Option Addr) (k2 c2 : Nat) (W : World) : Prop :=
  W.cell? ⟨g, 0, none⟩ = some (.bool b1) ∧ W.cell? ⟨g, 1, none⟩ = some (.slice a1 k1 c1) ∧ W.cell? ⟨g, 2, none⟩ = some (.bool b2) ∧ W.cell? ⟨g, 3, none⟩ = some (.slice a2 k2 c2)
theorem Rb.si {w : World} {b1 : Bool} {a1 : Option Addr} {k1 c1 : Nat} {b2 : Bool} {a2 : Option Addr} {k2 c2 : Nat} {W : World} (h : Rb w b1 a1 k1 c1 b2 a2 k2 c2 W) : SR w.heap.size b1 a1 k1 c1 b2 a2 k2 c2 W := ⟨h.x.c0, h.x.c1, h.x.c2, h.x.c3⟩
set_option maxRecDepth 100000 in
set_option maxHeartbeats 4000000 in
theorem ratioOf_c (b1 : Bool) (a1 : Option Addr) (k1 c1 : Nat) (b2 : Bool) (a2 : Option Addr) (k2 c2 : Nat) (x y : Int) (w : World) (h1 : Zn w b1 a1 k1 c1 x) (h2 : Zn w b2 a2 k2 c2 y) (hx : x.natAbs < bp 2000) (hy : y.natAbs < bp 2000) (hp : 0 < y) :
    Calls Tryd.prog 14 #[.agg #[.bool b1, .slice a1 k1 c1, .bool b2, .slice a2 k2 c2]] w (RaPost x y w) := by
  obtain ⟨W0, hW0⟩ : ∃ W0, (w.alloc (.cells #[.bool b1, .slice a1 k1 c1, .bool b2, .slice a2 k2 c2] 39)).alloc (.cells #[.string ⟨#[]⟩, .string ⟨#[]⟩] 23) = W0 := ⟨_, rfl⟩
  have J0 : Hid (Rb w b1 a1 k1 c1 b2 a2 k2 c2 W0) := by
    have s1 : (w.alloc (.cells #[.bool b1, .slice a1 k1 c1, .bool b2, .slice a2 k2 c2] 39)).heap.size = w.heap.size + 1 := by simp
    rw [← hW0]
    refine ⟨(B4.made w _ _ _ _ _).keep (bel_one _ _), ?_, ((Below.refl _ _).alloc (Nat.le_refl _) _).alloc (by simp) _⟩
    rw [← s1]; exact B2.made _ _ _ _
  obtain ⟨u, hu⟩ : ∃ u : ByteArray, u = ⟨(Lib.decDigits x.natAbs).toArray⟩ := ⟨_, rfl⟩
  have hus : u.size = (Lib.decDigits x.natAbs).length := by rw [hu]; simp [ByteArray.size]
  have hts : (tzB y).size = (Lib.decDigits y.natAbs).length := by
    have e : tz y = Lib.decDigits y.natAbs := by unfold tz; rw [if_neg (by omega)]
    unfold tzB
    rw [e]
    simp [ByteArray.size]
  have HTP : Hid (∀ w, Calls Tryd.prog 20 #[.string (tzB x), .string ⟨#[45]⟩] w fun e w' => e = .returned (.string u) ∧ w = w') := fun w => (Tryd.strings_TrimPrefix (tzB x) ⟨#[45]⟩ w).mono fun e w' ⟨he, hw⟩ => ⟨by
    rw [he, hu]
    have e2 : Lib.trimPrefix (tzB x).data.toList (⟨#[45]⟩ : ByteArray).data.toList = Lib.decDigits x.natAbs := trim_tz x
    rw [e2], hw.symm⟩
  have HFT : Hid (fits x y = (decide (u.size ≤ 2000) && decide ((tzB y).size ≤ 2000))) := by unfold Hid fits; rw [hus, hts]
  have M1 := Lib.hid (fun W (h : Rb w b1 a1 k1 c1 b2 a2 k2 c2 W) => Text_c b1 a1 k1 c1 x W (h1.below h.bel) hx)
  have M2 := Lib.hid (fun W (h : Rb w b1 a1 k1 c1 b2 a2 k2 c2 W) => Text_c b2 a2 k2 c2 y W (h2.below h.bel) hy)
  clear h1 h2 hx hy hp hu hus hts
  go_enter Tryd.func14, Tryd.ntmps14
  go_wp2_with fail
  clear hW0
  refine wp_region_noPanic ?_
  refine wp_region_held_drew (S := SR w.heap.size b1 a1 k1 c1 b2 a2 k2 c2) (by kernel_rfl) (J0.out.keep (Below.refl _ _).drew).si (fun hS => ?_)
  have J1 := Lib.hid (J0.out.keep (Below.refl _ _).drew)
  clear J0
  refine wpAnyH_take (i := 0) (v := ?v0z29) rfl (by kernel_rfl) (by kernel_rfl) (by kernel_rfl) (fun _ _ _ h => h) (Or.inl ⟨by rfl, ?hy0z29⟩) (by assumption) ?rest0z29
  case hy0z29 =>
    intro w hSw
    dsimp only [SR] at hSw
    go_simp
    try with_reducible rfl
  simp only [Act.put, List.getElem_toArray, List.getElem_cons_succ, List.getElem_cons_zero, List.setIfInBounds_toArray, List.set_cons_zero, List.set_cons_succ]
  refine wpAnyH_take (i := 1) (v := ?v1z30) rfl (by kernel_rfl) (by kernel_rfl) (by kernel_rfl) (fun _ _ _ h => h) (Or.inl ⟨by rfl, ?hy1z30⟩) (by assumption) ?rest1z30
  case hy1z30 =>
    intro w hSw
    dsimp only [SR] at hSw
    go_simp
    try with_reducible rfl
  simp only [Act.put, List.getElem_toArray, List.getElem_cons_succ, List.getElem_cons_zero, List.setIfInBounds_toArray, List.set_cons_zero, List.set_cons_succ]
  refine wpAnyH_take (i := 3) (v := ?v3z31) rfl (by kernel_rfl) (by kernel_rfl) (by kernel_rfl) (fun _ _ _ h => h) (Or.inl ⟨by rfl, ?hy3z31⟩) (by assumption) ?rest3z31
  case hy3z31 =>
    intro w hSw
    dsimp only [SR] at hSw
    go_simp
    try with_reducible rfl
  simp only [Act.put, List.getElem_toArray, List.getElem_cons_succ, List.getElem_cons_zero, List.setIfInBounds_toArray, List.set_cons_zero, List.set_cons_succ]
  refine wpAnyH_take (i := 4) (v := ?v4z32) rfl (by kernel_rfl) (by kernel_rfl) (by kernel_rfl) (fun _ _ _ h => h) (Or.inl ⟨by rfl, ?hy4z32⟩) (by assumption) ?rest4z32
  case hy4z32 =>
    intro w hSw
    dsimp only [SR] at hSw
    go_simp
    try with_reducible rfl
  simp only [Act.put, List.getElem_toArray, List.getElem_cons_succ, List.getElem_cons_zero, List.setIfInBounds_toArray, List.set_cons_zero, List.set_cons_succ]
  refine wpAnyH_ready (rs := [2]) (by kernel_rfl) (by simp) ?_
  refine AllReadyH.cons rfl (fun K hK => ?_) AllReadyH.nil
  go_simp
  refine (M1.out _ J1.out).mono ?_
  rintro e W3 ⟨rfl, bc⟩
  try go_simp
  have J3 := Lib.hid (J1.out.keep bc)
  have hT := J3.out.si
  refine hK.out _ _ hT (fun _ => ?_)
  clear hK K hS bc J1 
  have hS := hT
  clear hT
  try simp only [Act.put, List.setIfInBounds_toArray, List.set_cons_zero, List.set_cons_succ]
  refine wpAnyH_ready (rs := [5]) (by kernel_rfl) (by simp) ?_
  refine AllReadyH.cons rfl (fun K hK => ?_) AllReadyH.nil
  go_simp
  refine (M2.out _ J3.out).mono ?_
  rintro e W4 ⟨rfl, bc⟩
  try go_simp
  have J4 := Lib.hid (J3.out.keep bc)
  have hT := J4.out.si
  refine hK.out _ _ hT (fun _ => ?_)
  clear hK K hS bc J3 
  have hS := hT
  clear hT
  try simp only [Act.put, List.setIfInBounds_toArray, List.set_cons_zero, List.set_cons_succ]
  refine wpAnyH_take (i := 6) (v := ?v6z33) rfl (by kernel_rfl) (by kernel_rfl) (by kernel_rfl) (fun _ _ _ h => h) (Or.inl ⟨by rfl, ?hy6z33⟩) (by assumption) ?rest6z33
  case hy6z33 =>
    intro w hSw
    dsimp only [SR] at hSw
    go_simp
    try with_reducible rfl
  simp only [Act.put, List.getElem_toArray, List.getElem_cons_succ, List.getElem_cons_zero, List.setIfInBounds_toArray, List.set_cons_zero, List.set_cons_succ]
  refine wpAnyH_take (i := 7) (v := ?v7z34) rfl (by kernel_rfl) (by kernel_rfl) (by kernel_rfl) (fun _ _ _ h => h) (Or.inl ⟨by rfl, ?hy7z34⟩) (by assumption) ?rest7z34
  case hy7z34 =>
    intro w hSw
    dsimp only [SR] at hSw
    go_simp
    try with_reducible rfl
  simp only [Act.put, List.getElem_toArray, List.getElem_cons_succ, List.getElem_cons_zero, List.setIfInBounds_toArray, List.set_cons_zero, List.set_cons_succ]
  refine wpAnyH_done (by kernel_rfl) ?_ _
  refine NoPanic.normal ?_
  clear hS M1 M2
  generalize hty : tzB y = ty at *
  generalize htx : tzB x = tx at *
  by_cases hf : fits x y = true
  · have HRA : Hid (ra x y = (tx, ty, 0)) := by unfold Hid ra; rw [if_pos hf, htx, hty]
    have h1 : u.size ≤ 2000 ∧ ty.size ≤ 2000 := by rw [HFT.out] at hf; simpa using hf
    have i1 : ¬ (2000 : Int) < (u.size : Int) := by omega
    have i2 : ¬ (2000 : Int) < (ty.size : Int) := by omega
    clear hf HFT h1 hty htx
    obtain ⟨W9, hW9⟩ : ∃ W9, two W4 (w.heap.size + 1) (.string tx) (.string ty) = W9 := ⟨_, rfl⟩
    have R9 : B2 W9 (w.heap.size + 1) (.string tx) (.string ty) := by rw [← hW9]; exact J4.out.r.set _ _
    have PP : Hid (RaPost x y w (.returned (.tuple #[.agg #[.string tx, .string ty], .int .i64 0])) W9) := by
      rw [← hW9]
      exact ⟨by rw [HRA.out], below_two J4.out.bel (Nat.le_succ _) _ _⟩
    have q0 := J4.out.r.c0
    have q1 := J4.out.r.c1
    have g0 := J4.out.r.fr 0
    have g1 := J4.out.r.fr 1
    obtain ⟨r0, r1, _, _⟩ := id R9
    unfold two at hW9
    clear R9
    go_wp2_with (go_at_call 20; refine (HTP.out _).mono ?_; rintro e w' ⟨rfl, rfl⟩)
    exact bodyPost_ret (v := .tuple #[.agg #[.string tx, .string ty], .int .i64 0]) (by simp [results, Tryd.results14, go_sem, r0, r1]) rfl PP.out
  · have HRA : Hid (ra x y = (⟨#[]⟩, ⟨#[]⟩, 2)) := by unfold Hid ra; rw [if_neg hf]
    have h1 : 2000 < u.size ∨ (u.size ≤ 2000 ∧ 2000 < ty.size) := by rw [HFT.out] at hf; simp at hf; omega
    clear hf HFT hty htx
    rcases h1 with h | ⟨h, h'⟩
    · have i1 : (2000 : Int) < (u.size : Int) := by omega
      obtain ⟨W9, hW9⟩ : ∃ W9, two W4 (w.heap.size + 1) (.string ⟨#[]⟩) (.string ⟨#[]⟩) = W9 := ⟨_, rfl⟩
      have R9 : B2 W9 (w.heap.size + 1) (.string ⟨#[]⟩) (.string ⟨#[]⟩) := by rw [← hW9]; exact J4.out.r.set _ _
      have PP : Hid (RaPost x y w (.returned (.tuple #[.agg #[.string ⟨#[]⟩, .string ⟨#[]⟩], .int .i64 2])) W9) := by
        rw [← hW9]
        exact ⟨by rw [HRA.out], below_two J4.out.bel (Nat.le_succ _) _ _⟩
      have q0 := J4.out.r.c0
      have q1 := J4.out.r.c1
      have g0 := J4.out.r.fr 0
      have g1 := J4.out.r.fr 1
      obtain ⟨r0, r1, _, _⟩ := id R9
      unfold two at hW9
      clear R9
      go_wp2_with (go_at_call 20; refine (HTP.out _).mono ?_; rintro e w' ⟨rfl, rfl⟩)
      exact bodyPost_ret (v := .tuple #[.agg #[.string ⟨#[]⟩, .string ⟨#[]⟩], .int .i64 2]) (by simp [results, Tryd.results14, go_sem, r0, r1]) rfl PP.out
    · have i1 : ¬ (2000 : Int) < (u.size : Int) := by omega
      have i2 : (2000 : Int) < (ty.size : Int) := by omega
      obtain ⟨W9, hW9⟩ : ∃ W9, two W4 (w.heap.size + 1) (.string ⟨#[]⟩) (.string ⟨#[]⟩) = W9 := ⟨_, rfl⟩
      have R9 : B2 W9 (w.heap.size + 1) (.string ⟨#[]⟩) (.string ⟨#[]⟩) := by rw [← hW9]; exact J4.out.r.set _ _
      have PP : Hid (RaPost x y w (.returned (.tuple #[.agg #[.string ⟨#[]⟩, .string ⟨#[]⟩], .int .i64 2])) W9) := by
        rw [← hW9]
        exact ⟨by rw [HRA.out], below_two J4.out.bel (Nat.le_succ _) _ _⟩
      have q0 := J4.out.r.c0
      have q1 := J4.out.r.c1
      have g0 := J4.out.r.fr 0
      have g1 := J4.out.r.fr 1
      obtain ⟨r0, r1, _, _⟩ := id R9
      unfold two at hW9
      clear R9
      go_wp2_with (go_at_call 20; refine (HTP.out _).mono ?_; rintro e w' ⟨rfl, rfl⟩)
      exact bodyPost_ret (v := .tuple #[.agg #[.string ⟨#[]⟩, .string ⟨#[]⟩], .int .i64 2]) (by simp [results, Tryd.results14, go_sem, r0, r1]) rfl PP.out
end Go.Proofs.YtaibpppobblnoaaDoor
