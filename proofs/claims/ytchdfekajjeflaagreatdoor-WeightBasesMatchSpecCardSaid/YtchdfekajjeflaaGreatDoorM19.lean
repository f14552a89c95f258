/-
  Package weight: the texts of a fraction.
  Package weight: rows of fractions and of ratios; ratiosOf.
  Package weight: rows of fractions that are made, rows of picks that are read.
  Ratios: lowest terms are one thing.
-/
import Derived.Test.YtchdfekajjeflaaGreatDoorM18
import Derived.Test.YtchdfekajjeflaaGreatDoorM10
namespace Go.Proofs.YtchdfekajjeflaaGreatDoor
open Go.RowKit

theorem ra_long {x y : Int} (h : 2000 < (Lib.decDigits x.natAbs).length ∨ 2000 < (Lib.decDigits y.natAbs).length) : ra x y = (⟨#[]⟩, ⟨#[]⟩, 2) := by
  unfold ra fits
  rw [if_neg]
  simp only [Bool.and_eq_true, decide_eq_true_eq]
  omega
set_option maxRecDepth 100000 in
set_option maxHeartbeats 4000000 in
theorem wratioOf_c (b1 : Bool) (a1 : Option Addr) (k1 c1 : Nat) (b2 : Bool) (a2 : Option Addr) (k2 c2 : Nat) (x y : Int) (w : World) (h1 : Zn w b1 a1 k1 c1 x) (h2 : Zn w b2 a2 k2 c2 y) (hx : x.natAbs < bp 2000) (hy : y.natAbs < bp 2000) (hp : 0 < y) :
    Calls Tryz.prog 26 #[.agg #[.bool b1, .slice a1 k1 c1, .bool b2, .slice a2 k2 c2]] w (RaPost x y w) := by
  obtain ⟨W0, hW0⟩ : ∃ W0, (w.alloc (.cells #[.bool b1, .slice a1 k1 c1, .bool b2, .slice a2 k2 c2] 38)).alloc (.cells #[.string ⟨#[]⟩, .string ⟨#[]⟩] 29) = W0 := ⟨_, rfl⟩
  have J0 : Hid (Rb w b1 a1 k1 c1 b2 a2 k2 c2 W0) := by
    have s1 : (w.alloc (.cells #[.bool b1, .slice a1 k1 c1, .bool b2, .slice a2 k2 c2] 38)).heap.size = w.heap.size + 1 := by simp
    rw [← hW0]
    refine ⟨(B4.made w _ _ _ _ _).keep (bel_one _ _), ?_, ((Below.refl _ _).alloc (Nat.le_refl _) _).alloc (by simp) _⟩
    rw [← s1]; exact B2.made _ _ _ _
  obtain ⟨u, hu⟩ : ∃ u : ByteArray, u = ⟨(Lib.decDigits x.natAbs).toArray⟩ := ⟨_, rfl⟩
  have hus : u.size = (Lib.decDigits x.natAbs).length := by rw [hu]; simp [ByteArray.size]
  have hts : (tzB y).size = (Lib.decDigits y.natAbs).length := by
    have e : tz y = Lib.decDigits y.natAbs := by unfold tz; rw [if_neg (by omega)]
    unfold tzB
    rw [e]
    simp [ByteArray.size]
  have HTP : Hid (∀ w, Calls Tryz.prog 20 #[.string (tzB x), .string ⟨#[45]⟩] w fun e w' => e = .returned (.string u) ∧ w = w') := fun w => (Tryz.strings_TrimPrefix (tzB x) ⟨#[45]⟩ w).mono fun e w' ⟨he, hw⟩ => ⟨by
    rw [he, hu]
    have e2 : Lib.trimPrefix (tzB x).data.toList (⟨#[45]⟩ : ByteArray).data.toList = Lib.decDigits x.natAbs := trim_tz x
    rw [e2], hw.symm⟩
  have HFT : Hid (fits x y = (decide (u.size ≤ 2000) && decide ((tzB y).size ≤ 2000))) := by unfold Hid fits; rw [hus, hts]
  have M1 := Lib.hid (fun W (h : Rb w b1 a1 k1 c1 b2 a2 k2 c2 W) => Text_c b1 a1 k1 c1 x W (h1.below h.bel) hx)
  have M2 := Lib.hid (fun W (h : Rb w b1 a1 k1 c1 b2 a2 k2 c2 W) => Text_c b2 a2 k2 c2 y W (h2.below h.bel) hy)
  have N1 := Lib.hid (fun W (h : Rb w b1 a1 k1 c1 b2 a2 k2 c2 W) => isLong_c b1 a1 k1 c1 x W (h1.below h.bel))
  have N2 := Lib.hid (fun W (h : Rb w b1 a1 k1 c1 b2 a2 k2 c2 W) => isLong_c b2 a2 k2 c2 y W (h2.below h.bel))
  clear h1 h2 hx hy hp hu hus hts
  have x0 := J0.out.x.c0
  have x1 := J0.out.x.c1
  have x2 := J0.out.x.c2
  have x3 := J0.out.x.c3
  go_enter Tryz.func26, Tryz.ntmps26
  go_wp2_with fail
  clear hW0 x0 x1 x2 x3
  refine (N1.out _ J0.out).mono ?_
  rintro e w1 ⟨l1, rfl, hl1, bc⟩
  have J1 := Lib.hid (J0.out.keep bc)
  have L1 := Lib.hid hl1
  clear J0 bc N1 hl1
  have x0 := J1.out.x.c0
  have x1 := J1.out.x.c1
  have x2 := J1.out.x.c2
  have x3 := J1.out.x.c3
  cases l1
  · go_wp2_with fail
    clear x0 x1 x2 x3
    refine (N2.out _ J1.out).mono ?_
    rintro e w2 ⟨l2, rfl, hl2, bc⟩
    have J2 := Lib.hid (J1.out.keep bc)
    have L2 := Lib.hid hl2
    clear J1 bc N2 hl2 L1
    cases l2
    · go_wp2_with fail
      clear L2
      refine wp_region_noPanic ?_
      refine wp_region_held_drew (S := SR w.heap.size b1 a1 k1 c1 b2 a2 k2 c2) (by kernel_rfl) (J2.out.keep (Below.refl _ _).drew).si (fun hS => ?_)
      have J1 := Lib.hid (J2.out.keep (Below.refl _ _).drew)
      clear J2
      refine wpAnyH_take (i := 0) (v := ?v0z29) rfl (by kernel_rfl) (by kernel_rfl) (by kernel_rfl) (fun _ _ _ h => h) (Or.inl ⟨by rfl, ?hy0z29⟩) (by assumption) ?rest0z29
      case hy0z29 =>
        intro w hSw
        dsimp only [SR] at hSw
        go_simp
        try with_reducible rfl
      simp only [Act.put, List.getElem_toArray, List.getElem_cons_succ, List.getElem_cons_zero, List.setIfInBounds_toArray, List.set_cons_zero, List.set_cons_succ]
      refine wpAnyH_take (i := 1) (v := ?v1z30) rfl (by kernel_rfl) (by kernel_rfl) (by kernel_rfl) (fun _ _ _ h => h) (Or.inl ⟨by rfl, ?hy1z30⟩) (by assumption) ?rest1z30
      case hy1z30 =>
        intro w hSw
        dsimp only [SR] at hSw
        go_simp
        try with_reducible rfl
      simp only [Act.put, List.getElem_toArray, List.getElem_cons_succ, List.getElem_cons_zero, List.setIfInBounds_toArray, List.set_cons_zero, List.set_cons_succ]
      refine wpAnyH_take (i := 3) (v := ?v3z31) rfl (by kernel_rfl) (by kernel_rfl) (by kernel_rfl) (fun _ _ _ h => h) (Or.inl ⟨by rfl, ?hy3z31⟩) (by assumption) ?rest3z31
      case hy3z31 =>
        intro w hSw
        dsimp only [SR] at hSw
        go_simp
        try with_reducible rfl
      simp only [Act.put, List.getElem_toArray, List.getElem_cons_succ, List.getElem_cons_zero, List.setIfInBounds_toArray, List.set_cons_zero, List.set_cons_succ]
      refine wpAnyH_take (i := 4) (v := ?v4z32) rfl (by kernel_rfl) (by kernel_rfl) (by kernel_rfl) (fun _ _ _ h => h) (Or.inl ⟨by rfl, ?hy4z32⟩) (by assumption) ?rest4z32
      case hy4z32 =>
        intro w hSw
        dsimp only [SR] at hSw
        go_simp
        try with_reducible rfl
      simp only [Act.put, List.getElem_toArray, List.getElem_cons_succ, List.getElem_cons_zero, List.setIfInBounds_toArray, List.set_cons_zero, List.set_cons_succ]
      refine wpAnyH_ready (rs := [2]) (by kernel_rfl) (by simp) ?_
      refine AllReadyH.cons rfl (fun K hK => ?_) AllReadyH.nil
      go_simp
      refine (M1.out _ J1.out).mono ?_
      rintro e W3 ⟨rfl, bc⟩
      try go_simp
      have J3 := Lib.hid (J1.out.keep bc)
      have hT := J3.out.si
      refine hK.out _ _ hT (fun _ => ?_)
      clear hK K hS bc J1 
      have hS := hT
      clear hT
      try simp only [Act.put, List.setIfInBounds_toArray, List.set_cons_zero, List.set_cons_succ]
      refine wpAnyH_ready (rs := [5]) (by kernel_rfl) (by simp) ?_
      refine AllReadyH.cons rfl (fun K hK => ?_) AllReadyH.nil
      go_simp
      refine (M2.out _ J3.out).mono ?_
      rintro e W4 ⟨rfl, bc⟩
      try go_simp
      have J4 := Lib.hid (J3.out.keep bc)
      have hT := J4.out.si
      refine hK.out _ _ hT (fun _ => ?_)
      clear hK K hS bc J3 
      have hS := hT
      clear hT
      try simp only [Act.put, List.setIfInBounds_toArray, List.set_cons_zero, List.set_cons_succ]
      refine wpAnyH_take (i := 6) (v := ?v6z33) rfl (by kernel_rfl) (by kernel_rfl) (by kernel_rfl) (fun _ _ _ h => h) (Or.inl ⟨by rfl, ?hy6z33⟩) (by assumption) ?rest6z33
      case hy6z33 =>
        intro w hSw
        dsimp only [SR] at hSw
        go_simp
        try with_reducible rfl
      simp only [Act.put, List.getElem_toArray, List.getElem_cons_succ, List.getElem_cons_zero, List.setIfInBounds_toArray, List.set_cons_zero, List.set_cons_succ]
      refine wpAnyH_take (i := 7) (v := ?v7z34) rfl (by kernel_rfl) (by kernel_rfl) (by kernel_rfl) (fun _ _ _ h => h) (Or.inl ⟨by rfl, ?hy7z34⟩) (by assumption) ?rest7z34
      case hy7z34 =>
        intro w hSw
        dsimp only [SR] at hSw
        go_simp
        try with_reducible rfl
      simp only [Act.put, List.getElem_toArray, List.getElem_cons_succ, List.getElem_cons_zero, List.setIfInBounds_toArray, List.set_cons_zero, List.set_cons_succ]
      refine wpAnyH_done (by kernel_rfl) ?_ _
      refine NoPanic.normal ?_
      clear hS M1 M2
      generalize hty : tzB y = ty at *
      generalize htx : tzB x = tx at *
      by_cases hf : fits x y = true
      · have HRA : Hid (ra x y = (tx, ty, 0)) := by unfold Hid ra; rw [if_pos hf, htx, hty]
        have h1 : u.size ≤ 2000 ∧ ty.size ≤ 2000 := by rw [HFT.out] at hf; simpa using hf
        have i1 : ¬ (2000 : Int) < (u.size : Int) := by omega
        have i2 : ¬ (2000 : Int) < (ty.size : Int) := by omega
        clear hf HFT h1 hty htx
        obtain ⟨W9, hW9⟩ : ∃ W9, two W4 (w.heap.size + 1) (.string tx) (.string ty) = W9 := ⟨_, rfl⟩
        have R9 : B2 W9 (w.heap.size + 1) (.string tx) (.string ty) := by rw [← hW9]; exact J4.out.r.set _ _
        have PP : Hid (RaPost x y w (.returned (.tuple #[.agg #[.string tx, .string ty], .int .i64 0])) W9) := by
          rw [← hW9]
          exact ⟨by rw [HRA.out], below_two J4.out.bel (Nat.le_succ _) _ _⟩
        have q0 := J4.out.r.c0
        have q1 := J4.out.r.c1
        have g0 := J4.out.r.fr 0
        have g1 := J4.out.r.fr 1
        obtain ⟨r0, r1, _, _⟩ := id R9
        unfold two at hW9
        clear R9
        go_wp2_with (go_at_call 20; refine (HTP.out _).mono ?_; rintro e w' ⟨rfl, rfl⟩)
        exact bodyPost_ret (v := .tuple #[.agg #[.string tx, .string ty], .int .i64 0]) (by simp [results, Tryz.results26, go_sem, r0, r1]) rfl PP.out
      · have HRA : Hid (ra x y = (⟨#[]⟩, ⟨#[]⟩, 2)) := by unfold Hid ra; rw [if_neg hf]
        have h1 : 2000 < u.size ∨ (u.size ≤ 2000 ∧ 2000 < ty.size) := by rw [HFT.out] at hf; simp at hf; omega
        clear hf HFT hty htx
        rcases h1 with h | ⟨h, h'⟩
        · have i1 : (2000 : Int) < (u.size : Int) := by omega
          obtain ⟨W9, hW9⟩ : ∃ W9, two W4 (w.heap.size + 1) (.string ⟨#[]⟩) (.string ⟨#[]⟩) = W9 := ⟨_, rfl⟩
          have R9 : B2 W9 (w.heap.size + 1) (.string ⟨#[]⟩) (.string ⟨#[]⟩) := by rw [← hW9]; exact J4.out.r.set _ _
          have PP : Hid (RaPost x y w (.returned (.tuple #[.agg #[.string ⟨#[]⟩, .string ⟨#[]⟩], .int .i64 2])) W9) := by
            rw [← hW9]
            exact ⟨by rw [HRA.out], below_two J4.out.bel (Nat.le_succ _) _ _⟩
          have q0 := J4.out.r.c0
          have q1 := J4.out.r.c1
          have g0 := J4.out.r.fr 0
          have g1 := J4.out.r.fr 1
          obtain ⟨r0, r1, _, _⟩ := id R9
          unfold two at hW9
          clear R9
          go_wp2_with (go_at_call 20; refine (HTP.out _).mono ?_; rintro e w' ⟨rfl, rfl⟩)
          exact bodyPost_ret (v := .tuple #[.agg #[.string ⟨#[]⟩, .string ⟨#[]⟩], .int .i64 2]) (by simp [results, Tryz.results26, go_sem, r0, r1]) rfl PP.out
        · have i1 : ¬ (2000 : Int) < (u.size : Int) := by omega
          have i2 : (2000 : Int) < (ty.size : Int) := by omega
          obtain ⟨W9, hW9⟩ : ∃ W9, two W4 (w.heap.size + 1) (.string ⟨#[]⟩) (.string ⟨#[]⟩) = W9 := ⟨_, rfl⟩
          have R9 : B2 W9 (w.heap.size + 1) (.string ⟨#[]⟩) (.string ⟨#[]⟩) := by rw [← hW9]; exact J4.out.r.set _ _
          have PP : Hid (RaPost x y w (.returned (.tuple #[.agg #[.string ⟨#[]⟩, .string ⟨#[]⟩], .int .i64 2])) W9) := by
            rw [← hW9]
            exact ⟨by rw [HRA.out], below_two J4.out.bel (Nat.le_succ _) _ _⟩
          have q0 := J4.out.r.c0
          have q1 := J4.out.r.c1
          have g0 := J4.out.r.fr 0
          have g1 := J4.out.r.fr 1
          obtain ⟨r0, r1, _, _⟩ := id R9
          unfold two at hW9
          clear R9
          go_wp2_with (go_at_call 20; refine (HTP.out _).mono ?_; rintro e w' ⟨rfl, rfl⟩)
          exact bodyPost_ret (v := .tuple #[.agg #[.string ⟨#[]⟩, .string ⟨#[]⟩], .int .i64 2]) (by simp [results, Tryz.results26, go_sem, r0, r1]) rfl PP.out
    · have HRA : Hid (ra x y = (⟨#[]⟩, ⟨#[]⟩, 2)) := ra_long (.inr (L2.out rfl))
      clear M1 M2 HFT
      obtain ⟨W9, hW9⟩ : ∃ W9, two w2 (w.heap.size + 1) (.string ⟨#[]⟩) (.string ⟨#[]⟩) = W9 := ⟨_, rfl⟩
      have R9 : B2 W9 (w.heap.size + 1) (.string ⟨#[]⟩) (.string ⟨#[]⟩) := by rw [← hW9]; exact J2.out.r.set _ _
      have PP : Hid (RaPost x y w (.returned (.tuple #[.agg #[.string ⟨#[]⟩, .string ⟨#[]⟩], .int .i64 2])) W9) := by
        rw [← hW9]
        exact ⟨by rw [HRA.out], below_two J2.out.bel (Nat.le_succ _) _ _⟩
      have q0 := J2.out.r.c0
      have q1 := J2.out.r.c1
      have g0 := J2.out.r.fr 0
      have g1 := J2.out.r.fr 1
      obtain ⟨r0, r1, _, _⟩ := id R9
      unfold two at hW9
      clear R9
      go_wp2_with (go_at_call 20; refine (HTP.out _).mono ?_; rintro e w' ⟨rfl, rfl⟩)
      exact bodyPost_ret (v := .tuple #[.agg #[.string ⟨#[]⟩, .string ⟨#[]⟩], .int .i64 2]) (by simp [results, Tryz.results26, go_sem, r0, r1]) rfl PP.out
  · clear N2 x0 x1 x2 x3
    have HRA : Hid (ra x y = (⟨#[]⟩, ⟨#[]⟩, 2)) := ra_long (.inl (L1.out rfl))
    clear M1 M2 HFT
    obtain ⟨W9, hW9⟩ : ∃ W9, two w1 (w.heap.size + 1) (.string ⟨#[]⟩) (.string ⟨#[]⟩) = W9 := ⟨_, rfl⟩
    have R9 : B2 W9 (w.heap.size + 1) (.string ⟨#[]⟩) (.string ⟨#[]⟩) := by rw [← hW9]; exact J1.out.r.set _ _
    have PP : Hid (RaPost x y w (.returned (.tuple #[.agg #[.string ⟨#[]⟩, .string ⟨#[]⟩], .int .i64 2])) W9) := by
      rw [← hW9]
      exact ⟨by rw [HRA.out], below_two J1.out.bel (Nat.le_succ _) _ _⟩
    have q0 := J1.out.r.c0
    have q1 := J1.out.r.c1
    have g0 := J1.out.r.fr 0
    have g1 := J1.out.r.fr 1
    obtain ⟨r0, r1, _, _⟩ := id R9
    unfold two at hW9
    clear R9
    go_wp2_with (go_at_call 20; refine (HTP.out _).mono ?_; rintro e w' ⟨rfl, rfl⟩)
    exact bodyPost_ret (v := .tuple #[.agg #[.string ⟨#[]⟩, .string ⟨#[]⟩], .int .i64 2]) (by simp [results, Tryz.results26, go_sem, r0, r1]) rfl PP.out
end Go.Proofs.YtchdfekajjeflaaGreatDoor
namespace Go.Proofs.YtchdfekajjeflaaGreatDoor
open Go.RowKit

/-- Two texts. -/
abbrev Rr := ByteArray × ByteArray
/-- A block of the call's own that holds K ratios. -/
def Br (W : World) (g K : Nat) (R : Nat → Rr) : Prop :=
  g < W.heap.size ∧ (∀ o, W.frozen? ⟨g, o, none⟩ = false) ∧ ∀ j, j < K → W.cell? ⟨g, j * 2, none⟩ = some (.string (R j).1) ∧ W.cell? ⟨g, j * 2 + 1, none⟩ = some (.string (R j).2)
theorem Br.keep {W W' : World} {g K : Nat} {R : Nat → Rr} (h : Br W g K R) (hb : Below W.heap.size W W') : Br W' g K R :=
  ⟨Nat.lt_of_lt_of_le h.1 hb.size, fun o => (hb.frozen (p := ⟨g, o, none⟩) h.1).trans (h.2.1 o), fun j hj => ⟨(hb.cell (p := ⟨g, j * 2, none⟩) h.1).trans (h.2.2 j hj).1, (hb.cell (p := ⟨g, j * 2 + 1, none⟩) h.1).trans (h.2.2 j hj).2⟩⟩
theorem made_at {z : Array Value} {n i : Nat} (h : i < n) : (madeCells z n)[i]? = some z[i % z.size]! := by
  unfold madeCells
  simp [h]
theorem Br.made (W : World) (K : Nat) (e : TypeId) : Br (W.alloc (.cells (madeCells #[.string ⟨#[]⟩, .string ⟨#[]⟩] (K * 2)) e)) W.heap.size K (fun _ => (⟨#[]⟩, ⟨#[]⟩)) := by
  refine ⟨by simp, fun o => by simp, fun j hj => ⟨?_, ?_⟩⟩
  · rw [World.cell?_alloc_new]
    show (madeCells _ _)[j * 2]? = _
    rw [made_at (by omega)]
    have e : j * 2 % 2 = 0 := by omega
    simp [e]
  · rw [World.cell?_alloc_new]
    show (madeCells _ _)[j * 2 + 1]? = _
    rw [made_at (by omega)]
    have e : (j * 2 + 1) % 2 = 1 := by omega
    simp [e]
def putR (R : Nat → Rr) (j : Nat) (x : Rr) : Nat → Rr := fun i => if i = j then x else R i
theorem Br.put {W : World} {g K j : Nat} {R : Nat → Rr} (h : Br W g K R) (hj : j < K) (s t : ByteArray) : Br ((W.setCell ⟨g, j * 2, none⟩ (.string s)).setCell ⟨g, j * 2 + 1, none⟩ (.string t)) g K (putR R j (s, t)) := by
  have ne : ∀ {p q : Nat}, p ≠ q → (⟨g, p, none⟩ : Addr) ≠ ⟨g, q, none⟩ := fun h e => by injection e with _ e2; exact h e2
  refine ⟨by simpa using h.1, fun o => by simp only [World.frozen?_setCell]; exact h.2.1 o, fun i hi => ?_⟩
  by_cases e : i = j
  · subst e
    have p1 : putR R i (s, t) i = (s, t) := by unfold putR; rw [if_pos rfl]
    rw [p1]
    constructor
    · rw [World.cell?_setCell_other _ _ _ _ (ne (by omega)), World.cell?_setCell_same _ _ _ (h.2.2 i hi).1]
    · rw [World.cell?_setCell_same _ _ _ (u := .string (R i).2) (by rw [World.cell?_setCell_other _ _ _ _ (ne (by omega))]; exact (h.2.2 i hi).2)]
  · have p1 : putR R j (s, t) i = R i := by unfold putR; rw [if_neg e]
    rw [p1]
    constructor
    · rw [World.cell?_setCell_other _ _ _ _ (ne (by omega)), World.cell?_setCell_other _ _ _ _ (ne (by omega))]; exact (h.2.2 i hi).1
    · rw [World.cell?_setCell_other _ _ _ _ (ne (by omega)), World.cell?_setCell_other _ _ _ _ (ne (by omega))]; exact (h.2.2 i hi).2
theorem Br.congr {W : World} {g K : Nat} {R R' : Nat → Rr} (h : Br W g K R) (e : ∀ i, i < K → R i = R' i) : Br W g K R' := ⟨h.1, h.2.1, fun j hj => by rw [← e j hj]; exact h.2.2 j hj⟩
theorem infoR : (Tryz.prog.info? 29).map (fun i => (i.zero, i.size, i.bytes)) = some (some (.agg #[.string ⟨#[]⟩, .string ⟨#[]⟩]), 2, 32) := by kernel_rfl
theorem mk_ratios (n : Nat) (hn : n ≤ 100000) (w : World) : (Instr.makeSlice 23 (.int .i64 n) (.int .i64 n)).run Tryz.prog w = .ok (.slice (some ⟨w.heap.size, 0, none⟩) n n) (w.alloc (.cells (madeCells #[.string ⟨#[]⟩, .string ⟨#[]⟩] (n * 2)) 29)) := by
  obtain ⟨i, hi, h1, h2, h3⟩ : ∃ i, Tryz.prog.info? 29 = some i ∧ i.zero = some (.agg #[.string ⟨#[]⟩, .string ⟨#[]⟩]) ∧ i.size = 2 ∧ i.bytes = 32 := by
    have h := infoR
    cases e : Tryz.prog.info? 29 with
    | none => rw [e] at h; cases h
    | some i => rw [e] at h; simp at h; exact ⟨i, rfl, h⟩
  have h := run_make (P := Tryz.prog) w 23 29 i _ Tryz.underlying23 hi h1 .i64 .i64 n n (by omega) (by omega) (by rw [h3]; omega) (by omega)
  rw [h2] at h
  exact h
/-- A fraction in memory at a place. -/
def FqAt (W : World) (b o : Nat) (f : Fq) : Prop :=
  W.cell? ⟨b, o, none⟩ = some (.bool f.b) ∧ W.cell? ⟨b, o + 1, none⟩ = some (.slice f.a f.k f.c) ∧ W.cell? ⟨b, o + 2, none⟩ = some (.bool f.b') ∧ W.cell? ⟨b, o + 3, none⟩ = some (.slice f.a' f.k' f.c')
theorem FqAt.below {w w' : World} {b o : Nat} {f : Fq} (h : FqAt w b o f) (hb : Below w.heap.size w w') (hl : b < w.heap.size) : FqAt w' b o f := by
  obtain ⟨h0, h1, h2, h3⟩ := h
  exact ⟨(hb.cell (p := ⟨b, o, none⟩) hl).trans h0, (hb.cell (p := ⟨b, o + 1, none⟩) hl).trans h1, (hb.cell (p := ⟨b, o + 2, none⟩) hl).trans h2, (hb.cell (p := ⟨b, o + 3, none⟩) hl).trans h3⟩
/-- A fraction's numbers, of any size that memory holds. -/
structure Fz (W : World) (f : Fq) (x y : Int) : Prop where
  n : Zn W f.b f.a f.k f.c x
  d : Zn W f.b' f.a' f.k' f.c' y
  nb : x.natAbs < bp 2000
  db : y.natAbs < bp 2000
  pos : 0 < y
theorem Fz.below {W W' : World} {f : Fq} {x y : Int} (h : Fz W f x y) (hb : Below W.heap.size W W') : Fz W' f x y := ⟨h.n.below hb, h.d.below hb, h.nb, h.db, h.pos⟩
/-- A slice that reads as k fractions. -/
def RdQ (W : World) (a : Option Addr) (k : Nat) (F : Nat → Fq) (X Y : Nat → Int) : Prop :=
  0 < k → ∃ b off, a = some ⟨b, off, none⟩ ∧ b < W.heap.size ∧ ∀ j, j < k → FqAt W b (off + j * 4) (F j) ∧ Fz W (F j) (X j) (Y j)
theorem RdQ.below {W W' : World} {a : Option Addr} {k : Nat} {F : Nat → Fq} {X Y : Nat → Int} (h : RdQ W a k F X Y) (hb : Below W.heap.size W W') : RdQ W' a k F X Y := fun h0 => by
  obtain ⟨b, off, e, hl, hc⟩ := h h0
  exact ⟨b, off, e, Nat.lt_of_lt_of_le hl hb.size, fun j hj => ⟨(hc j hj).1.below hb hl, (hc j hj).2.below hb⟩⟩
theorem RdQ.at_ {W : World} {a : Option Addr} {k : Nat} {F : Nat → Fq} {X Y : Nat → Int} (h : RdQ W a k F X Y) {j : Nat} (hj : j < k) :
    ∃ b off, a = some ⟨b, off, none⟩ ∧ FqAt W b (off + j * 4) (F j) ∧ Fz W (F j) (X j) (Y j) := by
  obtain ⟨b, off, e, _, hc⟩ := h (by omega)
  exact ⟨b, off, e, (hc j hj).1, (hc j hj).2⟩
/-- The texts of fractions, as far as j. -/
def rtx (X Y : Nat → Int) (j : Nat) : Nat → Rr := fun i => if i < j then ((ra (X i) (Y i)).1, (ra (X i) (Y i)).2.1) else (⟨#[]⟩, ⟨#[]⟩)
theorem rtx_put (X Y : Nat → Int) (j : Nat) : putR (rtx X Y j) j ((ra (X j) (Y j)).1, (ra (X j) (Y j)).2.1) = rtx X Y (j + 1) := by
  funext i
  unfold putR rtx
  by_cases e : i = j
  · subst e; rw [if_pos rfl, if_pos (by omega)]
  · rw [if_neg e]
    by_cases l : i < j
    · rw [if_pos l, if_pos (by omega)]
    · rw [if_neg l, if_neg (by omega)]
/-- What ratiosOf answers. -/
def RsP (k : Nat) (X Y : Nat → Int) (w : World) (e : Ending) (w' : World) : Prop :=
  Below w.heap.size w w' ∧ ((∃ g, e = .returned (.tuple #[.slice (some ⟨g, 0, none⟩) k k, .int .i64 0]) ∧ Br w' g k (rtx X Y k) ∧ ∀ j, j < k → (ra (X j) (Y j)).2.2 = 0) ∨
    (e = .returned (.tuple #[.slice none 0 0, .int .i64 2]) ∧ ∃ j, j < k ∧ (ra (X j) (Y j)).2.2 = 2))
theorem ra_flt (x y : Int) : (ra x y).2.2 = 0 ∨ (ra x y).2.2 = 2 := by unfold ra; split <;> simp
theorem below_put {B : Nat} {W0 W : World} {g : Nat} (h : Below B W0 W) (hg : B ≤ g) (i j : Nat) (x y : Value) : Below B W0 ((W.setCell ⟨g, i, none⟩ x).setCell ⟨g, j, none⟩ y) :=
  (h.setCell (p := ⟨g, i, none⟩) hg x).setCell (p := ⟨g, j, none⟩) hg y
set_option maxRecDepth 100000 in
set_option maxHeartbeats 4000000 in
theorem ratiosOf_c (a : Option Addr) (k c : Nat) (F : Nat → Fq) (X Y : Nat → Int) (w : World) (hk : k ≤ 100000) (h : RdQ w a k F X Y) :
    Calls Tryz.prog 12 #[.slice a k c] w (RsP k X Y w) := by
  have hmk := fun W => mk_ratios k hk W
  have BL : Hid (Below w.heap.size w (w.alloc (.cells (madeCells #[.string ⟨#[]⟩, .string ⟨#[]⟩] (k * 2)) 29))) := bel_one _ _
  have B0 : Hid (Br (w.alloc (.cells (madeCells #[.string ⟨#[]⟩, .string ⟨#[]⟩] (k * 2)) 29)) w.heap.size k (rtx X Y 0)) := (Br.made w k _).congr fun i _ => by unfold rtx; rw [if_neg (by omega)]
  have HR := Lib.hid (fun W (hb : Below w.heap.size w W) => h.below hb)
  clear h
  go_enter Tryz.func12, Tryz.ntmps12
  go_wp2_with (rw [hmk])
  generalize w.alloc (.cells (madeCells #[.string ⟨#[]⟩, .string ⟨#[]⟩] (k * 2)) 29) = W1 at *
  clear hmk
  go_loopw [14] (fun i wr => ∃ j, j ≤ k ∧ i = .int .i64 (j : Nat) ∧ Hid (Br wr w.heap.size k (rtx X Y j) ∧ Below w.heap.size w wr ∧ ∀ i, i < j → (ra (X i) (Y i)).2.2 = 0)) (fun i _ => k - (intOf i).toNat)
  case atStart => exact ⟨0, Nat.zero_le _, rfl, B0.out, BL.out, fun i hi => by omega⟩
  case round =>
    clear B0 BL
    obtain ⟨j, hj, rfl, hI⟩ := hrel
    by_cases hlt : j < k
    · have hlt' : (j : Int) < (k : Int) := by omega
      have hw1 : IntKind.i64.wrap ((j : Int) + 1) = ((j + 1 : Nat) : Int) := by rw [IntKind.wrap_i64] <;> omega
      obtain ⟨b, off, rfl, ⟨f0, f1, f2, f3⟩, hz⟩ := (HR.out wr hI.out.2.1).at_ hlt
      obtain ⟨f, hf⟩ : ∃ f, F j = f := ⟨_, rfl⟩
      rw [hf] at f0 f1 f2 f3 hz
      obtain ⟨fb, fa, fk, fc, fb', fa', fk', fc'⟩ := f
      obtain ⟨WA, hWA⟩ : ∃ W, wr.alloc (.cells #[.bool false, .slice none 0 0, .bool false, .slice none 0 0] 38) = W := ⟨_, rfl⟩
      have JA : B4 WA wr.heap.size (.bool false) (.slice none 0 0) (.bool false) (.slice none 0 0) := by rw [← hWA]; exact B4.made _ _ _ _ _ _
      obtain ⟨WX, hWX⟩ : ∃ W, four WA wr.heap.size (.bool fb) (.slice fa fk fc) (.bool fb') (.slice fa' fk' fc') = W := ⟨_, rfl⟩
      have JX : B4 WX wr.heap.size (.bool fb) (.slice fa fk fc) (.bool fb') (.slice fa' fk' fc') := by rw [← hWX]; exact JA.set _ _ _ _
      have bx : Below wr.heap.size wr WX := by rw [← hWX]; exact below_four (by rw [← hWA]; exact bel_one _ _) (Nat.le_refl _) _ _ _ _
      have HC := Lib.hid (wratioOf_c fb fa fk fc fb' fa' fk' fc' (X j) (Y j) WX (hz.n.below bx) (hz.d.below bx) hz.nb hz.db hz.pos)
      have I2 : Hid (Br WX w.heap.size k (rtx X Y j) ∧ Below w.heap.size w WX ∧ ∀ i, i < j → (ra (X i) (Y i)).2.2 = 0) := ⟨hI.out.1.keep bx, hI.out.2.1.trans (bx.mono hI.out.2.1.size), hI.out.2.2⟩
      have a0 := JA.c0
      have a1 := JA.c1
      have a2 := JA.c2
      have a3 := JA.c3
      have af0 := JA.fr 0
      have af1 := JA.fr 1
      have af2 := JA.fr 2
      have af3 := JA.fr 3
      have x0 := JX.c0
      have x1 := JX.c1
      have x2 := JX.c2
      have x3 := JX.c3
      unfold four at hWX
      clear hz hI bx JA JX hf
      go_wp2_with fail
      clear hWX hWA a0 a1 a2 a3 af0 af1 af2 af3 x0 x1 x2 x3 f0 f1 f2 f3
      refine HC.out.mono ?_
      rintro e w3 ⟨rfl, b3⟩
      obtain ⟨s, t, flt, hra⟩ : ∃ s t flt, ra (X j) (Y j) = (s, t, flt) := ⟨_, _, _, rfl⟩
      have HRA := Lib.hid hra
      have hff := ra_flt (X j) (Y j)
      rw [hra] at hff ⊢
      dsimp only at hff ⊢
      have I3 : Hid (Br w3 w.heap.size k (rtx X Y j) ∧ Below w.heap.size w w3 ∧ ∀ i, i < j → (ra (X i) (Y i)).2.2 = 0) := ⟨I2.out.1.keep b3, I2.out.2.1.trans (b3.mono I2.out.2.1.size), I2.out.2.2⟩
      clear hra b3 I2 HC
      obtain ⟨WB, hWB⟩ : ∃ W, w3.alloc (.cells #[.string ⟨#[]⟩, .string ⟨#[]⟩] 29) = W := ⟨_, rfl⟩
      have JB : B2 WB w3.heap.size (.string ⟨#[]⟩) (.string ⟨#[]⟩) := by rw [← hWB]; exact B2.made _ _ _ _
      obtain ⟨WY, hWY⟩ : ∃ W, two WB w3.heap.size (.string s) (.string t) = W := ⟨_, rfl⟩
      have JY : B2 WY w3.heap.size (.string s) (.string t) := by rw [← hWY]; exact JB.set _ _
      have by_ : Below w3.heap.size w3 WY := by rw [← hWY]; exact below_two (by rw [← hWB]; exact bel_one _ _) (Nat.le_refl _) _ _
      have I4 : Hid (Br WY w.heap.size k (rtx X Y j) ∧ Below w.heap.size w WY ∧ ∀ i, i < j → (ra (X i) (Y i)).2.2 = 0) := ⟨I3.out.1.keep by_, I3.out.2.1.trans (by_.mono I3.out.2.1.size), I3.out.2.2⟩
      have a0 := JB.c0
      have a1 := JB.c1
      have af0 := JB.fr 0
      have af1 := JB.fr 1
      have y0 := JY.c0
      have y1 := JY.c1
      unfold two at hWY
      clear JB JY by_ I3
      rcases hff with rfl | rfl
      · obtain ⟨WZ, hWZ⟩ : ∃ W, (WY.setCell ⟨w.heap.size, j * 2, none⟩ (.string s)).setCell ⟨w.heap.size, j * 2 + 1, none⟩ (.string t) = W := ⟨_, rfl⟩
        have I5 : Hid (Br WZ w.heap.size k (rtx X Y (j + 1)) ∧ Below w.heap.size w WZ ∧ ∀ i, i < j + 1 → (ra (X i) (Y i)).2.2 = 0) := by
          rw [← hWZ]
          refine ⟨?_, below_put I4.out.2.1 (Nat.le_refl _) _ _ _ _, fun i hi => ?_⟩
          · have h := I4.out.1.put hlt s t
            have e := rtx_put X Y j
            rw [HRA.out] at e
            rw [← e]
            exact h
          · by_cases e : i = j
            · subst e; rw [HRA.out]
            · exact I4.out.2.2 i (by omega)
        have c0 := (I4.out.1.2.2 j hlt).1
        have c1 := (I4.out.1.2.2 j hlt).2
        have cf0 := I4.out.1.2.1 (j * 2)
        have cf1 := I4.out.1.2.1 (j * 2 + 1)
        clear I4
        go_wp2_with fail
        exact ⟨⟨j + 1, by omega, rfl, I5.out⟩, by simp only [go_sem, intOf]; omega⟩
      · have PP : Hid (RsP k X Y w (.returned (.tuple #[.slice none 0 0, .int .i64 2])) WY) := ⟨I4.out.2.1, .inr ⟨rfl, j, hlt, by rw [HRA.out]⟩⟩
        clear I4
        go_wp2_with fail
        exact bodyPost_ret (v := .tuple #[.slice none 0 0, .int .i64 2]) (by simp [results, Tryz.results12, go_sem]) rfl PP.out
    · obtain rfl : j = k := by omega
      have hlt' : ¬ (j : Int) < (j : Int) := by omega
      have PP : Hid (RsP j X Y w (.returned (.tuple #[.slice (some ⟨w.heap.size, 0, none⟩) j j, .int .i64 0])) wr) := ⟨hI.out.2.1, .inl ⟨_, rfl, hI.out.1, hI.out.2.2⟩⟩
      clear hI
      go_wp2_with fail
      exact bodyPost_ret (v := .tuple #[.slice (some ⟨w.heap.size, 0, none⟩) j j, .int .i64 0]) (by simp [results, Tryz.results12, go_sem]) rfl PP.out
end Go.Proofs.YtchdfekajjeflaaGreatDoor
namespace Go.Proofs.YtchdfekajjeflaaGreatDoor
open Go.RowKit

/-- A block of the call's own that holds K fractions. -/
def Bq (W : World) (g K : Nat) (F : Nat → Fq) : Prop :=
  g < W.heap.size ∧ (∀ o, W.frozen? ⟨g, o, none⟩ = false) ∧ ∀ j, j < K → FqAt W g (j * 4) (F j)
theorem Bq.keep {W W' : World} {g K : Nat} {F : Nat → Fq} (h : Bq W g K F) (hb : Below W.heap.size W W') : Bq W' g K F :=
  ⟨Nat.lt_of_lt_of_le h.1 hb.size, fun o => (hb.frozen (p := ⟨g, o, none⟩) h.1).trans (h.2.1 o), fun j hj => (h.2.2 j hj).below hb h.1⟩
theorem Bq.made (W : World) (K : Nat) (e : TypeId) : Bq (W.alloc (.cells (madeCells #[.bool false, .slice none 0 0, .bool false, .slice none 0 0] (K * 4)) e)) W.heap.size K (fun _ => Fq.z) := by
  refine ⟨by simp, fun o => by simp, fun j hj => ⟨?_, ?_, ?_, ?_⟩⟩
  · rw [World.cell?_alloc_new]
    show (madeCells _ _)[j * 4]? = _
    rw [made_at (by omega)]
    have e : j * 4 % 4 = 0 := by omega
    simp [e, Fq.z]
  · rw [World.cell?_alloc_new]
    show (madeCells _ _)[j * 4 + 1]? = _
    rw [made_at (by omega)]
    have e : (j * 4 + 1) % 4 = 1 := by omega
    simp [e, Fq.z]
  · rw [World.cell?_alloc_new]
    show (madeCells _ _)[j * 4 + 2]? = _
    rw [made_at (by omega)]
    have e : (j * 4 + 2) % 4 = 2 := by omega
    simp [e, Fq.z]
  · rw [World.cell?_alloc_new]
    show (madeCells _ _)[j * 4 + 3]? = _
    rw [made_at (by omega)]
    have e : (j * 4 + 3) % 4 = 3 := by omega
    simp [e, Fq.z]
def putQ (F : Nat → Fq) (j : Nat) (x : Fq) : Nat → Fq := fun i => if i = j then x else F i
/-- The four cells of the place j are stored. -/
def fourAt (W : World) (g j : Nat) (f : Fq) : World :=
  (((W.setCell ⟨g, j * 4, none⟩ (.bool f.b)).setCell ⟨g, j * 4 + 1, none⟩ (.slice f.a f.k f.c)).setCell ⟨g, j * 4 + 2, none⟩ (.bool f.b')).setCell ⟨g, j * 4 + 3, none⟩ (.slice f.a' f.k' f.c')
theorem fourAt_out (W : World) (g j : Nat) (f : Fq) (o : Nat) (h : o < j * 4 ∨ j * 4 + 4 ≤ o) : (fourAt W g j f).cell? ⟨g, o, none⟩ = W.cell? ⟨g, o, none⟩ := by
  have ne : ∀ {p q : Nat}, p ≠ q → (⟨g, p, none⟩ : Addr) ≠ ⟨g, q, none⟩ := fun h e => by injection e with _ e2; exact h e2
  unfold fourAt
  rw [World.cell?_setCell_other _ _ _ _ (ne (by omega)), World.cell?_setCell_other _ _ _ _ (ne (by omega)), World.cell?_setCell_other _ _ _ _ (ne (by omega)), World.cell?_setCell_other _ _ _ _ (ne (by omega))]
theorem fourAt_in {W : World} {g j : Nat} {f0 : Fq} (h : FqAt W g (j * 4) f0) (f : Fq) : FqAt (fourAt W g j f) g (j * 4) f := by
  have ne : ∀ {p q : Nat}, p ≠ q → (⟨g, p, none⟩ : Addr) ≠ ⟨g, q, none⟩ := fun h e => by injection e with _ e2; exact h e2
  obtain ⟨h0, h1, h2, h3⟩ := h
  unfold fourAt
  refine ⟨?_, ?_, ?_, ?_⟩
  · rw [World.cell?_setCell_other _ _ _ _ (ne (by omega)), World.cell?_setCell_other _ _ _ _ (ne (by omega)), World.cell?_setCell_other _ _ _ _ (ne (by omega)), World.cell?_setCell_same _ _ _ h0]
  · rw [World.cell?_setCell_other _ _ _ _ (ne (by omega)), World.cell?_setCell_other _ _ _ _ (ne (by omega)), World.cell?_setCell_same _ _ _ (u := .slice f0.a f0.k f0.c) (by rw [World.cell?_setCell_other _ _ _ _ (ne (by omega))]; exact h1)]
  · rw [World.cell?_setCell_other _ _ _ _ (ne (by omega)), World.cell?_setCell_same _ _ _ (u := .bool f0.b') (by rw [World.cell?_setCell_other _ _ _ _ (ne (by omega)), World.cell?_setCell_other _ _ _ _ (ne (by omega))]; exact h2)]
  · rw [World.cell?_setCell_same _ _ _ (u := .slice f0.a' f0.k' f0.c') (by rw [World.cell?_setCell_other _ _ _ _ (ne (by omega)), World.cell?_setCell_other _ _ _ _ (ne (by omega)), World.cell?_setCell_other _ _ _ _ (ne (by omega))]; exact h3)]
theorem Bq.put {W : World} {g K j : Nat} {F : Nat → Fq} (h : Bq W g K F) (hj : j < K) (f : Fq) : Bq (fourAt W g j f) g K (putQ F j f) := by
  refine ⟨by unfold fourAt; simpa using h.1, fun o => by unfold fourAt; simp only [World.frozen?_setCell]; exact h.2.1 o, fun i hi => ?_⟩
  by_cases e : i = j
  · subst e
    have p1 : putQ F i f i = f := by unfold putQ; rw [if_pos rfl]
    rw [p1]
    exact fourAt_in (h.2.2 i hi) f
  · have p1 : putQ F j f i = F i := by unfold putQ; rw [if_neg e]
    rw [p1]
    obtain ⟨h0, h1, h2, h3⟩ := h.2.2 i hi
    exact ⟨(fourAt_out _ _ _ _ _ (by omega)).trans h0, (fourAt_out _ _ _ _ _ (by omega)).trans h1, (fourAt_out _ _ _ _ _ (by omega)).trans h2, (fourAt_out _ _ _ _ _ (by omega)).trans h3⟩
theorem below_fourAt {B : Nat} {W0 W : World} {g : Nat} (h : Below B W0 W) (hg : B ≤ g) (j : Nat) (f : Fq) : Below B W0 (fourAt W g j f) :=
  (((h.setCell (p := ⟨g, j * 4, none⟩) hg _).setCell (p := ⟨g, j * 4 + 1, none⟩) hg _).setCell (p := ⟨g, j * 4 + 2, none⟩) hg _).setCell (p := ⟨g, j * 4 + 3, none⟩) hg _
/-- A store into a row of fractions changes no number: no limb lies there. -/
theorem Zn.setc {W : World} {b : Bool} {a : Option Addr} {k c : Nat} {z : Int} (h : Zn W b a k c z) {p : Addr} {u : Value} (hu : W.cell? p = some u) (hne : NL u) (x : Value) : Zn (W.setCell p x) b a k c z := by
  obtain ⟨n, h1, h2⟩ := h
  exact ⟨n, h1.set hu hne x, h2⟩
theorem Zn.fourAt {W : World} {b : Bool} {a : Option Addr} {k c : Nat} {z : Int} (h : Zn W b a k c z) {g j : Nat} {f0 : Fq} (hf : FqAt W g (j * 4) f0) (f : Fq) : Zn (fourAt W g j f) b a k c z := by
  have ne : ∀ {p q : Nat}, p ≠ q → (⟨g, p, none⟩ : Addr) ≠ ⟨g, q, none⟩ := fun h e => by injection e with _ e2; exact h e2
  obtain ⟨h0, h1, h2, h3⟩ := hf
  unfold Go.Proofs.YtchdfekajjeflaaGreatDoor.fourAt
  refine (((h.setc h0 (NL.b _) _).setc (u := .slice f0.a f0.k f0.c) ?_ (NL.s _ _ _) _).setc (u := .bool f0.b') ?_ (NL.b _) _).setc (u := .slice f0.a' f0.k' f0.c') ?_ (NL.s _ _ _) _
  · rw [World.cell?_setCell_other _ _ _ _ (ne (by omega))]; exact h1
  · rw [World.cell?_setCell_other _ _ _ _ (ne (by omega)), World.cell?_setCell_other _ _ _ _ (ne (by omega))]; exact h2
  · rw [World.cell?_setCell_other _ _ _ _ (ne (by omega)), World.cell?_setCell_other _ _ _ _ (ne (by omega)), World.cell?_setCell_other _ _ _ _ (ne (by omega))]; exact h3
theorem Fz.fourAt {W : World} {f : Fq} {x y : Int} (h : Fz W f x y) {g j : Nat} {f0 : Fq} (hf : FqAt W g (j * 4) f0) (f1 : Fq) : Fz (fourAt W g j f1) f x y :=
  ⟨h.n.fourAt hf f1, h.d.fourAt hf f1, h.nb, h.db, h.pos⟩
theorem infoF : (Tryz.prog.info? 38).map (fun i => (i.zero.map Value.cells, i.size, i.bytes)) = some (some #[.bool false, .slice none 0 0, .bool false, .slice none 0 0], 4, 64) := by kernel_rfl
theorem mk_fractions (n : Nat) (hn : n ≤ 100000) (w : World) : (Instr.makeSlice 31 (.int .i64 n) (.int .i64 n)).run Tryz.prog w = .ok (.slice (some ⟨w.heap.size, 0, none⟩) n n) (w.alloc (.cells (madeCells #[.bool false, .slice none 0 0, .bool false, .slice none 0 0] (n * 4)) 38)) := by
  obtain ⟨i, z, hi, h1, hc, h2, h3⟩ : ∃ i z, Tryz.prog.info? 38 = some i ∧ i.zero = some z ∧ z.cells = #[.bool false, .slice none 0 0, .bool false, .slice none 0 0] ∧ i.size = 4 ∧ i.bytes = 64 := by
    have h := infoF
    cases e : Tryz.prog.info? 38 with
    | none => rw [e] at h; cases h
    | some i =>
      rw [e] at h
      cases e2 : i.zero with
      | none => rw [Option.map_some, e2] at h; simp at h
      | some z => rw [Option.map_some, e2] at h; simp at h; exact ⟨i, z, rfl, e2, by rw [h.1], h.2.1, h.2.2⟩
  have h := run_make (P := Tryz.prog) w 31 38 i z Tryz.underlying31 hi h1 .i64 .i64 n n (by omega) (by omega) (by rw [h3]; omega) (by omega)
  rw [h2, hc] at h
  exact h
/-- A pick: a unit, and the texts of its chance. -/
structure Pk where
  id : Int
  s : ByteArray
  t : ByteArray
def pk (l : List Pk) (j : Nat) : Pk := l.getD j ⟨0, ⟨#[]⟩, ⟨#[]⟩⟩
def PkAt (w : World) (b o : Nat) (f : Pk) : Prop :=
  w.cell? ⟨b, o, none⟩ = some (.int .i64 f.id) ∧ w.cell? ⟨b, o + 1, none⟩ = some (.string f.s) ∧ w.cell? ⟨b, o + 2, none⟩ = some (.string f.t)
theorem PkAt.below {w w' : World} {b o : Nat} {f : Pk} (h : PkAt w b o f) (hb : Below w.heap.size w w') (hl : b < w.heap.size) : PkAt w' b o f := by
  obtain ⟨h0, h1, h3⟩ := h
  exact ⟨(hb.cell (p := ⟨b, o, none⟩) hl).trans h0, (hb.cell (p := ⟨b, o + 1, none⟩) hl).trans h1, (hb.cell (p := ⟨b, o + 2, none⟩) hl).trans h3⟩
/-- A slice that reads as a list of picks. -/
def RdP (w : World) (a : Option Addr) (l : List Pk) : Prop :=
  l.length ≤ 9223372036854775807 ∧ (0 < l.length → ∃ b off, a = some ⟨b, off, none⟩ ∧ b < w.heap.size ∧ ∀ j, j < l.length → PkAt w b (off + j * 3) (pk l j))
theorem RdP.below {w w' : World} {a : Option Addr} {l : List Pk} (h : RdP w a l) (hb : Below w.heap.size w w') : RdP w' a l :=
  ⟨h.1, fun h0 => by
    obtain ⟨b, off, e, hl, hc⟩ := h.2 h0
    exact ⟨b, off, e, Nat.lt_of_lt_of_le hl hb.size, fun j hj => (hc j hj).below hb hl⟩⟩
theorem RdP.at_ {w : World} {a : Option Addr} {l : List Pk} (h : RdP w a l) {k : Nat} (hk : k < l.length) :
    ∃ b off, a = some ⟨b, off, none⟩ ∧ PkAt w b (off + k * 3) (pk l k) := by
  obtain ⟨b, off, e, _, hc⟩ := h.2 (by omega)
  exact ⟨b, off, e, hc k hk⟩
/-- What a pick's weight comes to: the fault, or the texts of one through its chance. -/
def bsE (p : Pk) : Int := if shS p.s.data.toList p.t.data.toList ≠ 0 then shS p.s.data.toList p.t.data.toList else
  match rread p.s.data.toList p.t.data.toList with
  | some (x, y) => if x ≤ 0 ∨ y < x then 1 else 0
  | none => 0
def bsT (p : Pk) : Rr := match rread p.s.data.toList p.t.data.toList with
  | some (x, y) => ((ra y x).1, (ra y x).2.1)
  | none => (⟨#[]⟩, ⟨#[]⟩)
end Go.Proofs.YtchdfekajjeflaaGreatDoor
namespace Go.Proofs.YtchdfekajjeflaaGreatDoor

theorem cop_dvd {a b c : Nat} (h : Nat.gcd a b = 1) (hd : a ∣ b * c) : a ∣ c := Nat.Coprime.dvd_of_dvd_mul_left h hd
/-- A fraction in lowest terms is one alone. -/
theorem low_eq {p q p' q' : Int} (hq : 0 < q) (hq' : 0 < q') (h1 : Int.gcd p q = 1) (h2 : Int.gcd p' q' = 1) (h : p * q' = p' * q) : p = p' ∧ q = q' := by
  have e : p.natAbs * q'.natAbs = p'.natAbs * q.natAbs := by rw [← Int.natAbs_mul, h, Int.natAbs_mul]
  have g1 : Nat.gcd q.natAbs p.natAbs = 1 := by rw [Nat.gcd_comm]; exact h1
  have g2 : Nat.gcd q'.natAbs p'.natAbs = 1 := by rw [Nat.gcd_comm]; exact h2
  have d1 : q.natAbs ∣ q'.natAbs := cop_dvd g1 (by rw [e]; exact Nat.dvd_mul_left _ _)
  have d2 : q'.natAbs ∣ q.natAbs := cop_dvd g2 (by rw [← e]; exact Nat.dvd_mul_left _ _)
  have e2 : q.natAbs = q'.natAbs := Nat.dvd_antisymm d1 d2
  have e3 : q = q' := by omega
  subst e3
  exact ⟨Int.eq_of_mul_eq_mul_right (by omega) h, rfl⟩
/-- What the lowest terms of a fraction are. -/
structure Low (n d p q : Int) : Prop where
  pos : 0 < q
  one : Int.gcd p q = 1
  eq : p * d = n * q
theorem red_low {n d : Int} (h : d ≠ 0) : Low n d (red n d).1 (red n d).2 := by
  have hp := red_pos (n := n) h
  have hg : 0 < Int.gcd n d := Int.gcd_pos_of_ne_zero_right n h
  have hgn : ovG n d ≠ 0 := ovG_ne h
  have habs := ovG_abs n d
  have hdn : ovG n d ∣ n := by rw [← Int.natAbs_dvd, habs]; exact Int.gcd_dvd_left n d
  have hdd : ovG n d ∣ d := by rw [← Int.natAbs_dvd, habs]; exact Int.gcd_dvd_right n d
  refine ⟨hp, ?_, ?_⟩
  · show Nat.gcd (n.tdiv (ovG n d)).natAbs (d.tdiv (ovG n d)).natAbs = 1
    rw [Int.natAbs_tdiv, Int.natAbs_tdiv, habs]
    have hg2 : 0 < Nat.gcd n.natAbs d.natAbs := hg
    show Nat.gcd (n.natAbs / Nat.gcd n.natAbs d.natAbs) (d.natAbs / Nat.gcd n.natAbs d.natAbs) = 1
    rw [Nat.gcd_div (Nat.gcd_dvd_left _ _) (Nat.gcd_dvd_right _ _), Nat.div_self hg2]
  · show n.tdiv (ovG n d) * d = n * d.tdiv (ovG n d)
    have a := Int.tdiv_mul_cancel hdn
    have b := Int.tdiv_mul_cancel hdd
    generalize n.tdiv (ovG n d) = u at *
    generalize d.tdiv (ovG n d) = v at *
    generalize ovG n d = g at *
    rw [← a, ← b, Int.mul_assoc, Int.mul_comm g v]
theorem red_eq {n d n' d' : Int} (h : d ≠ 0) (h' : d' ≠ 0) (e : n * d' = n' * d) : red n d = red n' d' := by
  have l := red_low (n := n) h
  have l' := red_low (n := n') h'
  generalize red n d = r at *
  generalize red n' d' = r' at *
  have hx : r.1 * r'.2 = r'.1 * r.2 := by
    have a := l.eq
    have b := l'.eq
    have t : (r.1 * r'.2) * (d * d') = (r'.1 * r.2) * (d * d') := by
      have c1 : (r.1 * r'.2) * (d * d') = (r.1 * d) * (d' * r'.2) := by grind
      have c2 : (r'.1 * r.2) * (d * d') = (r'.1 * d') * (d * r.2) := by grind
      rw [c1, c2, a, b]
      have c3 : n * r.2 * (d' * r'.2) = (n * d') * (r.2 * r'.2) := by grind
      have c4 : n' * r'.2 * (d * r.2) = (n' * d) * (r.2 * r'.2) := by grind
      rw [c3, c4, e]
    exact Int.eq_of_mul_eq_mul_right (Int.mul_ne_zero h h') t
  have := low_eq l.pos l'.pos l.one l'.one hx
  exact Prod.ext this.1 this.2
/-- A fraction in lowest terms is written as it is. -/
theorem raR_low {x y : Int} (hy : 0 < y) (h : Int.gcd x y = 1) : raR x y = ra x y := by
  have l := red_low (n := x) (d := y) (by omega)
  have e := low_eq l.pos hy l.one h l.eq
  unfold raR
  rw [e.1, e.2]
/-- Equal fractions are written alike. -/
theorem raR_eq {n d n' d' : Int} (h : d ≠ 0) (h' : d' ≠ 0) (e : n * d' = n' * d) : raR n d = raR n' d' := by
  unfold raR
  rw [red_eq h h' e]
end Go.Proofs.YtchdfekajjeflaaGreatDoor
