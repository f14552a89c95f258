/-
  Ratios of package value: the texts of a fraction.
  Ratios: lowest terms are one thing.
  Ratios of package value: RatioOf.
  The ratio of package sample, at numbers from 0 on: the call.
-/
import Derived.Test.YtfldlcnlijljcaaGreatDoorRt10
import Derived.Test.YtfldlcnlijljcaaGreatDoorRt08
import Derived.Lib.ItoaLen
import Derived.Deep.RegionHeld3
namespace Go.Proofs.YtfldlcnlijljcaaGreatDoor
open Go.RowKit

set_option maxRecDepth 100000 in
set_option maxHeartbeats 4000000 in
theorem ratioOf_c (b1 : Bool) (a1 : Option Addr) (k1 c1 : Nat) (b2 : Bool) (a2 : Option Addr) (k2 c2 : Nat) (x y : Int) (w : World) (h1 : Zn w b1 a1 k1 c1 x) (h2 : Zn w b2 a2 k2 c2 y) (hx : x.natAbs < bp 2000) (hy : y.natAbs < bp 2000) (hp : 0 < y) :
    Calls Tryz.prog 37 #[.agg #[.bool b1, .slice a1 k1 c1, .bool b2, .slice a2 k2 c2]] w (RaPost x y w) := by
  obtain ⟨W0, hW0⟩ : ∃ W0, (w.alloc (.cells #[.bool b1, .slice a1 k1 c1, .bool b2, .slice a2 k2 c2] 65)).alloc (.cells #[.string ⟨#[]⟩, .string ⟨#[]⟩] 31) = W0 := ⟨_, rfl⟩
  have J0 : Hid (Rb w b1 a1 k1 c1 b2 a2 k2 c2 W0) := by
    have s1 : (w.alloc (.cells #[.bool b1, .slice a1 k1 c1, .bool b2, .slice a2 k2 c2] 65)).heap.size = w.heap.size + 1 := by simp
    rw [← hW0]
    refine ⟨(B4.made w _ _ _ _ _).keep (bel_one _ _), ?_, ((Below.refl _ _).alloc (Nat.le_refl _) _).alloc (by simp) _⟩
    rw [← s1]; exact B2.made _ _ _ _
  obtain ⟨u, hu⟩ : ∃ u : ByteArray, u = ⟨(Lib.decDigits x.natAbs).toArray⟩ := ⟨_, rfl⟩
  have hus : u.size = (Lib.decDigits x.natAbs).length := by rw [hu]; simp [ByteArray.size]
  have hts : (tzB y).size = (Lib.decDigits y.natAbs).length := by
    have e : tz y = Lib.decDigits y.natAbs := by unfold tz; rw [if_neg (by omega)]
    unfold tzB
    rw [e]
    simp [ByteArray.size]
  have HTP : Hid (∀ w, Calls Tryz.prog 48 #[.string (tzB x), .string ⟨#[45]⟩] w fun e w' => e = .returned (.string u) ∧ w = w') := fun w => (Tryz.strings_TrimPrefix (tzB x) ⟨#[45]⟩ w).mono fun e w' ⟨he, hw⟩ => ⟨by
    rw [he, hu]
    have e2 : Lib.trimPrefix (tzB x).data.toList (⟨#[45]⟩ : ByteArray).data.toList = Lib.decDigits x.natAbs := trim_tz x
    rw [e2], hw.symm⟩
  have HFT : Hid (fits x y = (decide (u.size ≤ 2000) && decide ((tzB y).size ≤ 2000))) := by unfold Hid fits; rw [hus, hts]
  have M1 := Lib.hid (fun W (h : Rb w b1 a1 k1 c1 b2 a2 k2 c2 W) => Text_c b1 a1 k1 c1 x W (h1.below h.bel) hx)
  have M2 := Lib.hid (fun W (h : Rb w b1 a1 k1 c1 b2 a2 k2 c2 W) => Text_c b2 a2 k2 c2 y W (h2.below h.bel) hy)
  clear h1 h2 hx hy hp hu hus hts
  go_enter Tryz.func37, Tryz.ntmps37
  go_wp2_with fail
  clear hW0
  refine wp_region_noPanic ?_
  refine wp_region_held_drew (S := SR w.heap.size b1 a1 k1 c1 b2 a2 k2 c2) (by kernel_rfl) (J0.out.keep (Below.refl _ _).drew).si (fun hS => ?_)
  have J1 := Lib.hid (J0.out.keep (Below.refl _ _).drew)
  clear J0
  refine wpAnyH_take (i := 0) (v := ?v0z29) rfl (by kernel_rfl) (by kernel_rfl) (by kernel_rfl) (fun _ _ _ h => h) (Or.inl ⟨by rfl, ?hy0z29⟩) (by assumption) ?rest0z29
  case hy0z29 =>
    intro w hSw
    dsimp only [SR] at hSw
    go_simp
    try with_reducible rfl
  simp only [Act.put, List.getElem_toArray, List.getElem_cons_succ, List.getElem_cons_zero, List.setIfInBounds_toArray, List.set_cons_zero, List.set_cons_succ]
  refine wpAnyH_take (i := 1) (v := ?v1z30) rfl (by kernel_rfl) (by kernel_rfl) (by kernel_rfl) (fun _ _ _ h => h) (Or.inl ⟨by rfl, ?hy1z30⟩) (by assumption) ?rest1z30
  case hy1z30 =>
    intro w hSw
    dsimp only [SR] at hSw
    go_simp
    try with_reducible rfl
  simp only [Act.put, List.getElem_toArray, List.getElem_cons_succ, List.getElem_cons_zero, List.setIfInBounds_toArray, List.set_cons_zero, List.set_cons_succ]
  refine wpAnyH_take (i := 3) (v := ?v3z31) rfl (by kernel_rfl) (by kernel_rfl) (by kernel_rfl) (fun _ _ _ h => h) (Or.inl ⟨by rfl, ?hy3z31⟩) (by assumption) ?rest3z31
  case hy3z31 =>
    intro w hSw
    dsimp only [SR] at hSw
    go_simp
    try with_reducible rfl
  simp only [Act.put, List.getElem_toArray, List.getElem_cons_succ, List.getElem_cons_zero, List.setIfInBounds_toArray, List.set_cons_zero, List.set_cons_succ]
  refine wpAnyH_take (i := 4) (v := ?v4z32) rfl (by kernel_rfl) (by kernel_rfl) (by kernel_rfl) (fun _ _ _ h => h) (Or.inl ⟨by rfl, ?hy4z32⟩) (by assumption) ?rest4z32
  case hy4z32 =>
    intro w hSw
    dsimp only [SR] at hSw
    go_simp
    try with_reducible rfl
  simp only [Act.put, List.getElem_toArray, List.getElem_cons_succ, List.getElem_cons_zero, List.setIfInBounds_toArray, List.set_cons_zero, List.set_cons_succ]
  refine wpAnyH_ready (rs := [2]) (by kernel_rfl) (by simp) ?_
  refine AllReadyH.cons rfl (fun K hK => ?_) AllReadyH.nil
  go_simp
  refine (M1.out _ J1.out).mono ?_
  rintro e W3 ⟨rfl, bc⟩
  try go_simp
  have J3 := Lib.hid (J1.out.keep bc)
  have hT := J3.out.si
  refine hK.out _ _ hT (fun _ => ?_)
  clear hK K hS bc J1 
  have hS := hT
  clear hT
  try simp only [Act.put, List.setIfInBounds_toArray, List.set_cons_zero, List.set_cons_succ]
  refine wpAnyH_ready (rs := [5]) (by kernel_rfl) (by simp) ?_
  refine AllReadyH.cons rfl (fun K hK => ?_) AllReadyH.nil
  go_simp
  refine (M2.out _ J3.out).mono ?_
  rintro e W4 ⟨rfl, bc⟩
  try go_simp
  have J4 := Lib.hid (J3.out.keep bc)
  have hT := J4.out.si
  refine hK.out _ _ hT (fun _ => ?_)
  clear hK K hS bc J3 
  have hS := hT
  clear hT
  try simp only [Act.put, List.setIfInBounds_toArray, List.set_cons_zero, List.set_cons_succ]
  refine wpAnyH_take (i := 6) (v := ?v6z33) rfl (by kernel_rfl) (by kernel_rfl) (by kernel_rfl) (fun _ _ _ h => h) (Or.inl ⟨by rfl, ?hy6z33⟩) (by assumption) ?rest6z33
  case hy6z33 =>
    intro w hSw
    dsimp only [SR] at hSw
    go_simp
    try with_reducible rfl
  simp only [Act.put, List.getElem_toArray, List.getElem_cons_succ, List.getElem_cons_zero, List.setIfInBounds_toArray, List.set_cons_zero, List.set_cons_succ]
  refine wpAnyH_take (i := 7) (v := ?v7z34) rfl (by kernel_rfl) (by kernel_rfl) (by kernel_rfl) (fun _ _ _ h => h) (Or.inl ⟨by rfl, ?hy7z34⟩) (by assumption) ?rest7z34
  case hy7z34 =>
    intro w hSw
    dsimp only [SR] at hSw
    go_simp
    try with_reducible rfl
  simp only [Act.put, List.getElem_toArray, List.getElem_cons_succ, List.getElem_cons_zero, List.setIfInBounds_toArray, List.set_cons_zero, List.set_cons_succ]
  refine wpAnyH_done (by kernel_rfl) ?_ _
  refine NoPanic.normal ?_
  clear hS M1 M2
  generalize hty : tzB y = ty at *
  generalize htx : tzB x = tx at *
  by_cases hf : fits x y = true
  · have HRA : Hid (ra x y = (tx, ty, 0)) := by unfold Hid ra; rw [if_pos hf, htx, hty]
    have h1 : u.size ≤ 2000 ∧ ty.size ≤ 2000 := by rw [HFT.out] at hf; simpa using hf
    have i1 : ¬ (2000 : Int) < (u.size : Int) := by omega
    have i2 : ¬ (2000 : Int) < (ty.size : Int) := by omega
    clear hf HFT h1 hty htx
    obtain ⟨W9, hW9⟩ : ∃ W9, two W4 (w.heap.size + 1) (.string tx) (.string ty) = W9 := ⟨_, rfl⟩
    have R9 : B2 W9 (w.heap.size + 1) (.string tx) (.string ty) := by rw [← hW9]; exact J4.out.r.set _ _
    have PP : Hid (RaPost x y w (.returned (.tuple #[.agg #[.string tx, .string ty], .int .i64 0])) W9) := by
      rw [← hW9]
      exact ⟨by rw [HRA.out], below_two J4.out.bel (Nat.le_succ _) _ _⟩
    have q0 := J4.out.r.c0
    have q1 := J4.out.r.c1
    have g0 := J4.out.r.fr 0
    have g1 := J4.out.r.fr 1
    obtain ⟨r0, r1, _, _⟩ := id R9
    unfold two at hW9
    clear R9
    go_wp2_with (go_at_call 48; refine (HTP.out _).mono ?_; rintro e w' ⟨rfl, rfl⟩)
    exact bodyPost_ret (v := .tuple #[.agg #[.string tx, .string ty], .int .i64 0]) (by simp [results, Tryz.results37, go_sem, r0, r1]) rfl PP.out
  · have HRA : Hid (ra x y = (⟨#[]⟩, ⟨#[]⟩, 2)) := by unfold Hid ra; rw [if_neg hf]
    have h1 : 2000 < u.size ∨ (u.size ≤ 2000 ∧ 2000 < ty.size) := by rw [HFT.out] at hf; simp at hf; omega
    clear hf HFT hty htx
    rcases h1 with h | ⟨h, h'⟩
    · have i1 : (2000 : Int) < (u.size : Int) := by omega
      obtain ⟨W9, hW9⟩ : ∃ W9, two W4 (w.heap.size + 1) (.string ⟨#[]⟩) (.string ⟨#[]⟩) = W9 := ⟨_, rfl⟩
      have R9 : B2 W9 (w.heap.size + 1) (.string ⟨#[]⟩) (.string ⟨#[]⟩) := by rw [← hW9]; exact J4.out.r.set _ _
      have PP : Hid (RaPost x y w (.returned (.tuple #[.agg #[.string ⟨#[]⟩, .string ⟨#[]⟩], .int .i64 2])) W9) := by
        rw [← hW9]
        exact ⟨by rw [HRA.out], below_two J4.out.bel (Nat.le_succ _) _ _⟩
      have q0 := J4.out.r.c0
      have q1 := J4.out.r.c1
      have g0 := J4.out.r.fr 0
      have g1 := J4.out.r.fr 1
      obtain ⟨r0, r1, _, _⟩ := id R9
      unfold two at hW9
      clear R9
      go_wp2_with (go_at_call 48; refine (HTP.out _).mono ?_; rintro e w' ⟨rfl, rfl⟩)
      exact bodyPost_ret (v := .tuple #[.agg #[.string ⟨#[]⟩, .string ⟨#[]⟩], .int .i64 2]) (by simp [results, Tryz.results37, go_sem, r0, r1]) rfl PP.out
    · have i1 : ¬ (2000 : Int) < (u.size : Int) := by omega
      have i2 : (2000 : Int) < (ty.size : Int) := by omega
      obtain ⟨W9, hW9⟩ : ∃ W9, two W4 (w.heap.size + 1) (.string ⟨#[]⟩) (.string ⟨#[]⟩) = W9 := ⟨_, rfl⟩
      have R9 : B2 W9 (w.heap.size + 1) (.string ⟨#[]⟩) (.string ⟨#[]⟩) := by rw [← hW9]; exact J4.out.r.set _ _
      have PP : Hid (RaPost x y w (.returned (.tuple #[.agg #[.string ⟨#[]⟩, .string ⟨#[]⟩], .int .i64 2])) W9) := by
        rw [← hW9]
        exact ⟨by rw [HRA.out], below_two J4.out.bel (Nat.le_succ _) _ _⟩
      have q0 := J4.out.r.c0
      have q1 := J4.out.r.c1
      have g0 := J4.out.r.fr 0
      have g1 := J4.out.r.fr 1
      obtain ⟨r0, r1, _, _⟩ := id R9
      unfold two at hW9
      clear R9
      go_wp2_with (go_at_call 48; refine (HTP.out _).mono ?_; rintro e w' ⟨rfl, rfl⟩)
      exact bodyPost_ret (v := .tuple #[.agg #[.string ⟨#[]⟩, .string ⟨#[]⟩], .int .i64 2]) (by simp [results, Tryz.results37, go_sem, r0, r1]) rfl PP.out
end Go.Proofs.YtfldlcnlijljcaaGreatDoor
namespace Go.Proofs.YtfldlcnlijljcaaGreatDoor

theorem cop_dvd {a b c : Nat} (h : Nat.gcd a b = 1) (hd : a ∣ b * c) : a ∣ c := Nat.Coprime.dvd_of_dvd_mul_left h hd
/-- A fraction in lowest terms is one alone. -/
theorem low_eq {p q p' q' : Int} (hq : 0 < q) (hq' : 0 < q') (h1 : Int.gcd p q = 1) (h2 : Int.gcd p' q' = 1) (h : p * q' = p' * q) : p = p' ∧ q = q' := by
  have e : p.natAbs * q'.natAbs = p'.natAbs * q.natAbs := by rw [← Int.natAbs_mul, h, Int.natAbs_mul]
  have g1 : Nat.gcd q.natAbs p.natAbs = 1 := by rw [Nat.gcd_comm]; exact h1
  have g2 : Nat.gcd q'.natAbs p'.natAbs = 1 := by rw [Nat.gcd_comm]; exact h2
  have d1 : q.natAbs ∣ q'.natAbs := cop_dvd g1 (by rw [e]; exact Nat.dvd_mul_left _ _)
  have d2 : q'.natAbs ∣ q.natAbs := cop_dvd g2 (by rw [← e]; exact Nat.dvd_mul_left _ _)
  have e2 : q.natAbs = q'.natAbs := Nat.dvd_antisymm d1 d2
  have e3 : q = q' := by omega
  subst e3
  exact ⟨Int.eq_of_mul_eq_mul_right (by omega) h, rfl⟩
/-- What the lowest terms of a fraction are. -/
structure Low (n d p q : Int) : Prop where
  pos : 0 < q
  one : Int.gcd p q = 1
  eq : p * d = n * q
theorem red_low {n d : Int} (h : d ≠ 0) : Low n d (red n d).1 (red n d).2 := by
  have hp := red_pos (n := n) h
  have hg : 0 < Int.gcd n d := Int.gcd_pos_of_ne_zero_right n h
  have hgn : ovG n d ≠ 0 := ovG_ne h
  have habs := ovG_abs n d
  have hdn : ovG n d ∣ n := by rw [← Int.natAbs_dvd, habs]; exact Int.gcd_dvd_left n d
  have hdd : ovG n d ∣ d := by rw [← Int.natAbs_dvd, habs]; exact Int.gcd_dvd_right n d
  refine ⟨hp, ?_, ?_⟩
  · show Nat.gcd (n.tdiv (ovG n d)).natAbs (d.tdiv (ovG n d)).natAbs = 1
    rw [Int.natAbs_tdiv, Int.natAbs_tdiv, habs]
    have hg2 : 0 < Nat.gcd n.natAbs d.natAbs := hg
    show Nat.gcd (n.natAbs / Nat.gcd n.natAbs d.natAbs) (d.natAbs / Nat.gcd n.natAbs d.natAbs) = 1
    rw [Nat.gcd_div (Nat.gcd_dvd_left _ _) (Nat.gcd_dvd_right _ _), Nat.div_self hg2]
  · show n.tdiv (ovG n d) * d = n * d.tdiv (ovG n d)
    have a := Int.tdiv_mul_cancel hdn
    have b := Int.tdiv_mul_cancel hdd
    generalize n.tdiv (ovG n d) = u at *
    generalize d.tdiv (ovG n d) = v at *
    generalize ovG n d = g at *
    rw [← a, ← b, Int.mul_assoc, Int.mul_comm g v]
theorem red_eq {n d n' d' : Int} (h : d ≠ 0) (h' : d' ≠ 0) (e : n * d' = n' * d) : red n d = red n' d' := by
  have l := red_low (n := n) h
  have l' := red_low (n := n') h'
  generalize red n d = r at *
  generalize red n' d' = r' at *
  have hx : r.1 * r'.2 = r'.1 * r.2 := by
    have a := l.eq
    have b := l'.eq
    have t : (r.1 * r'.2) * (d * d') = (r'.1 * r.2) * (d * d') := by
      have c1 : (r.1 * r'.2) * (d * d') = (r.1 * d) * (d' * r'.2) := by grind
      have c2 : (r'.1 * r.2) * (d * d') = (r'.1 * d') * (d * r.2) := by grind
      rw [c1, c2, a, b]
      have c3 : n * r.2 * (d' * r'.2) = (n * d') * (r.2 * r'.2) := by grind
      have c4 : n' * r'.2 * (d * r.2) = (n' * d) * (r.2 * r'.2) := by grind
      rw [c3, c4, e]
    exact Int.eq_of_mul_eq_mul_right (Int.mul_ne_zero h h') t
  have := low_eq l.pos l'.pos l.one l'.one hx
  exact Prod.ext this.1 this.2
/-- A fraction in lowest terms is written as it is. -/
theorem raR_low {x y : Int} (hy : 0 < y) (h : Int.gcd x y = 1) : raR x y = ra x y := by
  have l := red_low (n := x) (d := y) (by omega)
  have e := low_eq l.pos hy l.one h l.eq
  unfold raR
  rw [e.1, e.2]
/-- Equal fractions are written alike. -/
theorem raR_eq {n d n' d' : Int} (h : d ≠ 0) (h' : d' ≠ 0) (e : n * d' = n' * d) : raR n d = raR n' d' := by
  unfold raR
  rw [red_eq h h' e]
end Go.Proofs.YtfldlcnlijljcaaGreatDoor
namespace Go.Proofs.YtfldlcnlijljcaaGreatDoor
open Go.RowKit

/-- RatioOf's answer. -/
def roS (n d : Int) : ByteArray × ByteArray × Int := if d = 0 then (⟨#[]⟩, ⟨#[]⟩, 19) else raR n d
set_option maxRecDepth 100000 in
set_option maxHeartbeats 4000000 in
theorem RatioOf_c (n d : Int) (w : World) (n0 : -9223372036854775808 ≤ n) (n1 : n ≤ 9223372036854775807) (d0 : -9223372036854775808 ≤ d) (d1 : d ≤ 9223372036854775807) :
    Calls Tryz.prog 26 #[.int .i64 n, .int .i64 d] w (OpPost (roS n d) w) := by
  obtain ⟨W0, hW0⟩ : ∃ W0, w.alloc (.cells #[.string ⟨#[]⟩, .string ⟨#[]⟩] 31) = W0 := ⟨_, rfl⟩
  have JR0 : Hid (B2 W0 w.heap.size (.string ⟨#[]⟩) (.string ⟨#[]⟩)) := by rw [← hW0]; exact B2.made _ _ _ _
  have JB0 : Hid (Below w.heap.size w W0) := by rw [← hW0]; exact bel_one _ _
  by_cases hz : d = 0
  · subst hz
    have RS : Hid (roS n 0 = (⟨#[]⟩, ⟨#[]⟩, 19)) := rfl
    go_enter Tryz.func26, Tryz.ntmps26
    obtain ⟨W9, hW9⟩ : ∃ W9, two W0 (w.heap.size) (.string ⟨#[]⟩) (.string ⟨#[]⟩) = W9 := ⟨_, rfl⟩
    have R9 : B2 W9 (w.heap.size) (.string ⟨#[]⟩) (.string ⟨#[]⟩) := by rw [← hW9]; exact JR0.out.set _ _
    have PP : Hid (OpPost (roS n 0) w (.returned (.tuple #[.agg #[.string ⟨#[]⟩, .string ⟨#[]⟩], .int .i64 19])) W9) := by
      rw [← hW9]
      exact ⟨by rw [RS.out], below_two JB0.out (by omega) _ _⟩
    have c0 := JR0.out.c0
    have c1 := JR0.out.c1
    have cf0 := JR0.out.fr 0
    have cf1 := JR0.out.fr 1
    obtain ⟨r0, r1, _, _⟩ := id R9
    unfold two at hW9
    clear R9
    go_wp2_with fail
    exact bodyPost_ret (v := .tuple #[.agg #[.string ⟨#[]⟩, .string ⟨#[]⟩], .int .i64 19]) (by simp [results, Tryz.results26, go_sem, r0, r1]) rfl PP.out
  · have hne : (d == 0) = false := by rw [beq_eq_false_iff_ne]; exact hz
    have RS : Hid (roS n d = raR n d) := by unfold Hid roS; rw [if_neg hz]
    have bn : n.natAbs < bp 2000 := Nat.lt_of_lt_of_le (show n.natAbs < bp 1 by rw [bp_one]; omega) (bp_mono (by decide))
    have bd : d.natAbs < bp 2000 := Nat.lt_of_lt_of_le (show d.natAbs < bp 1 by rw [bp_one]; omega) (bp_mono (by decide))
    have O1 := Lib.hid (fun w => Of_c n w n0 n1)
    have O2 := Lib.hid (fun w => Of_c d w d0 d1)
    have BN := Lib.hid bn
    have BD := Lib.hid bd
    have HZ := Lib.hid hz
    clear hz bn bd
    go_enter Tryz.func26, Tryz.ntmps26
    go_wp2_with fail
    clear hW0
    (with_reducible refine (O1.out _).mono ?_)
    rintro e w1 ⟨ba, a, k, c, rfl, hn, b1⟩
    have N1 := Lib.hid hn
    have JR1 := Lib.hid (JR0.out.keep b1)
    have JB1 := Lib.hid (JB0.out.trans (b1.mono JB0.out.size))
    clear hn b1 O1 JR0 JB0
    go_wp2_with fail
    (with_reducible refine (O2.out _).mono ?_)
    rintro e w2 ⟨bb, a', k', c', rfl, hd, b2⟩
    have N2 := Lib.hid (N1.out.below b2)
    have D2 := Lib.hid hd
    have JR2 := Lib.hid (JR1.out.keep b2)
    have JB2 := Lib.hid (JB1.out.trans (b2.mono JB1.out.size))
    have HV := Lib.hid (Over_c ba bb a a' k k' c c' n d w2 N2.out D2.out HZ.out BN.out BD.out)
    clear hd b2 O2 JR1 JB1 N1
    go_wp2_with fail
    refine HV.out.mono ?_
    rintro e w6 ⟨ob, oa, ok, oc, ob', oa', ok', oc', rfl, hn, hd, b6⟩
    have JR6 := Lib.hid (JR2.out.keep b6)
    have JB6 := Lib.hid (JB2.out.trans (b6.mono JB2.out.size))
    have HRO := Lib.hid (ratioOf_c ob oa ok oc ob' oa' ok' oc' _ _ w6 hn hd (Nat.lt_of_le_of_lt (tdiv_abs_le _ _) BN.out) (Nat.lt_of_le_of_lt (tdiv_abs_le _ _) BD.out) (red_pos (n := n) (d := d) HZ.out))
    obtain ⟨rr, hrr⟩ : ∃ rr, raR n d = rr := ⟨_, rfl⟩
    have RS2 : Hid (roS n d = rr) := by rw [← hrr]; exact RS.out
    have HRO2 : Hid (Calls Tryz.prog 37 #[.agg #[.bool ob, .slice oa ok oc, .bool ob', .slice oa' ok' oc']] w6 (OpPost rr w6)) := by rw [← hrr]; exact HRO.out
    clear hn hd b6 hrr HRO RS HV JR2 JB2
    go_wp2_with fail
    refine HRO2.out.mono ?_
    rintro e w8 ⟨rfl, b8⟩
    have JR8 := Lib.hid (JR6.out.keep b8)
    have JB8 := Lib.hid (JB6.out.trans (b8.mono JB6.out.size))
    clear b8 HRO2 JR6 JB6
    obtain ⟨W9, hW9⟩ : ∃ W9, two w8 (w.heap.size) (.string rr.1) (.string rr.2.1) = W9 := ⟨_, rfl⟩
    have R9 : B2 W9 (w.heap.size) (.string rr.1) (.string rr.2.1) := by rw [← hW9]; exact JR8.out.set _ _
    have PP : Hid (OpPost (roS n d) w (.returned (.tuple #[.agg #[.string rr.1, .string rr.2.1], .int .i64 rr.2.2])) W9) := by
      rw [← hW9]
      exact ⟨by rw [RS2.out], below_two JB8.out (by omega) _ _⟩
    have c0 := JR8.out.c0
    have c1 := JR8.out.c1
    have cf0 := JR8.out.fr 0
    have cf1 := JR8.out.fr 1
    obtain ⟨r0, r1, _, _⟩ := id R9
    unfold two at hW9
    clear R9
    go_wp2_with fail
    exact bodyPost_ret (v := .tuple #[.agg #[.string rr.1, .string rr.2.1], .int .i64 rr.2.2]) (by simp [results, Tryz.results26, go_sem, r0, r1]) rfl PP.out
end Go.Proofs.YtfldlcnlijljcaaGreatDoor
namespace Go.Proofs.YtfldlcnlijljcaaGreatDoor
open Go.RowKit

theorem below_drew (w : World) (m : Nat) : Below w.heap.size w (w.drewN m) := below_drewN (Below.refl _ _) _
theorem sgn_ltd {x y : Nat} : decide (sgn x y < 0) = decide (x < y) := by
  unfold sgn
  by_cases h : x < y
  · simp [h]
  · rw [if_neg h]
    split <;> simp [h]
theorem two_cells {w : World} {b : Nat} {x y u v : Value} (h0 : w.cell? ⟨b, 0, none⟩ = some u) (h1 : w.cell? ⟨b, 1, none⟩ = some v) :
    ((w.setCell ⟨b, 0, none⟩ x).setCell ⟨b, 1, none⟩ y).cell? ⟨b, 0, none⟩ = some x ∧ ((w.setCell ⟨b, 0, none⟩ x).setCell ⟨b, 1, none⟩ y).cell? ⟨b, 1, none⟩ = some y := by
  refine ⟨by rw [World.cell?_setCell_other _ _ _ _ (by simp), World.cell?_setCell_same _ _ _ h0], ?_⟩
  have e : (w.setCell ⟨b, 0, none⟩ x).cell? ⟨b, 1, none⟩ = some v := by rw [World.cell?_setCell_other _ _ _ _ (by simp)]; exact h1
  exact World.cell?_setCell_same _ _ _ e
theorem cell_two {W : World} {b b' o : Nat} {x y : Value} (h : b ≠ b') : ((W.setCell ⟨b, 0, none⟩ x).setCell ⟨b, 1, none⟩ y).cell? ⟨b', o, none⟩ = W.cell? ⟨b', o, none⟩ := by
  rw [World.cell?_setCell_other _ _ _ _ (by intro e; injection e with e1 _; exact h e1), World.cell?_setCell_other _ _ _ _ (by intro e; injection e with e1 _; exact h e1)]
theorem frozen_two {W : World} {b : Nat} {x y : Value} (p : Addr) : ((W.setCell ⟨b, 0, none⟩ x).setCell ⟨b, 1, none⟩ y).frozen? p = W.frozen? p := by
  rw [World.frozen?_setCell, World.frozen?_setCell]
def TextPost (n : Nat) (w : World) (e : Ending) (w' : World) : Prop := e = .returned (.string ⟨(Lib.decDigits n).toArray⟩) ∧ Below w.heap.size w w'
def decB (n : Nat) : ByteArray := ⟨(Lib.decDigits n).toArray⟩
theorem dec_len (n : Nat) (hn : n ≤ 9223372036854775807) : (Lib.decDigits n).length ≤ 21 := by
  have h := Lib.itoa_length_le (n : Int) (by omega) (by omega)
  rw [Lib.itoa_nonneg] at h
  exact h
theorem decB_size (n : Nat) (hn : n ≤ 9223372036854775807) : (decB n).size ≤ 21 := dec_len n hn
/-- A ratio's two texts. -/
def RatPost (n d : Nat) (w : World) (e : Ending) (w' : World) : Prop := e = .returned (.tuple #[.agg #[.string (decB n), .string (decB d)], .int .i64 0]) ∧ Below w.heap.size w w'
/-- The box of a ratio to be returned. -/
def Rx (w : World) (W : World) : Prop :=
  W.cell? ⟨w.heap.size, 0, none⟩ = some (.string ⟨#[]⟩) ∧ W.cell? ⟨w.heap.size, 1, none⟩ = some (.string ⟨#[]⟩) ∧ W.frozen? ⟨w.heap.size, 0, none⟩ = false ∧ W.frozen? ⟨w.heap.size, 1, none⟩ = false ∧ Hid (Below w.heap.size w W ∧ w.heap.size < W.heap.size)
theorem Rx.keep {w W W' : World} (h : Rx w W) (hb : Below W.heap.size W W') : Rx w W' := by
  obtain ⟨r0, r1, f0, f1, x⟩ := h
  obtain ⟨bl, hg⟩ := x.out
  have f := fun (o : Nat) => hb.cell (p := ⟨w.heap.size, o, none⟩) hg
  have z := fun (o : Nat) => hb.frozen (p := ⟨w.heap.size, o, none⟩) hg
  exact ⟨(f _).trans r0, (f _).trans r1, (z _).trans f0, (z _).trans f1, bl.trans (hb.mono (by omega)), Nat.lt_of_lt_of_le hg hb.size⟩
theorem Rx.make (w : World) : Rx w (w.alloc (.cells #[.string ⟨#[]⟩, .string ⟨#[]⟩] 31)) :=
  ⟨by rw [World.cell?_alloc_at _ _ _ _ rfl]; rfl, by rw [World.cell?_alloc_at _ _ _ _ rfl]; rfl, by simp, by simp, (Below.refl _ _).alloc (Nat.le_refl _) _, by simp⟩
theorem Rx.done {w W : World} (h : Rx w W) (x y : ByteArray) :
    ((W.setCell ⟨w.heap.size, 0, none⟩ (.string x)).setCell ⟨w.heap.size, 1, none⟩ (.string y)).cell? ⟨w.heap.size, 0, none⟩ = some (.string x) ∧ ((W.setCell ⟨w.heap.size, 0, none⟩ (.string x)).setCell ⟨w.heap.size, 1, none⟩ (.string y)).cell? ⟨w.heap.size, 1, none⟩ = some (.string y) ∧
    Below w.heap.size w ((W.setCell ⟨w.heap.size, 0, none⟩ (.string x)).setCell ⟨w.heap.size, 1, none⟩ (.string y)) := by
  obtain ⟨r0, r1, f0, f1, q⟩ := h
  have t := two_cells (x := .string x) (y := .string y) r0 r1
  exact ⟨t.1, t.2, (q.out.1.setCell (p := ⟨w.heap.size, 0, none⟩) (Nat.le_refl _) _).setCell (p := ⟨w.heap.size, 1, none⟩) (Nat.le_refl _) _⟩
theorem roS_nat (n d : Nat) (h0 : 0 < d) (hn : n ≤ 9223372036854775807) (hd : d ≤ 9223372036854775807) : roS n d = (decB (n / Nat.gcd n d), decB (d / Nat.gcd n d), 0) := by
  have hg : 0 < Nat.gcd n d := Nat.gcd_pos_of_pos_right n h0
  have e0 : ¬ ((d : Int) = 0) := by omega
  have e1 : ¬ ((d : Int) < 0) := by omega
  have g1 : ovG n d = (Nat.gcd n d : Int) := by unfold ovG; rw [if_neg e1]; rfl
  have r : red n d = (((n / Nat.gcd n d : Nat) : Int), ((d / Nat.gcd n d : Nat) : Int)) := by
    unfold red
    rw [g1, Int.ofNat_tdiv, Int.ofNat_tdiv]
  have q : ∀ m : Nat, tzB (m : Int) = decB m := fun m => by
    unfold tzB tz decB
    rw [if_neg (by omega), Int.natAbs_natCast]
  have hf : fits ((n / Nat.gcd n d : Nat) : Int) ((d / Nat.gcd n d : Nat) : Int) = true := by
    have l1 := dec_len (n / Nat.gcd n d) (Nat.le_trans (Nat.div_le_self _ _) hn)
    have l2 := dec_len (d / Nat.gcd n d) (Nat.le_trans (Nat.div_le_self _ _) hd)
    unfold fits
    rw [Int.natAbs_natCast, Int.natAbs_natCast, decide_eq_true (by omega), decide_eq_true (by omega)]
    rfl
  unfold roS raR ra
  rw [if_neg e0, r]
  dsimp only
  rw [if_pos hf, q, q]
theorem natRatioOf_c (n d : Nat) (w : World) (hn : n ≤ 9223372036854775807) (hd : d ≤ 9223372036854775807) (h0 : 0 < d) :
    Calls Tryz.prog 26 #[.int .i64 n, .int .i64 d] w (RatPost (n / Nat.gcd n d) (d / Nat.gcd n d) w) := by
  have h := RatioOf_c n d w (by omega) (by omega) (by omega) (by omega)
  rw [roS_nat n d h0 hn hd] at h
  exact h
/-- What ratio gives. -/
def rtN (n d : Nat) : Nat := if d = 0 then 0 else n / Nat.gcd n d
def rtD (n d : Nat) : Nat := if d = 0 then 1 else d / Nat.gcd n d
def RtPost (n d : Nat) (w : World) (e : Ending) (w' : World) : Prop := e = .returned (.agg #[.string (decB (rtN n d)), .string (decB (rtD n d))]) ∧ Below w.heap.size w w'
theorem ratio_c (n d : Nat) (w : World) (hn : n ≤ 9223372036854775807) (hd : d ≤ 9223372036854775807) : Calls Tryz.prog 18 #[.int .i64 n, .int .i64 d] w (RtPost n d w) := by
  rcases Nat.eq_zero_or_pos d with h | h
  · subst h
    have HR := Lib.hid (fun w => natRatioOf_c 0 1 w (by decide) (by decide) (by decide))
    have e1 : Hid (0 / Nat.gcd 0 1 = rtN n 0) := rfl
    have e2 : Hid (1 / Nat.gcd 0 1 = rtD n 0) := rfl
    clear hn hd
    go_enter Tryz.func18, Tryz.ntmps18
    go_wp2_with fail
    have X0 := Lib.hid (Rx.make w)
    generalize w.alloc (.cells #[.string ⟨#[]⟩, .string ⟨#[]⟩] 31) = W0 at X0 ⊢
    refine (HR.out W0).mono ?_
    rintro e w4 ⟨rfl, b4⟩
    have X4 := X0.out.keep b4
    rw [e1.out, e2.out]
    obtain ⟨W5, hW5⟩ : ∃ W5, w4.alloc (.cells #[.string (decB (rtN n 0)), .string (decB (rtD n 0))] 31) = W5 := ⟨_, rfl⟩
    have D0 : W5.cell? ⟨w4.heap.size, 0, none⟩ = some (.string (decB (rtN n 0))) := by rw [← hW5, World.cell?_alloc_at _ _ _ _ rfl]; rfl
    have D1 : W5.cell? ⟨w4.heap.size, 1, none⟩ = some (.string (decB (rtD n 0))) := by rw [← hW5, World.cell?_alloc_at _ _ _ _ rfl]; rfl
    have X5 : Rx w W5 := by rw [← hW5]; exact X4.keep ((Below.refl _ _).alloc (Nat.le_refl _) _)
    have FIN := Lib.hid (X5.done (decB (rtN n 0)) (decB (rtD n 0)))
    clear b4 X0 X4
    dsimp only [Rx] at X5
    go_wp2
    obtain ⟨e0, e1, hB⟩ := FIN.out
    exact bodyPost_ret (v := .agg #[.string (decB (rtN n 0)), .string (decB (rtD n 0))]) (by simp [results, Tryz.results18, go_sem, e0, e1]) rfl ⟨rfl, hB⟩
  · have HR := Lib.hid (fun w => natRatioOf_c n d w hn hd h)
    have e1 : Hid (n / Nat.gcd n d = rtN n d) := by unfold Hid rtN; rw [if_neg (by omega)]
    have e2 : Hid (d / Nat.gcd n d = rtD n d) := by unfold Hid rtD; rw [if_neg (by omega)]
    have e : ((d : Int) == 0) = false := by rw [beq_eq_false_iff_ne]; omega
    have e' : (d == 0) = false := by rw [beq_eq_false_iff_ne]; omega
    clear hn hd h
    go_enter Tryz.func18, Tryz.ntmps18
    go_wp2_with fail
    have X0 := Lib.hid (Rx.make w)
    generalize w.alloc (.cells #[.string ⟨#[]⟩, .string ⟨#[]⟩] 31) = W0 at X0 ⊢
    refine (HR.out W0).mono ?_
    rintro e w4 ⟨rfl, b4⟩
    have X4 := X0.out.keep b4
    rw [e1.out, e2.out]
    obtain ⟨W5, hW5⟩ : ∃ W5, w4.alloc (.cells #[.string (decB (rtN n d)), .string (decB (rtD n d))] 31) = W5 := ⟨_, rfl⟩
    have D0 : W5.cell? ⟨w4.heap.size, 0, none⟩ = some (.string (decB (rtN n d))) := by rw [← hW5, World.cell?_alloc_at _ _ _ _ rfl]; rfl
    have D1 : W5.cell? ⟨w4.heap.size, 1, none⟩ = some (.string (decB (rtD n d))) := by rw [← hW5, World.cell?_alloc_at _ _ _ _ rfl]; rfl
    have X5 : Rx w W5 := by rw [← hW5]; exact X4.keep ((Below.refl _ _).alloc (Nat.le_refl _) _)
    have FIN := Lib.hid (X5.done (decB (rtN n d)) (decB (rtD n d)))
    clear b4 X0 X4
    dsimp only [Rx] at X5
    go_wp2
    obtain ⟨e0, e1, hB⟩ := FIN.out
    exact bodyPost_ret (v := .agg #[.string (decB (rtN n d)), .string (decB (rtD n d))]) (by simp [results, Tryz.results18, go_sem, e0, e1]) rfl ⟨rfl, hB⟩
end Go.Proofs.YtfldlcnlijljcaaGreatDoor
