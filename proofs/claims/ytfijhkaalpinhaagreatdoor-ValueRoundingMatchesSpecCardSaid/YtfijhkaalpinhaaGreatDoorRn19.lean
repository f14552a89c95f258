/-
  The nearest whole number in the reference.
  Rounding ratios in the reference: places, Rounded.
  Decimal texts of rounded ratios: the lists.
  Decimal texts of rounded ratios in the reference: Decimal.
-/
import Derived.Test.YtfijhkaalpinhaaGreatDoorRn18
namespace Go.Proofs.YtfijhkaalpinhaaGreatDoor
open Go.RowKit

/-- nearest of the reference: its boxes. -/
structure Nq (w : World) (g : Nat) (b : Bool) (a : Option Addr) (k c : Nat) (a' : Option Addr) (k' c' : Nat) (x y : Int) (W : World) : Prop where
  r : B3 W (w.heap.size + 1) (.bool false) (.slice none 0 0) (.slice none 0 0)
  q : B3 W g (.bool b) (.slice a k c) (.slice a' k' c')
  n : Nt W a k c x.natAbs
  d : Nt W a' k' c' y.natAbs
  lg : w.heap.size + 1 < g
  bel : Below w.heap.size w W
theorem Nq.keep {w : World} {g : Nat} {b : Bool} {a : Option Addr} {k c : Nat} {a' : Option Addr} {k' c' : Nat} {x y : Int} {W W' : World} (h : Nq w g b a k c a' k' c' x y W) (hb : Below W.heap.size W W') : Nq w g b a k c a' k' c' x y W' :=
  ⟨h.r.keep hb, h.q.keep hb, h.n.below hb, h.d.below hb, h.lg, h.bel.trans (hb.mono h.bel.size)⟩
def S3q (g : Nat) (b : Bool) (a : Option Addr) (k c : Nat) (a' : Option Addr) (k' c' : Nat) (W : World) : Prop :=
  W.cell? ⟨g, 0, none⟩ = some (.bool b) ∧ W.cell? ⟨g, 1, none⟩ = some (.slice a k c) ∧ W.cell? ⟨g, 2, none⟩ = some (.slice a' k' c')
theorem Nq.s3 {w : World} {g : Nat} {b : Bool} {a : Option Addr} {k c : Nat} {a' : Option Addr} {k' c' : Nat} {x y : Int} {W : World} (h : Nq w g b a k c a' k' c' x y W) : S3q g b a k c a' k' c' W := ⟨h.q.c0, h.q.c1, h.q.c2⟩
/-- nearest's answer: a sign, a number and 1. -/
def NePost (b : Bool) (n : Nat) (w : World) (e : Ending) (w' : World) : Prop :=
  ∃ a k c a' k' c', e = .returned (.agg #[.bool (b && decide (0 < n)), .slice a k c, .slice a' k' c']) ∧ Nt w' a k c n ∧ Nt w' a' k' c' 1 ∧ Below w.heap.size w w'
set_option maxRecDepth 100000 in
set_option maxHeartbeats 4000000 in
theorem nearest_c (s t : ByteArray) (x y : Int) (p : Nat) (w : World) (hr : rread s.data.toList t.data.toList = some (x, y)) (hp : p ≤ 20) :
    Calls Tryz.prog 48 #[.agg #[.string s, .string t], .int .i64 p] w (NePost (decide (x < 0)) (nN (x.natAbs * 10 ^ p) y.natAbs) w) := by
  obtain ⟨W0, hW0⟩ : ∃ W0, (w.alloc (.cells #[.string s, .string t] 23)).alloc (.cells #[.bool false, .slice none 0 0, .slice none 0 0] 53) = W0 := ⟨_, rfl⟩
  have s1 : (w.alloc (.cells #[.string s, .string t] 23)).heap.size = w.heap.size + 1 := by simp
  have X0 : B2 W0 w.heap.size (.string s) (.string t) := by rw [← hW0]; exact (B2.made w _ _ _).keep (bel_one _ _)
  have JR0 : Hid (B3 W0 (w.heap.size + 1) (.bool false) (.slice none 0 0) (.slice none 0 0)) := by rw [← hW0, ← s1]; exact B3.made _ _ _ _ _
  have JB0 : Hid (Below w.heap.size w W0) := by rw [← hW0]; exact ((Below.refl _ _).alloc (Nat.le_refl _) _).alloc (by simp) _
  have HO := Lib.hid (fun w => open_c s t x y w hr)
  have V1 := Lib.hid (val_pos_den hr)
  obtain ⟨b, hb⟩ : ∃ b, decide (x < 0) = b := ⟨_, rfl⟩
  rw [hb] at HO ⊢
  have HP := Lib.hid (fun w => power_c p w hp)
  have TEN := Lib.hid (ten_lt p hp)
  obtain ⟨m, hm⟩ : ∃ m, nN (x.natAbs * 10 ^ p) y.natAbs = m := ⟨_, rfl⟩
  rw [hm]
  have HMD := Lib.hid hm
  have x0 := X0.c0
  have x1 := X0.c1
  clear hb hr X0 s1 hp hm
  go_enter Tryz.func48, Tryz.ntmps48
  go_wp2_with fail
  clear hW0 x0 x1
  (with_reducible refine (HO.out _).mono ?_)
  rintro e w5 ⟨a, k, c, a', k', c', rfl, hn, hd, b5⟩
  obtain ⟨WA, hWA⟩ : ∃ W, w5.alloc (.cells #[.bool false, .slice none 0 0, .slice none 0 0] 53) = W := ⟨_, rfl⟩
  have D1 : B3 WA w5.heap.size (.bool false) (.slice none 0 0) (.slice none 0 0) := by rw [← hWA]; exact B3.made _ _ _ _ _
  obtain ⟨WB, hWB⟩ : ∃ W, three WA w5.heap.size (.bool b) (.slice a k c) (.slice a' k' c') = W := ⟨_, rfl⟩
  have hb : Below w5.heap.size w5 WB := by rw [← hWB]; exact below_three (by rw [← hWA]; exact bel_one _ _) (Nat.le_refl _) _ _ _
  have hc := b5.trans (hb.mono b5.size)
  have JN : Hid (Nq w w5.heap.size b a k c a' k' c' x y WB) := ⟨JR0.out.keep hc, by rw [← hWB]; exact D1.set _ _ _, hn.below hb, hd.below hb, Nat.lt_of_lt_of_le JR0.out.lt b5.size, JB0.out.trans (hc.mono JB0.out.size)⟩
  have a0 := D1.c0
  have a1 := D1.c1
  have a2 := D1.c2
  have af0 := D1.fr 0
  have af1 := D1.fr 1
  have af2 := D1.fr 2
  unfold three at hWB
  clear D1 hb hc hn hd b5 JR0 JB0 HO
  go_wp2_with fail
  clear hWA hWB a0 a1 a2 af0 af1 af2
  generalize w5.heap.size = g at *
  refine wp_region_noPanic ?_
  refine wp_region_held_drew (S := S3q g b a k c a' k' c') (by kernel_rfl) (JN.out.keep (Below.refl _ _).drew).s3 (fun hS => ?_)
  have J1 := Lib.hid (JN.out.keep (Below.refl _ _).drew)
  clear JN
  refine wpAnyH_take (i := 0) (v := ?v0z36) rfl (by kernel_rfl) (by kernel_rfl) (by kernel_rfl) (fun _ _ _ h => h) (Or.inl ⟨by rfl, ?hy0z36⟩) (by assumption) ?rest0z36
  case hy0z36 =>
    intro w hSw
    dsimp only [S3q] at hSw
    go_simp
    try with_reducible rfl
  simp only [Act.put, List.getElem_toArray, List.getElem_cons_succ, List.getElem_cons_zero, List.setIfInBounds_toArray, List.set_cons_zero, List.set_cons_succ]
  refine wpAnyH_take (i := 1) (v := ?v1z37) rfl (by kernel_rfl) (by kernel_rfl) (by kernel_rfl) (fun _ _ _ h => h) (Or.inl ⟨by rfl, ?hy1z37⟩) (by assumption) ?rest1z37
  case hy1z37 =>
    intro w hSw
    dsimp only [S3q] at hSw
    go_simp
    try with_reducible rfl
  simp only [Act.put, List.getElem_toArray, List.getElem_cons_succ, List.getElem_cons_zero, List.setIfInBounds_toArray, List.set_cons_zero, List.set_cons_succ]
  refine wpAnyH_take (i := 2) (v := ?v2z38) rfl (by kernel_rfl) (by kernel_rfl) (by kernel_rfl) (fun _ _ _ h => h) (Or.inl ⟨by rfl, ?hy2z38⟩) (by assumption) ?rest2z38
  case hy2z38 =>
    intro w hSw
    dsimp only [S3q] at hSw
    go_simp
    try with_reducible rfl
  simp only [Act.put, List.getElem_toArray, List.getElem_cons_succ, List.getElem_cons_zero, List.setIfInBounds_toArray, List.set_cons_zero, List.set_cons_succ]
  refine wpAnyH_take (i := 5) (v := ?v5z39) rfl (by kernel_rfl) (by kernel_rfl) (by kernel_rfl) (fun _ _ _ h => h) (Or.inl ⟨by rfl, ?hy5z39⟩) (by assumption) ?rest5z39
  case hy5z39 =>
    intro w hSw
    dsimp only [S3q] at hSw
    go_simp
    try with_reducible rfl
  simp only [Act.put, List.getElem_toArray, List.getElem_cons_succ, List.getElem_cons_zero, List.setIfInBounds_toArray, List.set_cons_zero, List.set_cons_succ]
  refine wpAnyH_take (i := 6) (v := ?v6z40) rfl (by kernel_rfl) (by kernel_rfl) (by kernel_rfl) (fun _ _ _ h => h) (Or.inl ⟨by rfl, ?hy6z40⟩) (by assumption) ?rest6z40
  case hy6z40 =>
    intro w hSw
    dsimp only [S3q] at hSw
    go_simp
    try with_reducible rfl
  simp only [Act.put, List.getElem_toArray, List.getElem_cons_succ, List.getElem_cons_zero, List.setIfInBounds_toArray, List.set_cons_zero, List.set_cons_succ]
  refine wpAnyH_ready (rs := [3]) (by kernel_rfl) (by simp) ?_
  refine AllReadyH.cons rfl (fun K hK => ?_) AllReadyH.nil
  go_simp
  (refine (HP.out _).mono ?_)
  rintro e W2 ⟨pa, pk, pc, rfl, hp, bc⟩
  try go_simp
  have J2 := Lib.hid (J1.out.keep bc)
  have hT := J2.out.s3
  have HPP := Lib.hid hp
  refine hK.out _ _ hT (fun _ => ?_)
  clear hK K hS bc J1 hp HP
  have hS := hT
  clear hT
  try simp only [Act.put, List.setIfInBounds_toArray, List.set_cons_zero, List.set_cons_succ]
  have HTM := Lib.hid (ntimes_c a pa k pk c pc _ _ W2 J2.out.n HPP.out (by have := J2.out.n.len V1.out.2.2; have := HPP.out.len TEN.out; omega))
  refine wpAnyH_ready (rs := [4]) (by kernel_rfl) (by simp) ?_
  refine AllReadyH.cons rfl (fun K hK => ?_) AllReadyH.nil
  go_simp
  (refine (HTM.out).mono ?_)
  rintro e W3 ⟨ma, mk, mc, rfl, hm, bc⟩
  try go_simp
  have J3 := Lib.hid (J2.out.keep bc)
  have hT := J3.out.s3
  have HM := Lib.hid hm
  refine hK.out _ _ hT (fun _ => ?_)
  clear hK K hS bc J2 hm HTM HPP
  have hS := hT
  clear hT
  try simp only [Act.put, List.setIfInBounds_toArray, List.set_cons_zero, List.set_cons_succ]
  have HOV := Lib.hid (nover_c ma a' mk k' mc c' _ _ W3 HM.out J3.out.d V1.out.1 (by have := HM.out.len (tp_mul_lt V1.out.2.2 TEN.out); omega))
  refine wpAnyH_ready (rs := [7]) (by kernel_rfl) (by simp) ?_
  refine AllReadyH.cons rfl (fun K hK => ?_) AllReadyH.nil
  go_simp
  (refine (HOV.out).mono ?_)
  rintro e W4 ⟨qa, qk, qc, ra, rk, rc, rfl, hq, hr, bc⟩
  try go_simp
  have J4 := Lib.hid (J3.out.keep bc)
  have hT := J4.out.s3
  have HQ := Lib.hid hq
  have HR := Lib.hid hr
  refine hK.out _ _ hT (fun _ => ?_)
  clear hK K hS bc J3 hq hr HOV HM
  have hS := hT
  clear hT
  try simp only [Act.put, List.setIfInBounds_toArray, List.set_cons_zero, List.set_cons_succ]
  refine wpAnyH_take (i := 8) (v := ?v8z41) rfl (by kernel_rfl) (by kernel_rfl) (by kernel_rfl) (fun _ _ _ h => h) (Or.inl ⟨by rfl, ?hy8z41⟩) (by assumption) ?rest8z41
  case hy8z41 =>
    intro w hSw
    dsimp only [S3q] at hSw
    go_simp
    try with_reducible rfl
  simp only [Act.put, List.getElem_toArray, List.getElem_cons_succ, List.getElem_cons_zero, List.setIfInBounds_toArray, List.set_cons_zero, List.set_cons_succ]
  refine wpAnyH_take (i := 9) (v := ?v9z42) rfl (by kernel_rfl) (by kernel_rfl) (by kernel_rfl) (fun _ _ _ h => h) (Or.inl ⟨by rfl, ?hy9z42⟩) (by assumption) ?rest9z42
  case hy9z42 =>
    intro w hSw
    dsimp only [S3q] at hSw
    go_simp
    try with_reducible rfl
  simp only [Act.put, List.getElem_toArray, List.getElem_cons_succ, List.getElem_cons_zero, List.setIfInBounds_toArray, List.set_cons_zero, List.set_cons_succ]
  refine wpAnyH_take (i := 10) (v := ?v10z43) rfl (by kernel_rfl) (by kernel_rfl) (by kernel_rfl) (fun _ _ _ h => h) (Or.inl ⟨by rfl, ?hy10z43⟩) (by assumption) ?rest10z43
  case hy10z43 =>
    intro w hSw
    dsimp only [S3q] at hSw
    go_simp
    try with_reducible rfl
  simp only [Act.put, List.getElem_toArray, List.getElem_cons_succ, List.getElem_cons_zero, List.setIfInBounds_toArray, List.set_cons_zero, List.set_cons_succ]
  refine wpAnyH_take (i := 11) (v := ?v11z44) rfl (by kernel_rfl) (by kernel_rfl) (by kernel_rfl) (fun _ _ _ h => h) (Or.inl ⟨by rfl, ?hy11z44⟩) (by assumption) ?rest11z44
  case hy11z44 =>
    intro w hSw
    dsimp only [S3q] at hSw
    go_simp
    try with_reducible rfl
  simp only [Act.put, List.getElem_toArray, List.getElem_cons_succ, List.getElem_cons_zero, List.setIfInBounds_toArray, List.set_cons_zero, List.set_cons_succ]
  refine wpAnyH_take (i := 12) (v := ?v12z45) rfl (by kernel_rfl) (by kernel_rfl) (by kernel_rfl) (fun _ _ _ h => h) (Or.inl ⟨by rfl, ?hy12z45⟩) (by assumption) ?rest12z45
  case hy12z45 =>
    intro w hSw
    dsimp only [S3q] at hSw
    go_simp
    try with_reducible rfl
  simp only [Act.put, List.getElem_toArray, List.getElem_cons_succ, List.getElem_cons_zero, List.setIfInBounds_toArray, List.set_cons_zero, List.set_cons_succ]
  refine wpAnyH_done (by kernel_rfl) ?_ _
  refine NoPanic.normal ?_
  clear hS
  obtain ⟨m0, hm0⟩ : ∃ m0, x.natAbs * 10 ^ p / y.natAbs = m0 := ⟨_, rfl⟩
  obtain ⟨r0, hr0⟩ : ∃ r0, x.natAbs * 10 ^ p % y.natAbs = r0 := ⟨_, rfl⟩
  rw [hm0] at HQ
  rw [hr0] at HR
  have HMM : Hid (m = if r0 * 2 < y.natAbs then m0 else m0 + 1) := by unfold Hid; rw [← HMD.out, ← hm0, ← hr0]; rfl
  have RLT : Hid (r0 < y.natAbs) := by unfold Hid; rw [← hr0]; exact Nat.mod_lt _ V1.out.1
  have MLT : Hid (m0 < tp 226) := by
    unfold Hid
    rw [← hm0]
    exact Nat.lt_of_le_of_lt (Nat.div_le_self _ _) (tp_mul_lt V1.out.2.2 TEN.out)
  clear hm0 hr0
  go_wp2_with fail
  refine wp_region_noPanic ?_
  refine wp_region_held_drew (S := S3q g b a k c a' k' c') (by kernel_rfl) (J4.out.keep (Below.refl _ _).drew).s3 (fun hS => ?_)
  have J5 := Lib.hid (J4.out.keep (Below.refl _ _).drew)
  have HQ5 := Lib.hid (HQ.out.below (Below.refl _ _).drew)
  have HR5 := Lib.hid (HR.out.below (Below.refl _ _).drew)
  clear J4 HQ HR
  generalize W4.drew = WE at *
  refine wpAnyH_take (i := 0) (v := ?v0z46) rfl (by kernel_rfl) (by kernel_rfl) (by kernel_rfl) (fun _ _ _ h => h) (Or.inl ⟨by rfl, ?hy0z46⟩) (by assumption) ?rest0z46
  case hy0z46 =>
    intro w hSw
    dsimp only [S3q] at hSw
    go_simp
    try with_reducible rfl
  simp only [Act.put, List.getElem_toArray, List.getElem_cons_succ, List.getElem_cons_zero, List.setIfInBounds_toArray, List.set_cons_zero, List.set_cons_succ]
  refine wpAnyH_take (i := 1) (v := ?v1z47) rfl (by kernel_rfl) (by kernel_rfl) (by kernel_rfl) (fun _ _ _ h => h) (Or.inl ⟨by rfl, ?hy1z47⟩) (by assumption) ?rest1z47
  case hy1z47 =>
    intro w hSw
    dsimp only [S3q] at hSw
    go_simp
    try with_reducible rfl
  simp only [Act.put, List.getElem_toArray, List.getElem_cons_succ, List.getElem_cons_zero, List.setIfInBounds_toArray, List.set_cons_zero, List.set_cons_succ]
  refine wpAnyH_take (i := 3) (v := ?v3z48) rfl (by kernel_rfl) (by kernel_rfl) (by kernel_rfl) (fun _ _ _ h => h) (Or.inl ⟨by rfl, ?hy3z48⟩) (by assumption) ?rest3z48
  case hy3z48 =>
    intro w hSw
    dsimp only [S3q] at hSw
    go_simp
    try with_reducible rfl
  simp only [Act.put, List.getElem_toArray, List.getElem_cons_succ, List.getElem_cons_zero, List.setIfInBounds_toArray, List.set_cons_zero, List.set_cons_succ]
  refine wpAnyH_take (i := 4) (v := ?v4z49) rfl (by kernel_rfl) (by kernel_rfl) (by kernel_rfl) (fun _ _ _ h => h) (Or.inl ⟨by rfl, ?hy4z49⟩) (by assumption) ?rest4z49
  case hy4z49 =>
    intro w hSw
    dsimp only [S3q] at hSw
    go_simp
    try with_reducible rfl
  simp only [Act.put, List.getElem_toArray, List.getElem_cons_succ, List.getElem_cons_zero, List.setIfInBounds_toArray, List.set_cons_zero, List.set_cons_succ]
  have HPL := Lib.hid (nplus_c ra ra rk rk rc rc _ _ WE HR5.out HR5.out (by have := HR5.out.len (Nat.lt_trans RLT.out V1.out.2.1); omega) (by have := HR5.out.len (Nat.lt_trans RLT.out V1.out.2.1); omega))
  refine wpAnyH_ready (rs := [2]) (by kernel_rfl) (by simp) ?_
  refine AllReadyH.cons rfl (fun K hK => ?_) AllReadyH.nil
  go_simp
  (refine (HPL.out).mono ?_)
  rintro e W6 ⟨ta, tk, tc, rfl, ht, bc⟩
  try go_simp
  have J6 := Lib.hid (J5.out.keep bc)
  have hT := J6.out.s3
  have HT := Lib.hid ht
  have HQ6 := Lib.hid (HQ5.out.below bc)
  refine hK.out _ _ hT (fun _ => ?_)
  clear hK K hS bc J5 ht HPL HQ5 HR5
  have hS := hT
  clear hT
  try simp only [Act.put, List.setIfInBounds_toArray, List.set_cons_zero, List.set_cons_succ]
  have HOR := Lib.hid (norder_c ta a' tk k' tc c' _ _ W6 HT.out J6.out.d)
  obtain ⟨sg, hsg⟩ : ∃ sg, sgn (r0 + r0) y.natAbs = sg := ⟨_, rfl⟩
  rw [hsg] at HOR
  have HSG := Lib.hid hsg
  clear hsg
  refine wpAnyH_ready (rs := [5]) (by kernel_rfl) (by simp) ?_
  refine AllReadyH.cons rfl (fun K hK => ?_) AllReadyH.nil
  go_simp
  (refine HOR.out.mono ?_)
  rintro e W7 ⟨rfl, mm, rfl⟩
  try go_simp
  have bc := bel_drewN W6 mm
  have J7 := Lib.hid (J6.out.keep bc)
  have HQ7 := Lib.hid (HQ6.out.below bc)
  have hT := J7.out.s3
  refine hK.out _ _ hT (fun _ => ?_)
  clear hK K hS bc J6 HQ6 HOR HT
  generalize W6.drewN mm = W7 at *
  have hS := hT
  clear hT
  try simp only [Act.put, List.setIfInBounds_toArray, List.set_cons_zero, List.set_cons_succ]
  by_cases hl : r0 * 2 < y.natAbs
  · have hs0 : ¬ 0 ≤ sg := by rw [← HSG.out, sgn_lt (by omega)]; decide
    have HN : Hid (m = m0) := by unfold Hid; rw [HMM.out, if_pos hl]
    clear hl HSG HMM
    refine wpAnyH_take (i := 6) (v := ?v6z50) rfl (by kernel_rfl) (by kernel_rfl) (by kernel_rfl) (fun _ _ _ h => h) (Or.inl ⟨by rfl, ?hy6z50⟩) (by assumption) ?rest6z50
    case hy6z50 =>
      intro w hSw
      dsimp only [S3q] at hSw
      go_simp
      try with_reducible rfl
    simp only [Act.put, List.getElem_toArray, List.getElem_cons_succ, List.getElem_cons_zero, List.setIfInBounds_toArray, List.set_cons_zero, List.set_cons_succ]
    refine wpAnyH_done (by kernel_rfl) ?_ _
    refine NoPanic.normal ?_
    clear hS
    have HQ8 : Hid (Nt W7 qa qk qc m) := by unfold Hid; rw [HN.out]; exact HQ7.out
    clear HN HQ7
    have HLN : Hid (0 < qk ↔ 0 < m) := ⟨fun h => Nat.lt_of_lt_of_le (tp_pos (qk - 1)) (HQ8.out.pos h), fun h => HQ8.out.one h⟩
    have k0 := J7.out.q.c0
    have HB1 : Hid ((b && decide (0 < qk)) = (b && decide (0 < m))) := by
      unfold Hid
      by_cases h : 0 < m
      · rw [decide_eq_true h, decide_eq_true (HLN.out.2 h)]
      · rw [decide_eq_false h, decide_eq_false (fun q => h (HLN.out.1 q))]
    have HS1 := Lib.hid (fun w => nsmall_c 1 w (by decide))
    have fin : Hid (∀ ob, (b && decide (0 < qk)) = ob → (b && decide (0 < m)) = ob) := fun ob h => by rw [← HB1.out]; exact h
    cases b
    · have fin := fin.out false rfl
      have FIN := Lib.hid fin
      clear fin HLN HB1
      go_wp2_with fail
      clear k0
      (refine (HS1.out _).mono ?_)
      rintro e w9 ⟨oa, ok, oc, rfl, ho, b9⟩
      have JJ := J7.out.keep b9
      have NO := HQ8.out.below b9
      obtain ⟨W9, hW9⟩ : ∃ W9, three w9 (w.heap.size + 1) (.bool false) (.slice qa qk qc) (.slice oa ok oc) = W9 := ⟨_, rfl⟩
      have R9 : B3 W9 (w.heap.size + 1) (.bool false) (.slice qa qk qc) (.slice oa ok oc) := by rw [← hW9]; exact JJ.r.set _ _ _
      have PP : Hid (NePost false m w (.returned (.agg #[.bool false, .slice qa qk qc, .slice oa ok oc])) W9) := by
        rw [← hW9]
        exact ⟨_, _, _, _, _, _, by rw [FIN.out], NO.set3 JJ.r _ _ _, ho.set3 JJ.r _ _ _, below_three JJ.bel (by omega) _ _ _⟩
      have q0 := JJ.r.c0
      have q1 := JJ.r.c1
      have q2 := JJ.r.c2
      have g0 := JJ.r.fr 0
      have g1 := JJ.r.fr 1
      have g2 := JJ.r.fr 2
      obtain ⟨r0, r1, r2, _, _⟩ := id R9
      unfold three at hW9
      clear R9 JJ NO ho b9 HS1 J7 HQ8
      go_wp2_with fail
      exact bodyPost_ret (v := .agg #[.bool false, .slice qa qk qc, .slice oa ok oc]) (by simp [results, Tryz.results48, go_sem, r0, r1, r2]) rfl PP.out
    · rcases Nat.eq_zero_or_pos qk with e0 | e0
      · subst e0
        have fin := fin.out false rfl
        have FIN := Lib.hid fin
        clear fin HLN HB1
        go_wp2_with fail
        clear k0
        (refine (HS1.out _).mono ?_)
        rintro e w9 ⟨oa, ok, oc, rfl, ho, b9⟩
        have JJ := J7.out.keep b9
        have NO := HQ8.out.below b9
        obtain ⟨W9, hW9⟩ : ∃ W9, three w9 (w.heap.size + 1) (.bool false) (.slice qa 0 qc) (.slice oa ok oc) = W9 := ⟨_, rfl⟩
        have R9 : B3 W9 (w.heap.size + 1) (.bool false) (.slice qa 0 qc) (.slice oa ok oc) := by rw [← hW9]; exact JJ.r.set _ _ _
        have PP : Hid (NePost true m w (.returned (.agg #[.bool false, .slice qa 0 qc, .slice oa ok oc])) W9) := by
          rw [← hW9]
          exact ⟨_, _, _, _, _, _, by rw [FIN.out], NO.set3 JJ.r _ _ _, ho.set3 JJ.r _ _ _, below_three JJ.bel (by omega) _ _ _⟩
        have q0 := JJ.r.c0
        have q1 := JJ.r.c1
        have q2 := JJ.r.c2
        have g0 := JJ.r.fr 0
        have g1 := JJ.r.fr 1
        have g2 := JJ.r.fr 2
        obtain ⟨r0, r1, r2, _, _⟩ := id R9
        unfold three at hW9
        clear R9 JJ NO ho b9 HS1 J7 HQ8
        go_wp2_with fail
        exact bodyPost_ret (v := .agg #[.bool false, .slice qa 0 qc, .slice oa ok oc]) (by simp [results, Tryz.results48, go_sem, r0, r1, r2]) rfl PP.out
      · have e0' : (0 : Int) < (qk : Int) := by omega
        have fin := fin.out true (by rw [decide_eq_true e0]; rfl)
        have FIN := Lib.hid fin
        clear fin HLN HB1
        go_wp2_with fail
        clear k0
        (refine (HS1.out _).mono ?_)
        rintro e w9 ⟨oa, ok, oc, rfl, ho, b9⟩
        have JJ := J7.out.keep b9
        have NO := HQ8.out.below b9
        obtain ⟨W9, hW9⟩ : ∃ W9, three w9 (w.heap.size + 1) (.bool true) (.slice qa qk qc) (.slice oa ok oc) = W9 := ⟨_, rfl⟩
        have R9 : B3 W9 (w.heap.size + 1) (.bool true) (.slice qa qk qc) (.slice oa ok oc) := by rw [← hW9]; exact JJ.r.set _ _ _
        have PP : Hid (NePost true m w (.returned (.agg #[.bool true, .slice qa qk qc, .slice oa ok oc])) W9) := by
          rw [← hW9]
          exact ⟨_, _, _, _, _, _, by rw [FIN.out], NO.set3 JJ.r _ _ _, ho.set3 JJ.r _ _ _, below_three JJ.bel (by omega) _ _ _⟩
        have q0 := JJ.r.c0
        have q1 := JJ.r.c1
        have q2 := JJ.r.c2
        have g0 := JJ.r.fr 0
        have g1 := JJ.r.fr 1
        have g2 := JJ.r.fr 2
        obtain ⟨r0, r1, r2, _, _⟩ := id R9
        unfold three at hW9
        clear R9 JJ NO ho b9 HS1 J7 HQ8
        go_wp2_with fail
        exact bodyPost_ret (v := .agg #[.bool true, .slice qa qk qc, .slice oa ok oc]) (by simp [results, Tryz.results48, go_sem, r0, r1, r2]) rfl PP.out
  · have hs0 : 0 ≤ sg := by
      rw [← HSG.out]
      unfold sgn
      rw [if_neg (by omega)]
      split <;> omega
    have HN : Hid (m = m0 + 1) := by unfold Hid; rw [HMM.out, if_neg hl]
    clear hl HSG HMM
    refine wpAnyH_take (i := 6) (v := ?v6z51) rfl (by kernel_rfl) (by kernel_rfl) (by kernel_rfl) (fun _ _ _ h => h) (Or.inl ⟨by rfl, ?hy6z51⟩) (by assumption) ?rest6z51
    case hy6z51 =>
      intro w hSw
      dsimp only [S3q] at hSw
      go_simp
      try with_reducible rfl
    simp only [Act.put, List.getElem_toArray, List.getElem_cons_succ, List.getElem_cons_zero, List.setIfInBounds_toArray, List.set_cons_zero, List.set_cons_succ]
    refine wpAnyH_done (by kernel_rfl) ?_ _
    refine NoPanic.normal ?_
    clear hS
    have HSM := Lib.hid (fun w => nsmall_c 1 w (by decide))
    go_wp2_with fail
    (refine (HSM.out _).mono ?_)
    rintro e w8 ⟨oa, ok, oc, rfl, ho, b8⟩
    have J8 := Lib.hid (J7.out.keep b8)
    have HQ8 := Lib.hid (HQ7.out.below b8)
    have HO8 := Lib.hid ho
    have HPL := Lib.hid (nplus_c qa oa qk ok qc oc _ _ w8 HQ8.out HO8.out (by have := HQ8.out.len MLT.out; omega) (by have := HO8.out.len (K := 1) (by rw [tp_one]; decide); omega))
    clear J7 HQ7 ho b8 HSM
    go_wp2_with fail
    (refine HPL.out.mono ?_)
    rintro e w10 ⟨na, nk, nc, rfl, hn, b10⟩
    have J10 := Lib.hid (J8.out.keep b10)
    have HQ10 : Hid (Nt w10 na nk nc m) := by unfold Hid; rw [HN.out]; exact hn
    clear J8 HQ8 HO8 hn b10 HPL HN
    have HLN : Hid (0 < nk ↔ 0 < m) := ⟨fun h => Nat.lt_of_lt_of_le (tp_pos (nk - 1)) (HQ10.out.pos h), fun h => HQ10.out.one h⟩
    have k0 := J10.out.q.c0
    have HB1 : Hid ((b && decide (0 < nk)) = (b && decide (0 < m))) := by
      unfold Hid
      by_cases h : 0 < m
      · rw [decide_eq_true h, decide_eq_true (HLN.out.2 h)]
      · rw [decide_eq_false h, decide_eq_false (fun q => h (HLN.out.1 q))]
    have HS1 := Lib.hid (fun w => nsmall_c 1 w (by decide))
    have fin : Hid (∀ ob, (b && decide (0 < nk)) = ob → (b && decide (0 < m)) = ob) := fun ob h => by rw [← HB1.out]; exact h
    cases b
    · have fin := fin.out false rfl
      have FIN := Lib.hid fin
      clear fin HLN HB1
      go_wp2_with fail
      clear k0
      (refine (HS1.out _).mono ?_)
      rintro e w9 ⟨oa, ok, oc, rfl, ho, b9⟩
      have JJ := J10.out.keep b9
      have NO := HQ10.out.below b9
      obtain ⟨W9, hW9⟩ : ∃ W9, three w9 (w.heap.size + 1) (.bool false) (.slice na nk nc) (.slice oa ok oc) = W9 := ⟨_, rfl⟩
      have R9 : B3 W9 (w.heap.size + 1) (.bool false) (.slice na nk nc) (.slice oa ok oc) := by rw [← hW9]; exact JJ.r.set _ _ _
      have PP : Hid (NePost false m w (.returned (.agg #[.bool false, .slice na nk nc, .slice oa ok oc])) W9) := by
        rw [← hW9]
        exact ⟨_, _, _, _, _, _, by rw [FIN.out], NO.set3 JJ.r _ _ _, ho.set3 JJ.r _ _ _, below_three JJ.bel (by omega) _ _ _⟩
      have q0 := JJ.r.c0
      have q1 := JJ.r.c1
      have q2 := JJ.r.c2
      have g0 := JJ.r.fr 0
      have g1 := JJ.r.fr 1
      have g2 := JJ.r.fr 2
      obtain ⟨r0, r1, r2, _, _⟩ := id R9
      unfold three at hW9
      clear R9 JJ NO ho b9 HS1 J10 HQ10
      go_wp2_with fail
      exact bodyPost_ret (v := .agg #[.bool false, .slice na nk nc, .slice oa ok oc]) (by simp [results, Tryz.results48, go_sem, r0, r1, r2]) rfl PP.out
    · rcases Nat.eq_zero_or_pos nk with e0 | e0
      · subst e0
        have fin := fin.out false rfl
        have FIN := Lib.hid fin
        clear fin HLN HB1
        go_wp2_with fail
        clear k0
        (refine (HS1.out _).mono ?_)
        rintro e w9 ⟨oa, ok, oc, rfl, ho, b9⟩
        have JJ := J10.out.keep b9
        have NO := HQ10.out.below b9
        obtain ⟨W9, hW9⟩ : ∃ W9, three w9 (w.heap.size + 1) (.bool false) (.slice na 0 nc) (.slice oa ok oc) = W9 := ⟨_, rfl⟩
        have R9 : B3 W9 (w.heap.size + 1) (.bool false) (.slice na 0 nc) (.slice oa ok oc) := by rw [← hW9]; exact JJ.r.set _ _ _
        have PP : Hid (NePost true m w (.returned (.agg #[.bool false, .slice na 0 nc, .slice oa ok oc])) W9) := by
          rw [← hW9]
          exact ⟨_, _, _, _, _, _, by rw [FIN.out], NO.set3 JJ.r _ _ _, ho.set3 JJ.r _ _ _, below_three JJ.bel (by omega) _ _ _⟩
        have q0 := JJ.r.c0
        have q1 := JJ.r.c1
        have q2 := JJ.r.c2
        have g0 := JJ.r.fr 0
        have g1 := JJ.r.fr 1
        have g2 := JJ.r.fr 2
        obtain ⟨r0, r1, r2, _, _⟩ := id R9
        unfold three at hW9
        clear R9 JJ NO ho b9 HS1 J10 HQ10
        go_wp2_with fail
        exact bodyPost_ret (v := .agg #[.bool false, .slice na 0 nc, .slice oa ok oc]) (by simp [results, Tryz.results48, go_sem, r0, r1, r2]) rfl PP.out
      · have e0' : (0 : Int) < (nk : Int) := by omega
        have fin := fin.out true (by rw [decide_eq_true e0]; rfl)
        have FIN := Lib.hid fin
        clear fin HLN HB1
        go_wp2_with fail
        clear k0
        (refine (HS1.out _).mono ?_)
        rintro e w9 ⟨oa, ok, oc, rfl, ho, b9⟩
        have JJ := J10.out.keep b9
        have NO := HQ10.out.below b9
        obtain ⟨W9, hW9⟩ : ∃ W9, three w9 (w.heap.size + 1) (.bool true) (.slice na nk nc) (.slice oa ok oc) = W9 := ⟨_, rfl⟩
        have R9 : B3 W9 (w.heap.size + 1) (.bool true) (.slice na nk nc) (.slice oa ok oc) := by rw [← hW9]; exact JJ.r.set _ _ _
        have PP : Hid (NePost true m w (.returned (.agg #[.bool true, .slice na nk nc, .slice oa ok oc])) W9) := by
          rw [← hW9]
          exact ⟨_, _, _, _, _, _, by rw [FIN.out], NO.set3 JJ.r _ _ _, ho.set3 JJ.r _ _ _, below_three JJ.bel (by omega) _ _ _⟩
        have q0 := JJ.r.c0
        have q1 := JJ.r.c1
        have q2 := JJ.r.c2
        have g0 := JJ.r.fr 0
        have g1 := JJ.r.fr 1
        have g2 := JJ.r.fr 2
        obtain ⟨r0, r1, r2, _, _⟩ := id R9
        unfold three at hW9
        clear R9 JJ NO ho b9 HS1 J10 HQ10
        go_wp2_with fail
        exact bodyPost_ret (v := .agg #[.bool true, .slice na nk nc, .slice oa ok oc]) (by simp [results, Tryz.results48, go_sem, r0, r1, r2]) rfl PP.out
end Go.Proofs.YtfijhkaalpinhaaGreatDoor
namespace Go.Proofs.YtfijhkaalpinhaaGreatDoor
open Go.RowKit

/-- What places says. -/
def plS (n d : List UInt8) (p : Int) : Int := if ck n d = 0 then (if p < 0 ∨ 20 < p then 1 else 0) else ck n d
set_option maxRecDepth 100000 in
set_option maxHeartbeats 4000000 in
theorem places_c (s t : ByteArray) (p : Int) (w : World) (hE : Pow w) :
    Calls Tryz.prog 47 #[.agg #[.string s, .string t], .int .i64 p] w fun e w' => e = .returned (.int .i64 (plS s.data.toList t.data.toList p)) ∧ Below w.heap.size w w' := by
  obtain ⟨W0, hW0⟩ : ∃ W0, w.alloc (.cells #[.string s, .string t] 23) = W0 := ⟨_, rfl⟩
  have X0 : B2 W0 w.heap.size (.string s) (.string t) := by rw [← hW0]; exact B2.made _ _ _ _
  have B0 : Hid (Below w.heap.size w W0) := by rw [← hW0]; exact bel_one _ _
  have HC := Lib.hid (rCheckRatio_c s t W0 (hE.below B0.out))
  unfold CkPost at HC
  have HPL : Hid (plS s.data.toList t.data.toList p = if ck s.data.toList t.data.toList = 0 then (if p < 0 ∨ 20 < p then 1 else 0) else ck s.data.toList t.data.toList) := rfl
  generalize ck s.data.toList t.data.toList = q at *
  generalize plS s.data.toList t.data.toList p = r at *
  have x0 := X0.c0
  have x1 := X0.c1
  clear X0 hE
  go_enter Tryz.func47, Tryz.ntmps47
  go_wp2_with fail
  clear hW0 x0 x1
  (with_reducible refine HC.out.mono ?_)
  rintro e w1 ⟨rfl, b1⟩
  have B1 := Lib.hid (B0.out.trans (b1.mono B0.out.size))
  clear b1 B0 HC
  by_cases hq : q = 0
  · subst hq
    by_cases h0 : p < 0
    · have RS : Hid (r = 1) := by unfold Hid; rw [HPL.out, if_pos rfl, if_pos (.inl h0)]
      clear HPL
      go_wp2_with fail
      go_ret
      exact ⟨by rw [RS.out]; rfl, B1.out⟩
    · by_cases h1 : 20 < p
      · have RS : Hid (r = 1) := by unfold Hid; rw [HPL.out, if_pos rfl, if_pos (.inr h1)]
        clear HPL
        go_wp2_with fail
        go_ret
        exact ⟨by rw [RS.out]; rfl, B1.out⟩
      · have RS : Hid (r = 0) := by unfold Hid; rw [HPL.out, if_pos rfl, if_neg (fun h => h.elim h0 h1)]
        clear HPL
        go_wp2_with fail
        go_ret
        exact ⟨by rw [RS.out]; rfl, B1.out⟩
  · have hne : (q == 0) = false := by rw [beq_eq_false_iff_ne]; exact hq
    have hne2 : (q != 0) = true := by simp [hq]
    have RS : Hid (r = q) := by unfold Hid; rw [HPL.out, if_neg hq]
    clear HPL
    go_wp2_with fail
    go_ret
    exact ⟨by rw [RS.out]; rfl, B1.out⟩
set_option maxRecDepth 100000 in
set_option maxHeartbeats 4000000 in
theorem rRounded_c (s t : ByteArray) (p : Int) (w : World) (hE : Pow w) :
    Calls Tryz.prog 18 #[.agg #[.string s, .string t], .int .i64 p] w (OpPost (rnS s.data.toList t.data.toList p) w) := by
  obtain ⟨W0, hW0⟩ : ∃ W0, (w.alloc (.cells #[.string s, .string t] 23)).alloc (.cells #[.string ⟨#[]⟩, .string ⟨#[]⟩] 23) = W0 := ⟨_, rfl⟩
  have s1 : (w.alloc (.cells #[.string s, .string t] 23)).heap.size = w.heap.size + 1 := by simp
  have X0 : Hid (B2 W0 w.heap.size (.string s) (.string t)) := by rw [← hW0]; exact (B2.made w _ _ _).keep (bel_one _ _)
  have JR0 : Hid (B2 W0 (w.heap.size + 1) (.string ⟨#[]⟩) (.string ⟨#[]⟩)) := by rw [← hW0, ← s1]; exact B2.made _ _ _ _
  have JB0 : Hid (Below w.heap.size w W0) := by rw [← hW0]; exact ((Below.refl _ _).alloc (Nat.le_refl _) _).alloc (by simp) _
  have HE := Lib.hid (fun W (h : Below w.heap.size w W) => hE.below h)
  have HC := Lib.hid (places_c s t p W0 (HE.out _ JB0.out))
  obtain ⟨flt, hflt⟩ : ∃ flt, plS s.data.toList t.data.toList p = flt := ⟨_, rfl⟩
  rw [hflt] at HC
  have HF := Lib.hid hflt
  have x0 := X0.out.c0
  have x1 := X0.out.c1
  clear hflt hE s1
  by_cases hz : flt = 0
  · obtain ⟨m, rfl, hm⟩ : ∃ m : Nat, p = (m : Int) ∧ m ≤ 20 := by
      have h := HF.out
      rw [hz] at h
      unfold plS at h
      split at h
      · split at h
        · cases h
        · next h1 => exact ⟨p.toNat, by omega, by omega⟩
      · next h1 => exact absurd h h1
    obtain ⟨x, y, e1⟩ : ∃ x y, rread s.data.toList t.data.toList = some (x, y) := by
      have h := HF.out
      rw [hz] at h
      unfold plS at h
      cases e : rread s.data.toList t.data.toList with
      | some p => exact ⟨p.1, p.2, rfl⟩
      | none =>
        rw [ck_none e, if_neg (rflt_ne _ _)] at h
        exact absurd h (rflt_ne _ _)
    subst hz
    have HO := Lib.hid (fun w => nearest_c s t x y m w e1 hm)
    have HP := Lib.hid (fun w => power_c m w hm)
    have V1 := Lib.hid (val_pos_den e1)
    have TEN := Lib.hid (ten_lt m hm)
    have HTP : Hid (0 < 10 ^ m) := Nat.pow_pos (by decide)
    have RS : Hid (rnS s.data.toList t.data.toList (m : Int) = raR (tnR x y m) ((10 ^ m : Nat) : Int)) := by
      unfold Hid rnS
      rw [e1]
      exact if_neg (by omega)
    have HTN : Hid (tnR x y m = zv (decide (x < 0)) (nN (x.natAbs * 10 ^ m) y.natAbs)) := tnR_is x y m
    have HNL : Hid (nN (x.natAbs * 10 ^ m) y.natAbs < tp 227) := by
      have h1 := nN_le (x.natAbs * 10 ^ m) y.natAbs
      have h2 := tp_mul_lt V1.out.2.2 TEN.out
      have h3 : tp (223 + 3 + 1) = tp (223 + 3) * 1000000000 := tp_succ _
      unfold Hid
      show _ < tp (223 + 3 + 1)
      omega
    clear HF e1 hm
    generalize nN (x.natAbs * 10 ^ m) y.natAbs = n at *
    generalize decide (x < 0) = b at *
    go_enter Tryz.func18, Tryz.ntmps18
    go_wp2_with fail
    clear hW0
    (with_reducible refine HC.out.mono ?_)
    rintro e w1 ⟨rfl, b1⟩
    have X1 := X0.out.keep b1
    have JR1 := Lib.hid (JR0.out.keep b1)
    have JB1 := Lib.hid (JB0.out.trans (b1.mono JB0.out.size))
    clear x0 x1
    have x0 := X1.c0
    have x1 := X1.c1
    clear b1 X0 X1 JR0 JB0 HC
    go_wp2_with fail
    clear x0 x1
    (with_reducible refine (HO.out _).mono ?_)
    rintro e w5 ⟨a, k, c, a', k', c', rfl, hn, hd, b5⟩
    obtain ⟨fb, hfb⟩ : ∃ fb, (b && decide (0 < n)) = fb := ⟨_, rfl⟩
    rw [hfb]
    have HFL : Hid (zv fb n = tnR x y m) := by unfold Hid; rw [HTN.out, ← hfb, zv_flag]
    clear hfb
    have JR5 := JR1.out.keep b5
    have JB5 := JB1.out.trans (b5.mono JB1.out.size)
    obtain ⟨WA, hWA⟩ : ∃ W, w5.alloc (.cells #[.bool false, .slice none 0 0, .slice none 0 0] 53) = W := ⟨_, rfl⟩
    have D1 : B3 WA w5.heap.size (.bool false) (.slice none 0 0) (.slice none 0 0) := by rw [← hWA]; exact B3.made _ _ _ _ _
    obtain ⟨WB, hWB⟩ : ∃ W, three WA w5.heap.size (.bool fb) (.slice a k c) (.slice a' k' c') = W := ⟨_, rfl⟩
    have hb : Below w5.heap.size w5 WB := by rw [← hWB]; exact below_three (by rw [← hWA]; exact bel_one _ _) (Nat.le_refl _) _ _ _
    have JR6 := Lib.hid (JR5.keep hb)
    have JB6 := Lib.hid (JB5.trans (hb.mono JB5.size))
    have N6 := Lib.hid (hn.below hb)
    have D2 : Hid (B3 WB w5.heap.size (.bool fb) (.slice a k c) (.slice a' k' c')) := by rw [← hWB]; exact D1.set _ _ _
    have LG : Hid (w.heap.size + 1 < w5.heap.size) := JR5.lt
    have a0 := D1.c0
    have a1 := D1.c1
    have a2 := D1.c2
    have af0 := D1.fr 0
    have af1 := D1.fr 1
    have af2 := D1.fr 2
    unfold three at hWB
    clear D1 hb hn hd b5 JR5 JB5 JR1 JB1 HO
    go_wp2_with fail
    clear hWA hWB a0 a1 a2 af0 af1 af2
    generalize w5.heap.size = g at *
    (refine (HP.out _).mono ?_)
    rintro e w7 ⟨pa, pk, pc, rfl, hp, b7⟩
    have D7 := D2.out.keep b7
    have N7 := N6.out.below b7
    have JR7 := JR6.out.keep b7
    have JB7 := JB6.out.trans (b7.mono JB6.out.size)
    obtain ⟨WC, hWC⟩ : ∃ W, w7.setCell ⟨g, 2, none⟩ (.slice pa pk pc) = W := ⟨_, rfl⟩
    have c2 := D7.c2
    have f2 := D7.fr 2
    have E0 : WC.cell? ⟨g, 0, none⟩ = some (.bool fb) := by rw [← hWC, World.cell?_setCell_other _ _ _ _ (addr_ne (by decide))]; exact D7.c0
    have E1 : WC.cell? ⟨g, 1, none⟩ = some (.slice a k c) := by rw [← hWC, World.cell?_setCell_other _ _ _ _ (addr_ne (by decide))]; exact D7.c1
    have E2 : WC.cell? ⟨g, 2, none⟩ = some (.slice pa pk pc) := by rw [← hWC]; exact World.cell?_setCell_same _ _ _ D7.c2
    have N8 : Hid (Nt WC a k c n) := by rw [← hWC]; exact N7.set D7.c2 (fun m e => nomatch e) _
    have P8 : Hid (Nt WC pa pk pc (10 ^ m)) := by rw [← hWC]; exact hp.set D7.c2 (fun m e => nomatch e) _
    have JR8 : Hid (B2 WC (w.heap.size + 1) (.string ⟨#[]⟩) (.string ⟨#[]⟩)) := by
      rw [← hWC]
      have ne : ∀ o, (⟨g, 2, none⟩ : Addr) ≠ ⟨w.heap.size + 1, o, none⟩ := fun o e => by injection e with e1 _; have := LG.out; omega
      exact ⟨(World.cell?_setCell_other _ _ _ _ (ne 0)).trans JR7.c0, (World.cell?_setCell_other _ _ _ _ (ne 1)).trans JR7.c1, fun o => by rw [World.frozen?_setCell]; exact JR7.fr o, by simpa using JR7.lt⟩
    have JB8 : Hid (Below w.heap.size w WC) := by rw [← hWC]; exact JB7.setCell (p := ⟨g, 2, none⟩) (by have := LG.out; show w.heap.size ≤ g; omega) _
    have HSH := shut_c fb a pa k pk c pc n (10 ^ m) WC N8.out P8.out HTP.out (by have := N8.out.len HNL.out; omega) (by have := P8.out.len TEN.out; omega) (HE.out _ JB8.out)
    rw [HFL.out] at HSH
    obtain ⟨rr, hrr⟩ : ∃ rr, raR (tnR x y m) ((10 ^ m : Nat) : Int) = rr := ⟨_, rfl⟩
    rw [hrr] at HSH
    have RS2 : Hid (rnS s.data.toList t.data.toList (m : Int) = rr) := by unfold Hid; rw [RS.out, hrr]
    have HSH := Lib.hid HSH
    clear hp b7 D7 N7 JR7 JB7 D2 N6 JR6 JB6 HP hrr RS
    go_wp2_with fail
    clear hWC c2 f2 E0 E1 E2
    (with_reducible refine HSH.out.mono ?_)
    rintro e w9 ⟨rfl, b9⟩
    have JR9 := Lib.hid (JR8.out.keep b9)
    have JB9 := Lib.hid (JB8.out.trans (b9.mono JB8.out.size))
    clear b9 HSH JR8 JB8 N8 P8
    obtain ⟨W9, hW9⟩ : ∃ W9, two w9 (w.heap.size + 1) (.string rr.1) (.string rr.2.1) = W9 := ⟨_, rfl⟩
    have R9 : B2 W9 (w.heap.size + 1) (.string rr.1) (.string rr.2.1) := by rw [← hW9]; exact JR9.out.set _ _
    have PP : Hid (OpPost (rnS s.data.toList t.data.toList (m : Int)) w (.returned (.tuple #[.agg #[.string rr.1, .string rr.2.1], .int .i64 rr.2.2])) W9) := by
      rw [← hW9]
      exact ⟨by rw [RS2.out], below_two JB9.out (by omega) _ _⟩
    have c0 := JR9.out.c0
    have c1 := JR9.out.c1
    have cf0 := JR9.out.fr 0
    have cf1 := JR9.out.fr 1
    obtain ⟨r0, r1, _, _⟩ := id R9
    unfold two at hW9
    clear R9
    go_wp2_with fail
    exact bodyPost_ret (v := .tuple #[.agg #[.string rr.1, .string rr.2.1], .int .i64 rr.2.2]) (by simp [results, Tryz.results18, go_sem, r0, r1]) rfl PP.out
  · have hne : (flt == 0) = false := by rw [beq_eq_false_iff_ne]; exact hz
    have hne2 : (flt != 0) = true := by simp [hz]
    have RS2 : Hid (rnS s.data.toList t.data.toList p = (⟨#[]⟩, ⟨#[]⟩, flt)) := by
      unfold Hid rnS
      have h := HF.out
      unfold plS at h
      cases e : rread s.data.toList t.data.toList with
      | some q =>
        rw [ck_some e, if_pos rfl] at h
        by_cases hp : p < 0 ∨ 20 < p
        · rw [if_pos hp] at h
          show (if p < 0 ∨ 20 < p then _ else _) = _
          rw [if_pos hp, h]
        · rw [if_neg hp] at h
          exact absurd h.symm hz
      | none => rw [ck_none e, if_neg (rflt_ne _ _)] at h; rw [h]
    clear hz HF
    go_enter Tryz.func18, Tryz.ntmps18
    go_wp2_with fail
    clear hW0 x0 x1
    (with_reducible refine HC.out.mono ?_)
    rintro e w1 ⟨rfl, b1⟩
    have JR1 := Lib.hid (JR0.out.keep b1)
    have JB1 := Lib.hid (JB0.out.trans (b1.mono JB0.out.size))
    clear b1 X0 JR0 JB0 HC
    obtain ⟨W9, hW9⟩ : ∃ W9, two w1 (w.heap.size + 1) (.string ⟨#[]⟩) (.string ⟨#[]⟩) = W9 := ⟨_, rfl⟩
    have R9 : B2 W9 (w.heap.size + 1) (.string ⟨#[]⟩) (.string ⟨#[]⟩) := by rw [← hW9]; exact JR1.out.set _ _
    have PP : Hid (OpPost (rnS s.data.toList t.data.toList p) w (.returned (.tuple #[.agg #[.string ⟨#[]⟩, .string ⟨#[]⟩], .int .i64 flt])) W9) := by
      rw [← hW9]
      exact ⟨by rw [RS2.out], below_two JB1.out (by omega) _ _⟩
    have c0 := JR1.out.c0
    have c1 := JR1.out.c1
    have cf0 := JR1.out.fr 0
    have cf1 := JR1.out.fr 1
    obtain ⟨r0, r1, _, _⟩ := id R9
    unfold two at hW9
    clear R9
    go_wp2_with fail
    exact bodyPost_ret (v := .tuple #[.agg #[.string ⟨#[]⟩, .string ⟨#[]⟩], .int .i64 flt]) (by simp [results, Tryz.results18, go_sem, r0, r1]) rfl PP.out
end Go.Proofs.YtfijhkaalpinhaaGreatDoor
namespace Go.Proofs.YtfijhkaalpinhaaGreatDoor
open Go.RowKit

theorem rn_ok {n d : List UInt8} {p : Int} (h : (rnS n d p).2.2 = 0) : ∃ (x y : Int) (m : Nat), rread n d = some (x, y) ∧ p = (m : Int) ∧ m ≤ 20 := by
  unfold rnS at h
  cases e : rread n d with
  | none => rw [e] at h; exact absurd h (rflt_ne _ _)
  | some q =>
    rw [e] at h
    by_cases hp : p < 0 ∨ 20 < p
    · have h2 : ((if p < 0 ∨ 20 < p then ((⟨#[]⟩, ⟨#[]⟩, 1) : ByteArray × ByteArray × Int) else raR (tnR q.1 q.2 p.toNat) ((10 ^ p.toNat : Nat) : Int))).2.2 = 0 := h
      rw [if_pos hp] at h2
      cases h2
    · exact ⟨q.1, q.2, p.toNat, rfl, by omega, by omega⟩
theorem dc_ok {n d : List UInt8} {x y : Int} {m : Nat} (h : (rnS n d (m : Int)).2.2 = 0) (h2 : rread n d = some (x, y)) : dcS n d (m : Int) = (⟨(dcT (tnR x y m) m).toArray⟩, 0) := by
  unfold dcS
  rw [if_pos h, h2]
  rfl
theorem dc_no {n d : List UInt8} {p : Int} (h : (rnS n d p).2.2 ≠ 0) : dcS n d p = (⟨#[]⟩, (rnS n d p).2.2) := by
  unfold dcS
  rw [if_neg h]
theorem ext_list {a b : ByteArray} (h : a.data.toList = b.data.toList) : a = b := by
  cases a with
  | mk a => cases b with
    | mk b => simp only [ByteArray.mk.injEq]; exact Array.toList_inj.1 h
theorem app_list (a b : ByteArray) : (a ++ b).data.toList = a.data.toList ++ b.data.toList := by simp [ByteArray.data_append]
/-- The padded text, and what lies in it. -/
theorem pad_is {m p : Nat} {y : ByteArray} (hy : y.data.toList = List.replicate (p + 1 - (Lib.decDigits m).length) 48 ++ Lib.decDigits m) :
    y.size = p + 1 - (Lib.decDigits m).length + (Lib.decDigits m).length ∧ p < y.size := by
  have h : y.size = y.data.toList.length := by simp
  rw [h, hy]
  have := List.length_pos_iff.2 (decDigits_ne m)
  simp
  omega
theorem dcT_is {t : Int} {p : Nat} {y : ByteArray} (hy : y.data.toList = List.replicate (p + 1 - (Lib.decDigits t.natAbs).length) 48 ++ Lib.decDigits t.natAbs) :
    dcT t p = (if t < 0 then [45] else []) ++ (y.extract 0 (y.size - p)).data.toList ++ (if 0 < p then [46] else []) ++ (y.extract (y.size - p) y.size).data.toList := by
  have h : y.size = y.data.toList.length := by simp
  have e2 : ((y.data.toList.drop (y.size - p)).take (y.size - (y.size - p))) = y.data.toList.drop (y.size - p) := List.take_of_length_le (by rw [List.length_drop]; omega)
  unfold dcT
  rw [extract_list, extract_list, List.drop_zero, Nat.sub_zero, e2, h, hy]
theorem dcT_zero {t : Int} : dcT t 0 = (if t < 0 then [45] else []) ++ Lib.decDigits t.natAbs := by
  unfold dcT
  have := List.length_pos_iff.2 (decDigits_ne t.natAbs)
  rw [show 0 + 1 - (Lib.decDigits t.natAbs).length = 0 by omega]
  simp
def STr (_ : World) : Prop := True
theorem bp_ten (k : Nat) : bp k ≤ 10 ^ (20 * k) := by
  rw [bp_pow, Nat.pow_mul]
  exact Nat.pow_le_pow_left (by decide) k
theorem dec_bp {m : Nat} (h : m < bp 200) : (Lib.decDigits m).length ≤ 20 * 200 := dec_len _ m (by decide) (Nat.lt_of_lt_of_le h (bp_ten 200))
end Go.Proofs.YtfijhkaalpinhaaGreatDoor
namespace Go.Proofs.YtfijhkaalpinhaaGreatDoor
open Go.RowKit

set_option maxRecDepth 100000 in
set_option maxHeartbeats 4000000 in
theorem rDecimal_c (s t : ByteArray) (p : Int) (w : World) (hE : Pow w) :
    Calls Tryz.prog 20 #[.agg #[.string s, .string t], .int .i64 p] w fun e w' => e = .returned (.tuple #[.string (dcS s.data.toList t.data.toList p).1, .int .i64 (dcS s.data.toList t.data.toList p).2]) ∧ Below w.heap.size w w' := by
  obtain ⟨rr, hrr⟩ : ∃ rr, rnS s.data.toList t.data.toList p = rr := ⟨_, rfl⟩
  have HE := Lib.hid (fun W (h : Below w.heap.size w W) => hE.below h)
  have HC := fun W (h : Below w.heap.size w W) => rRounded_c s t p W (hE.below h)
  unfold OpPost at HC
  rw [hrr] at HC
  have HRN := Lib.hid hrr
  obtain ⟨r1, r2, r3⟩ := rr
  have HC := Lib.hid HC
  clear hrr hE
  by_cases hz : r3 = 0
  · subst hz
    obtain ⟨x, y, m, e1, rfl, hm⟩ := rn_ok (p := p) (by rw [HRN.out])
    have HO := Lib.hid (fun w => nearest_c s t x y m w e1 hm)
    have V1 := Lib.hid (val_pos_den e1)
    have HM := Lib.hid hm
    have DC : Hid (dcS s.data.toList t.data.toList (m : Int) = (⟨(dcT (tnR x y m) m).toArray⟩, 0)) := dc_ok (by rw [HRN.out]) e1
    have HTN : Hid (tnR x y m = zv (decide (x < 0)) (nN (x.natAbs * 10 ^ m) y.natAbs)) := tnR_is x y m
    have TNA : Hid ((tnR x y m).natAbs = nN (x.natAbs * 10 ^ m) y.natAbs) := by unfold Hid; rw [HTN.out, zv_abs]
    have DLN : Hid ((Lib.decDigits (nN (x.natAbs * 10 ^ m) y.natAbs)).length ≤ 2050) := by
      have h1 := nN_le (x.natAbs * 10 ^ m) y.natAbs
      have h2 := tp_mul_lt V1.out.2.2 (ten_lt m hm)
      have h3 : tp (223 + 3 + 1) = tp (223 + 3) * 1000000000 := tp_succ _
      have h4 : nN (x.natAbs * 10 ^ m) y.natAbs < tp (223 + 3 + 1) := by omega
      have := dec_short (by decide) h4
      unfold Hid
      omega
    generalize nN (x.natAbs * 10 ^ m) y.natAbs = n at *
    generalize decide (x < 0) = b at *
    clear e1 hm HRN V1
    obtain ⟨W0, hW0⟩ : ∃ W0, w.alloc (.cells #[.string s, .string t] 23) = W0 := ⟨_, rfl⟩
    have X0 : B2 W0 w.heap.size (.string s) (.string t) := by rw [← hW0]; exact B2.made _ _ _ _
    have HX0 := Lib.hid X0
    have B0 : Hid (Below w.heap.size w W0) := by rw [← hW0]; exact bel_one _ _
    have x0 := X0.c0
    have x1 := X0.c1
    clear X0
    go_enter Tryz.func20, Tryz.ntmps20
    go_wp2_with fail
    clear hW0 x0 x1
    (with_reducible refine (HC.out _ B0.out).mono ?_)
    rintro e w1 ⟨rfl, b1⟩
    obtain ⟨WA, hWA⟩ : ∃ W, w1.alloc (.cells #[.string ⟨#[]⟩, .string ⟨#[]⟩] 23) = W := ⟨_, rfl⟩
    have D1 : B2 WA w1.heap.size (.string ⟨#[]⟩) (.string ⟨#[]⟩) := by rw [← hWA]; exact B2.made _ _ _ _
    obtain ⟨WB, hWB⟩ : ∃ W, two WA w1.heap.size (.string r1) (.string r2) = W := ⟨_, rfl⟩
    have hb : Below w1.heap.size w1 WB := by rw [← hWB]; exact below_two (by rw [← hWA]; exact bel_one _ _) (Nat.le_refl _) _ _
    have a0 := D1.c0
    have a1 := D1.c1
    have af0 := D1.fr 0
    have af1 := D1.fr 1
    unfold two at hWB
    clear D1
    have hc := b1.trans (hb.mono b1.size)
    have B2' := Lib.hid (B0.out.trans (hc.mono B0.out.size))
    have X2 := Lib.hid (HX0.out.keep hc)
    clear hb hc b1 B0 HX0 HC
    have x0 := X2.out.c0
    have x1 := X2.out.c1
    go_wp2_with fail
    clear hWA hWB a0 a1 af0 af1 x0 x1
    (with_reducible refine (HO.out _).mono ?_)
    rintro e w5 ⟨a, k, c, a', k', c', rfl, hn, hd, b5⟩
    obtain ⟨fb, hfb⟩ : ∃ fb, (b && decide (0 < n)) = fb := ⟨_, rfl⟩
    rw [hfb]
    have FBT : Hid (fb = decide (tnR x y m < 0)) := by
      unfold Hid
      rw [← hfb, HTN.out]
      cases b
      · rw [zv_false, Bool.false_and]; exact (decide_eq_false (by omega)).symm
      · rw [zv_true, Bool.true_and]
        rcases Nat.eq_zero_or_pos n with e | e
        · subst e; rfl
        · rw [decide_eq_true e]; exact (decide_eq_true (by omega)).symm
    clear hfb
    obtain ⟨WA, hWA⟩ : ∃ W, w5.alloc (.cells #[.bool false, .slice none 0 0, .slice none 0 0] 53) = W := ⟨_, rfl⟩
    have D1 : B3 WA w5.heap.size (.bool false) (.slice none 0 0) (.slice none 0 0) := by rw [← hWA]; exact B3.made _ _ _ _ _
    obtain ⟨WC, hWB⟩ : ∃ W, three WA w5.heap.size (.bool fb) (.slice a k c) (.slice a' k' c') = W := ⟨_, rfl⟩
    have hb : Below w5.heap.size w5 WC := by rw [← hWB]; exact below_three (by rw [← hWA]; exact bel_one _ _) (Nat.le_refl _) _ _ _
    have hc := b5.trans (hb.mono b5.size)
    have B6 := Lib.hid (B2'.out.trans (hc.mono B2'.out.size))
    have N6 := Lib.hid (hn.below hb)
    have D6 : Hid (B3 WC w5.heap.size (.bool fb) (.slice a k c) (.slice a' k' c')) := by rw [← hWB]; exact D1.set _ _ _
    have a0 := D1.c0
    have a1 := D1.c1
    have a2 := D1.c2
    have af0 := D1.fr 0
    have af1 := D1.fr 1
    have af2 := D1.fr 2
    have p1 := D6.out.c1
    unfold three at hWB
    have HT := Lib.hid (rtext_c a k c n WC N6.out (HE.out _ B6.out))
    clear D1 hb hc hn hd b5 B2' X2 HO
    go_wp2_with fail
    clear hWA hWB a0 a1 a2 af0 af1 af2 p1
    generalize w5.heap.size = g at *
    (with_reducible refine HT.out.mono ?_)
    rintro e w6 ⟨rfl, b6⟩
    have D7 := Lib.hid (D6.out.keep b6)
    have B7 := Lib.hid (B6.out.trans (b6.mono B6.out.size))
    clear b6 D6 B6 N6 HT
    have hds := decB_size n
    have hdl := decB_list n
    rcases Nat.eq_zero_or_pos m with e0 | e0
    · subst e0
      have D8 := D7
      have B8 := B7
      have YS : Hid ((decB n).size ≤ 10000) := by have := DLN.out; unfold Hid; omega
      have EQ : Hid (dcT (tnR x y 0) 0 = (if tnR x y 0 < 0 then [45] else []) ++ (decB n).data.toList) := by unfold Hid; rw [dcT_zero, TNA.out, hdl]
      clear hds hdl D7 B7
      have NEG : Hid (fb = decide (tnR x y 0 < 0)) := FBT.out
      have g0 := D8.out.c0
      cases fb
      · have hneg : ¬ tnR x y 0 < 0 := by have := NEG.out; simpa using this.symm
        have RS : Hid (dcS s.data.toList t.data.toList ((0 : Nat) : Int) = ((decB n), 0)) := by
          unfold Hid
          rw [DC.out]
          have e1 := EQ.out
          rw [if_neg hneg, List.nil_append] at e1
          rw [show (⟨(dcT (tnR x y 0) 0).toArray⟩ : ByteArray) = (decB n) from ext_list (by rw [e1])]
        clear EQ DC hneg NEG FBT
        go_wp2_with fail
        go_ret2
        exact ⟨by rw [RS.out]; rfl, B8.out⟩
      · have hneg : tnR x y 0 < 0 := by have := NEG.out; simpa using this.symm
        obtain ⟨z5, hz5⟩ : ∃ z : ByteArray, ⟨#[45]⟩ ++ (decB n) = z := ⟨_, rfl⟩
        have RS : Hid (dcS s.data.toList t.data.toList ((0 : Nat) : Int) = (z5, 0)) := by
          unfold Hid
          rw [DC.out]
          have e1 := EQ.out
          rw [if_pos hneg] at e1
          rw [show (⟨(dcT (tnR x y 0) 0).toArray⟩ : ByteArray) = z5 from ext_list (by rw [← hz5, app_list, e1])]
        have q1 : ¬ (9223372036854775807 : Int) < 1 + (((decB n)).size : Int) := by have := YS.out; omega
        have q2 : ¬ 9223372036854775807 < 1 + ((decB n)).size := by have := YS.out; omega
        clear EQ DC hneg NEG FBT
        go_wp2_with fail
        go_ret2
        exact ⟨by rw [RS.out]; rfl, B8.out⟩
    · have e0' : (0 : Int) < (m : Int) := by omega
      obtain ⟨c0, hc0⟩ : ∃ c0, m + 1 - (Lib.decDigits n).length = c0 := ⟨_, rfl⟩
      have hcm : c0 ≤ 100 := by have := HM.out; omega
      have hmx : max ((m : Int) + 1 - ((decB n).size : Int)) 0 = (c0 : Int) := by omega
      have HRP := Lib.hid (repeat_z c0 w6 hcm)
      obtain ⟨zs, hzs⟩ : ∃ z : ByteArray, z = ⟨(List.replicate c0 48).toArray⟩ := ⟨_, rfl⟩
      rw [← hzs] at HRP
      obtain ⟨yy, hyy⟩ : ∃ z, zs ++ decB n = z := ⟨_, rfl⟩
      have hyl : yy.data.toList = List.replicate (m + 1 - (Lib.decDigits n).length) 48 ++ Lib.decDigits n := by rw [← hyy, app_list, hdl, hzs, hc0]
      obtain ⟨hysz, hyp⟩ := pad_is hyl
      have hzz : zs.size = c0 := by rw [hzs]; simp [ByteArray.size]
      have hy100 : yy.size ≤ 9000 := by have := DLN.out; omega
      have w1' : ¬ (9223372036854775807 : Int) < (zs.size : Int) + ((decB n).size : Int) := by have := DLN.out; omega
      have w2' : ¬ 9223372036854775807 < zs.size + (decB n).size := by have := DLN.out; omega
      have HYL := Lib.hid hyl
      have HYP := Lib.hid hyp
      have HYB := Lib.hid hy100
      have hm20 : m ≤ 20 := HM.out
      have hmw : IntKind.i64.wrap ((m : Int) + 1) = (m : Int) + 1 := by rw [IntKind.wrap_i64]; omega
      have hds9 : (decB n).size ≤ 9000 := by have := DLN.out; omega
      clear hds hdl hzs hyl hysz hyp hzz hy100 hc0 hcm
      go_wp2_with fail
      (refine HRP.out.mono ?_)
      rintro e w7 ⟨rfl, b7⟩
      have D8 := Lib.hid (D7.out.keep b7)
      have B8 := Lib.hid (B7.out.trans (b7.mono B7.out.size))
      obtain ⟨q, hq⟩ : ∃ q, yy.size - m = q := ⟨_, rfl⟩
      have hyp := HYP.out
      have hyb := HYB.out
      have hq1 : (yy.size : Int) - (m : Int) = (q : Int) := by omega
      have hq2 : q ≤ yy.size := by omega
      have hq3 : (q : Int) ≤ (yy.size : Int) := by omega
      have hqw : IntKind.i64.wrap (q : Int) = (q : Int) := by rw [IntKind.wrap_i64]; omega
      obtain ⟨u1, hu1⟩ : ∃ u, yy.extract 0 q = u := ⟨_, rfl⟩
      obtain ⟨u3, hu3⟩ : ∃ u, yy.extract q yy.size = u := ⟨_, rfl⟩
      obtain ⟨u2, hu2⟩ : ∃ u : ByteArray, u1 ++ ⟨#[46]⟩ = u := ⟨_, rfl⟩
      obtain ⟨u4, hu4⟩ : ∃ u : ByteArray, u2 ++ u3 = u := ⟨_, rfl⟩
      have s1 : u1.size = q := by rw [← hu1, ByteArray.size_extract]; omega
      have s3 : u3.size = m := by rw [← hu3, ByteArray.size_extract]; omega
      have s2 : u2.size = q + 1 := by rw [← hu2, ByteArray.size_append, s1]; rfl
      have s4 : u4.size = q + 1 + m := by rw [← hu4, ByteArray.size_append, s2, s3]
      have v1 : ¬ (9223372036854775807 : Int) < (u1.size : Int) + 1 := by omega
      have v2 : ¬ 9223372036854775807 < u1.size + 1 := by omega
      have v3 : ¬ (9223372036854775807 : Int) < (u2.size : Int) + (u3.size : Int) := by omega
      have v4 : ¬ 9223372036854775807 < u2.size + u3.size := by omega
      have YS : Hid (u4.size ≤ 10000) := by unfold Hid; omega
      have EQ : Hid (dcT (tnR x y m) m = (if tnR x y m < 0 then [45] else []) ++ u4.data.toList) := by
        unfold Hid
        have hy' := HYL.out
        rw [← TNA.out] at hy'
        rw [dcT_is hy', if_pos e0, hq, hu1, hu3, ← hu4, app_list, ← hu2, app_list, List.append_assoc, List.append_assoc, List.append_assoc]
      clear b7 D7 B7 HRP HYL HYP HYB s1 s2 s3 s4 hyp hyb hq
      go_wp2_with fail
      refine wp_region_noPanic ?_
      refine wp_region_held_drew (S := STr) (by kernel_rfl) trivial (fun hS => ?_)
      have D8 : Hid (B3 w7.drew g (.bool fb) (.slice a k c) (.slice a' k' c')) := D8.out.keep (bel_drewN _ 1)
      have B8 : Hid (Below w.heap.size w w7.drew) := B8.out.trans ((bel_drewN w7 1).mono B8.out.size)
      generalize w7.drew = W7 at *
      refine wpAnyH_take (i := 0) (v := ?v0z29) rfl (by kernel_rfl) (by kernel_rfl) (by kernel_rfl) (fun _ _ _ h => h) (Or.inl ⟨by rfl, ?hy0z29⟩) (by assumption) ?rest0z29
      case hy0z29 =>
        intro w hSw
        dsimp only [STr] at hSw
        go_simp
        try with_reducible rfl
      simp only [Act.put, List.getElem_toArray, List.getElem_cons_succ, List.getElem_cons_zero, List.setIfInBounds_toArray, List.set_cons_zero, List.set_cons_succ]
      refine wpAnyH_take (i := 1) (v := ?v1z30) rfl (by kernel_rfl) (by kernel_rfl) (by kernel_rfl) (fun _ _ _ h => h) (Or.inl ⟨by rfl, ?hy1z30⟩) (by assumption) ?rest1z30
      case hy1z30 =>
        intro w hSw
        dsimp only [STr] at hSw
        go_simp
        try with_reducible rfl
      simp only [Act.put, List.getElem_toArray, List.getElem_cons_succ, List.getElem_cons_zero, List.setIfInBounds_toArray, List.set_cons_zero, List.set_cons_succ]
      refine wpAnyH_take (i := 2) (v := ?v2z31) rfl (by kernel_rfl) (by kernel_rfl) (by kernel_rfl) (fun _ _ _ h => h) (Or.inl ⟨by rfl, ?hy2z31⟩) (by assumption) ?rest2z31
      case hy2z31 =>
        intro w hSw
        dsimp only [STr] at hSw
        go_simp
        try with_reducible rfl
      simp only [Act.put, List.getElem_toArray, List.getElem_cons_succ, List.getElem_cons_zero, List.setIfInBounds_toArray, List.set_cons_zero, List.set_cons_succ]
      refine wpAnyH_take (i := 3) (v := ?v3z32) rfl (by kernel_rfl) (by kernel_rfl) (by kernel_rfl) (fun _ _ _ h => h) (Or.inl ⟨by rfl, ?hy3z32⟩) (by assumption) ?rest3z32
      case hy3z32 =>
        intro w hSw
        dsimp only [STr] at hSw
        go_simp
        try with_reducible rfl
      simp only [Act.put, List.getElem_toArray, List.getElem_cons_succ, List.getElem_cons_zero, List.setIfInBounds_toArray, List.set_cons_zero, List.set_cons_succ]
      refine wpAnyH_take (i := 4) (v := ?v4z33) rfl (by kernel_rfl) (by kernel_rfl) (by kernel_rfl) (fun _ _ _ h => h) (Or.inl ⟨by rfl, ?hy4z33⟩) (by assumption) ?rest4z33
      case hy4z33 =>
        intro w hSw
        dsimp only [STr] at hSw
        go_simp
        try with_reducible rfl
      simp only [Act.put, List.getElem_toArray, List.getElem_cons_succ, List.getElem_cons_zero, List.setIfInBounds_toArray, List.set_cons_zero, List.set_cons_succ]
      refine wpAnyH_take (i := 5) (v := ?v5z34) rfl (by kernel_rfl) (by kernel_rfl) (by kernel_rfl) (fun _ _ _ h => h) (Or.inl ⟨by rfl, ?hy5z34⟩) (by assumption) ?rest5z34
      case hy5z34 =>
        intro w hSw
        dsimp only [STr] at hSw
        go_simp
        try with_reducible rfl
      simp only [Act.put, List.getElem_toArray, List.getElem_cons_succ, List.getElem_cons_zero, List.setIfInBounds_toArray, List.set_cons_zero, List.set_cons_succ]
      refine wpAnyH_take (i := 6) (v := ?v6z35) rfl (by kernel_rfl) (by kernel_rfl) (by kernel_rfl) (fun _ _ _ h => h) (Or.inl ⟨by rfl, ?hy6z35⟩) (by assumption) ?rest6z35
      case hy6z35 =>
        intro w hSw
        dsimp only [STr] at hSw
        go_simp
        try with_reducible rfl
      simp only [Act.put, List.getElem_toArray, List.getElem_cons_succ, List.getElem_cons_zero, List.setIfInBounds_toArray, List.set_cons_zero, List.set_cons_succ]
      refine wpAnyH_take (i := 7) (v := ?v7z36) rfl (by kernel_rfl) (by kernel_rfl) (by kernel_rfl) (fun _ _ _ h => h) (Or.inl ⟨by rfl, ?hy7z36⟩) (by assumption) ?rest7z36
      case hy7z36 =>
        intro w hSw
        dsimp only [STr] at hSw
        go_simp
        try with_reducible rfl
      simp only [Act.put, List.getElem_toArray, List.getElem_cons_succ, List.getElem_cons_zero, List.setIfInBounds_toArray, List.set_cons_zero, List.set_cons_succ]
      refine wpAnyH_take (i := 8) (v := ?v8z37) rfl (by kernel_rfl) (by kernel_rfl) (by kernel_rfl) (fun _ _ _ h => h) (Or.inl ⟨by rfl, ?hy8z37⟩) (by assumption) ?rest8z37
      case hy8z37 =>
        intro w hSw
        dsimp only [STr] at hSw
        go_simp
        try with_reducible rfl
      simp only [Act.put, List.getElem_toArray, List.getElem_cons_succ, List.getElem_cons_zero, List.setIfInBounds_toArray, List.set_cons_zero, List.set_cons_succ]
      refine wpAnyH_take (i := 9) (v := ?v9z38) rfl (by kernel_rfl) (by kernel_rfl) (by kernel_rfl) (fun _ _ _ h => h) (Or.inl ⟨by rfl, ?hy9z38⟩) (by assumption) ?rest9z38
      case hy9z38 =>
        intro w hSw
        dsimp only [STr] at hSw
        go_simp
        try with_reducible rfl
      simp only [Act.put, List.getElem_toArray, List.getElem_cons_succ, List.getElem_cons_zero, List.setIfInBounds_toArray, List.set_cons_zero, List.set_cons_succ]
      refine wpAnyH_take (i := 10) (v := ?v10z39) rfl (by kernel_rfl) (by kernel_rfl) (by kernel_rfl) (fun _ _ _ h => h) (Or.inl ⟨by rfl, ?hy10z39⟩) (by assumption) ?rest10z39
      case hy10z39 =>
        intro w hSw
        dsimp only [STr] at hSw
        go_simp
        try with_reducible rfl
      simp only [Act.put, List.getElem_toArray, List.getElem_cons_succ, List.getElem_cons_zero, List.setIfInBounds_toArray, List.set_cons_zero, List.set_cons_succ]
      refine wpAnyH_take (i := 11) (v := ?v11z40) rfl (by kernel_rfl) (by kernel_rfl) (by kernel_rfl) (fun _ _ _ h => h) (Or.inl ⟨by rfl, ?hy11z40⟩) (by assumption) ?rest11z40
      case hy11z40 =>
        intro w hSw
        dsimp only [STr] at hSw
        go_simp
        try with_reducible rfl
      simp only [Act.put, List.getElem_toArray, List.getElem_cons_succ, List.getElem_cons_zero, List.setIfInBounds_toArray, List.set_cons_zero, List.set_cons_succ]
      refine wpAnyH_take (i := 12) (v := ?v12z41) rfl (by kernel_rfl) (by kernel_rfl) (by kernel_rfl) (fun _ _ _ h => h) (Or.inl ⟨by rfl, ?hy12z41⟩) (by assumption) ?rest12z41
      case hy12z41 =>
        intro w hSw
        dsimp only [STr] at hSw
        go_simp
        try with_reducible rfl
      simp only [Act.put, List.getElem_toArray, List.getElem_cons_succ, List.getElem_cons_zero, List.setIfInBounds_toArray, List.set_cons_zero, List.set_cons_succ]
      refine wpAnyH_take (i := 13) (v := ?v13z42) rfl (by kernel_rfl) (by kernel_rfl) (by kernel_rfl) (fun _ _ _ h => h) (Or.inl ⟨by rfl, ?hy13z42⟩) (by assumption) ?rest13z42
      case hy13z42 =>
        intro w hSw
        dsimp only [STr] at hSw
        go_simp
        try with_reducible rfl
      simp only [Act.put, List.getElem_toArray, List.getElem_cons_succ, List.getElem_cons_zero, List.setIfInBounds_toArray, List.set_cons_zero, List.set_cons_succ]
      refine wpAnyH_take (i := 14) (v := ?v14z43) rfl (by kernel_rfl) (by kernel_rfl) (by kernel_rfl) (fun _ _ _ h => h) (Or.inl ⟨by rfl, ?hy14z43⟩) (by assumption) ?rest14z43
      case hy14z43 =>
        intro w hSw
        dsimp only [STr] at hSw
        go_simp
        try with_reducible rfl
      simp only [Act.put, List.getElem_toArray, List.getElem_cons_succ, List.getElem_cons_zero, List.setIfInBounds_toArray, List.set_cons_zero, List.set_cons_succ]
      refine wpAnyH_done (by kernel_rfl) ?_ _
      refine NoPanic.normal ?_
      clear hS
      clear hu1 hu3 hu2 hu4 v1 v2 v3 v4 hq1 hq2 hq3 hqw hmx w1' w2' hyy hmw hds9
      have NEG : Hid (fb = decide (tnR x y m < 0)) := FBT.out
      have g0 := D8.out.c0
      cases fb
      · have hneg : ¬ tnR x y m < 0 := by have := NEG.out; simpa using this.symm
        have RS : Hid (dcS s.data.toList t.data.toList (m : Int) = (u4, 0)) := by
          unfold Hid
          rw [DC.out]
          have e1 := EQ.out
          rw [if_neg hneg, List.nil_append] at e1
          rw [show (⟨(dcT (tnR x y m) m).toArray⟩ : ByteArray) = u4 from ext_list (by rw [e1])]
        clear EQ DC hneg NEG FBT
        go_wp2_with fail
        go_ret2
        exact ⟨by rw [RS.out]; rfl, B8.out⟩
      · have hneg : tnR x y m < 0 := by have := NEG.out; simpa using this.symm
        obtain ⟨z5, hz5⟩ : ∃ z : ByteArray, ⟨#[45]⟩ ++ u4 = z := ⟨_, rfl⟩
        have RS : Hid (dcS s.data.toList t.data.toList (m : Int) = (z5, 0)) := by
          unfold Hid
          rw [DC.out]
          have e1 := EQ.out
          rw [if_pos hneg] at e1
          rw [show (⟨(dcT (tnR x y m) m).toArray⟩ : ByteArray) = z5 from ext_list (by rw [← hz5, app_list, e1])]
        have q1 : ¬ (9223372036854775807 : Int) < 1 + ((u4).size : Int) := by have := YS.out; omega
        have q2 : ¬ 9223372036854775807 < 1 + (u4).size := by have := YS.out; omega
        clear EQ DC hneg NEG FBT
        go_wp2_with fail
        go_ret2
        exact ⟨by rw [RS.out]; rfl, B8.out⟩
  · obtain ⟨W0, hW0⟩ : ∃ W0, w.alloc (.cells #[.string s, .string t] 23) = W0 := ⟨_, rfl⟩
    have X0 : B2 W0 w.heap.size (.string s) (.string t) := by rw [← hW0]; exact B2.made _ _ _ _
    have HX0 := Lib.hid X0
    have B0 : Hid (Below w.heap.size w W0) := by rw [← hW0]; exact bel_one _ _
    have x0 := X0.c0
    have x1 := X0.c1
    clear X0
    go_enter Tryz.func20, Tryz.ntmps20
    go_wp2_with fail
    clear hW0 x0 x1
    (with_reducible refine (HC.out _ B0.out).mono ?_)
    rintro e w1 ⟨rfl, b1⟩
    obtain ⟨WA, hWA⟩ : ∃ W, w1.alloc (.cells #[.string ⟨#[]⟩, .string ⟨#[]⟩] 23) = W := ⟨_, rfl⟩
    have D1 : B2 WA w1.heap.size (.string ⟨#[]⟩) (.string ⟨#[]⟩) := by rw [← hWA]; exact B2.made _ _ _ _
    obtain ⟨WB, hWB⟩ : ∃ W, two WA w1.heap.size (.string r1) (.string r2) = W := ⟨_, rfl⟩
    have hb : Below w1.heap.size w1 WB := by rw [← hWB]; exact below_two (by rw [← hWA]; exact bel_one _ _) (Nat.le_refl _) _ _
    have a0 := D1.c0
    have a1 := D1.c1
    have af0 := D1.fr 0
    have af1 := D1.fr 1
    unfold two at hWB
    clear D1
    have hc := b1.trans (hb.mono b1.size)
    have B2' := Lib.hid (B0.out.trans (hc.mono B0.out.size))
    have X2 := Lib.hid (HX0.out.keep hc)
    clear hb hc b1 B0 HX0 HC
    have hne : (r3 == 0) = false := by rw [beq_eq_false_iff_ne]; exact hz
    have hne2 : (r3 != 0) = true := by simp [hz]
    have RS : Hid (dcS s.data.toList t.data.toList p = (⟨#[]⟩, r3)) := by
      unfold Hid
      rw [dc_no (by rw [HRN.out]; exact hz), HRN.out]
    clear hz HRN
    go_wp2_with fail
    go_ret2
    exact ⟨by rw [RS.out]; rfl, B2'.out⟩
end Go.Proofs.YtfijhkaalpinhaaGreatDoor
