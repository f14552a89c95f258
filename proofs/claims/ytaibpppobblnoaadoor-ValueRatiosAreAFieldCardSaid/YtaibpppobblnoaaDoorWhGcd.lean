/-
  Numbers of any size: the greatest common divisor.
-/
import Derived.Test.YtaibpppobblnoaaDoorWhSteps
import Derived.RegionTactic
import Derived.BigRegion
import Derived.Outline
import Derived.Deep.RegionHeld3
namespace Go.Proofs.YtaibpppobblnoaaDoor
open Go.RowKit

/-- The limb that lies at a place. -/
def limbAt (W : World) (p : Addr) : Nat := match W.cell? p with
  | some (.int _ x) => x.toNat
  | _ => 0
/-- The number that a slice is. -/
def numAt (W : World) (v : Value) : Nat := match v with
  | .slice (some p) k _ => S (fun j => limbAt W ⟨p.block, p.off + j, none⟩) k
  | _ => 0
theorem numAt_is {W : World} {a : Option Addr} {k c n : Nat} (h : Nm W a k c n) : numAt W (.slice a k c) = n := by
  obtain ⟨f, hr, _, _, _, hs, hp⟩ := h
  rw [← hs]
  rcases hp with ⟨rfl, _⟩ | ⟨b, off, rfl⟩
  · have hk : k = 0 := by
      rcases Nat.eq_zero_or_pos k with e | e
      · exact e
      · obtain ⟨b, off, he, _⟩ := hr.2.2 e
        cases he
    subst hk
    rfl
  · show S (fun j => limbAt W ⟨b, off + j, none⟩) k = S f k
    refine S_congr (fun j hj => ?_)
    obtain ⟨b', off', e, _, hc⟩ := hr.at_ hj
    injection e with e
    injection e with e1 e2
    subst e1 e2
    unfold limbAt
    rw [hc]
    simp
/-- The box of the steps, as the region reads it. -/
def CB (g : Nat) (a0 b0 a1 b1 : Nat) (odd made : Bool) (W : World) : Prop :=
  W.cell? ⟨g, 0, none⟩ = some (.int .u64 (a0 : Int)) ∧ W.cell? ⟨g, 1, none⟩ = some (.int .u64 (b0 : Int)) ∧ W.cell? ⟨g, 2, none⟩ = some (.int .u64 (a1 : Int)) ∧ W.cell? ⟨g, 3, none⟩ = some (.int .u64 (b1 : Int)) ∧ W.cell? ⟨g, 4, none⟩ = some (.bool odd) ∧ W.cell? ⟨g, 5, none⟩ = some (.bool made) ∧ Hid (g < W.heap.size)
theorem CB.keep {g a0 b0 a1 b1 : Nat} {odd made : Bool} {W W' : World} (h : CB g a0 b0 a1 b1 odd made W) (hb : Below W.heap.size W W') : CB g a0 b0 a1 b1 odd made W' := by
  obtain ⟨h0, h1, h2, h3, h4, h5, hl⟩ := h
  have c := fun (o : Nat) => hb.cell (p := ⟨g, o, none⟩) hl.out
  exact ⟨(c 0).trans h0, (c 1).trans h1, (c 2).trans h2, (c 3).trans h3, (c 4).trans h4, (c 5).trans h5, Nat.lt_of_lt_of_le hl.out hb.size⟩
/-- Where Euclid's algorithm is. -/
structure Euc (w : World) (n1 n2 : Nat) (pa pb : Option Addr) (ka ca kb cb x y : Nat) (W : World) : Prop where
  a : Nm W pa ka ca x
  b : Nm W pb kb cb y
  bel : Below w.heap.size w W
  gcd : Nat.gcd x y = Nat.gcd n1 n2
  le : y ≤ x
  lt : x < bp 2000
theorem Euc.keep {w : World} {n1 n2 : Nat} {pa pb : Option Addr} {ka ca kb cb x y : Nat} {W W' : World} (h : Euc w n1 n2 pa pb ka ca kb cb x y W) (hb : Below W.heap.size W W') : Euc w n1 n2 pa pb ka ca kb cb x y W' :=
  ⟨h.a.below hb, h.b.below hb, h.bel.trans (hb.mono h.bel.size), h.gcd, h.le, h.lt⟩
set_option maxRecDepth 100000 in
set_option maxHeartbeats 4000000 in
theorem common_c (p1 p2 : Option Addr) (k1 k2 c1 c2 n1 n2 : Nat) (w : World) (h1 : Nm w p1 k1 c1 n1) (h2 : Nm w p2 k2 c2 n2) (hn1 : n1 < bp 2000) (hn2 : n2 < bp 2000) :
    Calls Tryd.prog 34 #[.slice p1 k1 c1, .slice p2 k2 c2] w (NmPost (Nat.gcd n1 n2) w) := by
  have HC := Lib.hid (compare_c p1 p2 k1 k2 c1 c2 n1 n2 w h1 h2)
  have HS := Lib.hid (sgn_neg n1 n2)
  have H1 := Lib.hid h1
  have H2 := Lib.hid h2
  have N1 := Lib.hid hn1
  have N2 := Lib.hid hn2
  clear h1 h2 hn1 hn2
  by_cases hlt : n1 < n2
  · have hd : decide (sgn n1 n2 < 0) = true := by rw [HS.out]; simp [hlt]
    have HLT := Lib.hid hlt
    clear HS hlt
    generalize sgn n1 n2 = sg at *
    go_enter Tryd.func34, Tryd.ntmps34
    go_wp2_with fail
    refine HC.out.mono ?_
    rintro e w1 ⟨rfl, q, rfl⟩
    have I0 : Hid (Euc w n1 n2 p2 p1 k2 c2 k1 c1 n2 n1 (w.drewN q)) := ⟨H2.out.below (bel_drewN w q), H1.out.below (bel_drewN w q), bel_drewN w q, Nat.gcd_comm _ _, Nat.le_of_lt HLT.out, N2.out⟩
    clear HC H1 H2 N1 N2 HLT
    go_wp2_with fail
    clear hd
    go_loopw [0, 1] (fun va vb wr => ∃ (pa pb : Option Addr) (ka ca kb cb x y : Nat), va = .slice pa ka ca ∧ vb = .slice pb kb cb ∧ Hid (Euc w n1 n2 pa pb ka ca kb cb x y wr)) (fun _ vb W => numAt W vb)
    case atStart => exact ⟨p2, p1, k2, c2, k1, c1, n2, n1, rfl, rfl, I0.out⟩
    case round =>
      clear I0
      obtain ⟨pa, pb, ka, ca, kb, cb, x, y, rfl, rfl, hI⟩ := hrel
      by_cases hk : 1 < kb
      · have hk' : (1 : Int) < (kb : Int) := by omega
        have hkab : kb ≤ ka := by
          rcases Nat.lt_or_ge ka kb with l | l
          · have e1 := hI.out.a.lt
            have e2 := hI.out.b.pos (by omega)
            have e3 := bp_mono (show ka ≤ kb - 1 by omega)
            have := hI.out.le
            omega
          · exact l
        have hka := hI.out.a.len hI.out.lt
        obtain ⟨z, rfl⟩ : ∃ z, ka = z + 2 := ⟨ka - 2, by omega⟩
        have hy0 : Hid (0 < y) := by
          have e2 := hI.out.b.pos (by omega)
          have := bp_pos (kb - 1)
          unfold Hid; omega
        have ML := Lib.hid (numAt_is hI.out.b)
        have HS := Lib.hid (stepsOf_c pa pb z kb ca cb x y wr hI.out.a hI.out.b hI.out.le hkab (by omega))
        go_wp2_with fail
        (with_reducible refine HS.out.mono ?_)
        rintro e w4 ⟨a0, b0, a1, b1, odd, made, rfl, q0, q1, q2, q3, hok, b4⟩
        have I4 := Lib.hid (hI.out.keep b4)
        have OK := Lib.hid hok
        clear hok b4 hI HS
        obtain ⟨W20, hW20⟩ : ∃ W20, w4.alloc (.cells #[.int .u64 0, .int .u64 0, .int .u64 0, .int .u64 0, .bool false, .bool false] 80) = W20 := ⟨_, rfl⟩
        have X20 : SBox W20 w4.heap.size (.int .u64 0) (.int .u64 0) (.int .u64 0) (.int .u64 0) (.bool false) (.bool false) := by rw [← hW20]; exact SBox.made _ _ _ _ _ _ _ _
        have B20 : Below w4.heap.size w4 W20 := by rw [← hW20]; exact bel_one _ _
        obtain ⟨x0, x1, x2, x3, x4, x5, xf, xl⟩ := id X20
        obtain ⟨W3, hW3⟩ : ∃ W3, six W20 w4.heap.size (.int .u64 (a0 : Int)) (.int .u64 (b0 : Int)) (.int .u64 (a1 : Int)) (.int .u64 (b1 : Int)) (.bool odd) (.bool made) = W3 := ⟨_, rfl⟩
        have I3 : Hid (Euc w n1 n2 pa pb (z + 2) ca kb cb x y W3) := by
          have hb : Below w4.heap.size w4 W3 := by rw [← hW3]; exact below_six B20 (Nat.le_refl _) _ _ _ _ _ _
          exact I4.out.keep hb
        have X3 : SBox W3 w4.heap.size (.int .u64 (a0 : Int)) (.int .u64 (b0 : Int)) (.int .u64 (a1 : Int)) (.int .u64 (b1 : Int)) (.bool odd) (.bool made) := by rw [← hW3]; exact X20.set _ _ _ _ _ _
        have hCB : CB w4.heap.size a0 b0 a1 b1 odd made W3 := ⟨X3.c0, X3.c1, X3.c2, X3.c3, X3.c4, X3.c5, X3.lt⟩
        have f0 := xf 0
        have f1 := xf 1
        have f2 := xf 2
        have f3 := xf 3
        have f4 := xf 4
        have f5 := xf 5
        have m5 := X3.c5
        have HCB := Lib.hid hCB
        clear X20 B20 xf xl I4 X3 hCB
        unfold six at hW3
        cases made
        · clear OK HCB
          go_wp2_with fail
          clear hW3 hW20 x0 x1 x2 x3 x4 x5 f0 f1 f2 f3 f4 f5 m5
          (with_reducible refine (divide_c pa pb (z + 2) kb ca cb x y W3 I3.out.a I3.out.b hy0.out (Nat.lt_of_lt_of_le I3.out.lt (bp_mono (by decide)))).mono ?_)
          rintro e w6 ⟨qa, qk, qc, ra, rk, rc, rfl, _, l2, b6⟩
          have NX : Hid (Euc w n1 n2 pb ra kb cb rk rc y (x % y) w6) := by
            have h := I3.out.keep b6
            refine ⟨h.b, l2, h.bel, ?_, Nat.le_of_lt (Nat.mod_lt _ hy0.out), Nat.lt_of_le_of_lt h.le h.lt⟩
            rw [← h.gcd, Nat.gcd_comm y, ← Nat.gcd_rec, Nat.gcd_comm]
          clear l2 b6 I3
          go_wp2_with fail
          go_roundw
          case rel => exact ⟨pb, ra, kb, cb, rk, rc, y, x % y, rfl, rfl, NX.out⟩
          case measure => rw [numAt_is NX.out.b, ML.out]; exact Nat.mod_lt _ hy0.out
        · obtain ⟨a', b', hcm, hlt, hle, hg⟩ := OK.out rfl
          have HM1 : Hid (if odd then b0 * y = a0 * x + a' else a0 * x = b0 * y + a') := by
            cases odd
            · simp only [Cmb, Bool.false_eq_true, if_false] at hcm ⊢; exact hcm.1
            · simp only [Cmb, if_true] at hcm ⊢; exact hcm.1
          have HM2 : Hid (if odd then a1 * x = b1 * y + b' else b1 * y = a1 * x + b') := by
            cases odd
            · simp only [Cmb, Bool.false_eq_true, if_false] at hcm ⊢; exact hcm.2
            · simp only [Cmb, if_true] at hcm ⊢; exact hcm.2
          have HLT := Lib.hid hlt
          have HLE := Lib.hid hle
          have HG := Lib.hid hg
          clear hcm hlt hle hg OK
          go_wp2_with fail
          clear hW3 hW20 x0 x1 x2 x3 x4 x5 f0 f1 f2 f3 f4 f5 m5
          refine wp_region_noPanic ?_
          refine wp_region_held_drew (S := CB w4.heap.size a0 b0 a1 b1 odd true) (by kernel_rfl) (HCB.out.keep (Below.refl _ _).drew) (fun hS => ?_)
          have hE := Lib.hid (I3.out.keep (Below.refl _ _).drew)
          clear HCB
          refine wpAnyH_take (i := 0) (v := ?v0z1) rfl (by kernel_rfl) (by kernel_rfl) (by kernel_rfl) (fun _ _ _ h => h) (Or.inl ⟨by rfl, ?hy0z1⟩) (by assumption) ?rest0z1
          case hy0z1 =>
            intro w hSw
            dsimp only [CB] at hSw
            go_simp
            try with_reducible rfl
          simp only [Act.put, List.getElem_toArray, List.getElem_cons_succ, List.getElem_cons_zero, List.setIfInBounds_toArray, List.set_cons_zero, List.set_cons_succ]
          refine wpAnyH_take (i := 1) (v := ?v1z2) rfl (by kernel_rfl) (by kernel_rfl) (by kernel_rfl) (fun _ _ _ h => h) (Or.inl ⟨by rfl, ?hy1z2⟩) (by assumption) ?rest1z2
          case hy1z2 =>
            intro w hSw
            dsimp only [CB] at hSw
            go_simp
            try with_reducible rfl
          simp only [Act.put, List.getElem_toArray, List.getElem_cons_succ, List.getElem_cons_zero, List.setIfInBounds_toArray, List.set_cons_zero, List.set_cons_succ]
          refine wpAnyH_take (i := 2) (v := ?v2z3) rfl (by kernel_rfl) (by kernel_rfl) (by kernel_rfl) (fun _ _ _ h => h) (Or.inl ⟨by rfl, ?hy2z3⟩) (by assumption) ?rest2z3
          case hy2z3 =>
            intro w hSw
            dsimp only [CB] at hSw
            go_simp
            try with_reducible rfl
          simp only [Act.put, List.getElem_toArray, List.getElem_cons_succ, List.getElem_cons_zero, List.setIfInBounds_toArray, List.set_cons_zero, List.set_cons_succ]
          refine wpAnyH_take (i := 4) (v := ?v4z4) rfl (by kernel_rfl) (by kernel_rfl) (by kernel_rfl) (fun _ _ _ h => h) (Or.inl ⟨by rfl, ?hy4z4⟩) (by assumption) ?rest4z4
          case hy4z4 =>
            intro w hSw
            dsimp only [CB] at hSw
            go_simp
            try with_reducible rfl
          simp only [Act.put, List.getElem_toArray, List.getElem_cons_succ, List.getElem_cons_zero, List.setIfInBounds_toArray, List.set_cons_zero, List.set_cons_succ]
          refine wpAnyH_take (i := 5) (v := ?v5z5) rfl (by kernel_rfl) (by kernel_rfl) (by kernel_rfl) (fun _ _ _ h => h) (Or.inl ⟨by rfl, ?hy5z5⟩) (by assumption) ?rest5z5
          case hy5z5 =>
            intro w hSw
            dsimp only [CB] at hSw
            go_simp
            try with_reducible rfl
          simp only [Act.put, List.getElem_toArray, List.getElem_cons_succ, List.getElem_cons_zero, List.setIfInBounds_toArray, List.set_cons_zero, List.set_cons_succ]
          refine wpAnyH_take (i := 6) (v := ?v6z6) rfl (by kernel_rfl) (by kernel_rfl) (by kernel_rfl) (fun _ _ _ h => h) (Or.inl ⟨by rfl, ?hy6z6⟩) (by assumption) ?rest6z6
          case hy6z6 =>
            intro w hSw
            dsimp only [CB] at hSw
            go_simp
            try with_reducible rfl
          simp only [Act.put, List.getElem_toArray, List.getElem_cons_succ, List.getElem_cons_zero, List.setIfInBounds_toArray, List.set_cons_zero, List.set_cons_succ]
          refine wpAnyH_ready (rs := [3]) (by kernel_rfl) (by simp) ?_
          refine AllReadyH.cons rfl (fun K hK => ?_) AllReadyH.nil
          go_simp
          refine (first_c odd a0 b0 a1 b1 true pa pb (z + 2) kb ca cb x y a' _ hE.out.a hE.out.b hE.out.lt (Nat.lt_of_le_of_lt hE.out.le hE.out.lt) q0 q1 HM1.out).mono ?_
          rintro e w5 ⟨ga, gk, gc, rfl, l5, b5⟩
          try go_simp
          have hT := hS.keep b5
          have hE5 := Lib.hid (hE.out.keep b5)
          have L5 := Lib.hid l5
          refine hK.out _ _ hT (fun _ => ?_)
          clear hK K hS b5 l5 hE I3
          have hS := hT
          clear hT
          try simp only [Act.put, List.setIfInBounds_toArray, List.set_cons_zero, List.set_cons_succ]
          refine wpAnyH_ready (rs := [7]) (by kernel_rfl) (by simp) ?_
          refine AllReadyH.cons rfl (fun K hK => ?_) AllReadyH.nil
          go_simp
          refine (second_c odd a0 b0 a1 b1 true pa pb (z + 2) kb ca cb x y b' _ hE5.out.a hE5.out.b hE5.out.lt (Nat.lt_of_le_of_lt hE5.out.le hE5.out.lt) q2 q3 HM2.out).mono ?_
          rintro e w6 ⟨ha, hk2, hc, rfl, l6, b6⟩
          try go_simp
          have hT := hS.keep b6
          have NX : Hid (Euc w n1 n2 ga ha gk gc hk2 hc a' b' w6) := by
            have h := hE5.out.keep b6
            refine ⟨L5.out.below b6, l6, h.bel, by rw [HG.out, h.gcd], Nat.le_of_lt HLT.out, ?_⟩
            have := HLE.out
            have := h.le
            have := h.lt
            omega
          refine hK.out _ _ hT (fun _ => ?_)
          clear hK K hS b6 l6 hE5 L5
          have hS := hT
          clear hT
          try simp only [Act.put, List.setIfInBounds_toArray, List.set_cons_zero, List.set_cons_succ]
          refine wpAnyH_take (i := 8) (v := ?v8z7) rfl (by kernel_rfl) (by kernel_rfl) (by kernel_rfl) (fun _ _ _ h => h) (Or.inl ⟨by rfl, ?hy8z7⟩) (by assumption) ?rest8z7
          case hy8z7 =>
            intro w hSw
            dsimp only [CB] at hSw
            go_simp
            try with_reducible rfl
          simp only [Act.put, List.getElem_toArray, List.getElem_cons_succ, List.getElem_cons_zero, List.setIfInBounds_toArray, List.set_cons_zero, List.set_cons_succ]
          refine wpAnyH_take (i := 9) (v := ?v9z8) rfl (by kernel_rfl) (by kernel_rfl) (by kernel_rfl) (fun _ _ _ h => h) (Or.inl ⟨by rfl, ?hy9z8⟩) (by assumption) ?rest9z8
          case hy9z8 =>
            intro w hSw
            dsimp only [CB] at hSw
            go_simp
            try with_reducible rfl
          simp only [Act.put, List.getElem_toArray, List.getElem_cons_succ, List.getElem_cons_zero, List.setIfInBounds_toArray, List.set_cons_zero, List.set_cons_succ]
          refine wpAnyH_done (by kernel_rfl) ?_ _
          refine NoPanic.normal ?_
          clear hS
          go_wp2_with fail
          go_roundw
          case rel => exact ⟨ga, ha, gk, gc, hk2, hc, a', b', rfl, rfl, NX.out⟩
          case measure => rw [numAt_is NX.out.b, ML.out]; have := HLT.out; have := HLE.out; omega
      · have hk' : ¬ (1 : Int) < (kb : Int) := by omega
        rcases Nat.eq_zero_or_pos kb with e | e
        · subst e
          have R : Hid (NmPost (Nat.gcd n1 n2) w (.returned (.slice pa ka ca)) wr) := by
            have h := hI.out
            have hb := h.b
            have hy : y = 0 := by have := hb.lt; rw [bp_zero] at this; omega
            refine ⟨_, _, _, rfl, ?_, h.bel⟩
            have hg := h.gcd
            rw [hy, Nat.gcd_zero_right] at hg
            rw [← hg]; exact h.a
          clear hI
          go_wp2
          go_ret
          exact R.out
        · obtain rfl : kb = 1 := by omega
          obtain ⟨fb, rb, _, _, tb, sb, _⟩ := hI.out.b
          obtain ⟨bb, ob, rfl, hbb, hcb⟩ := rb.at_ (show 0 < 1 by omega)
          rw [S_one] at sb
          have hlim := rb.2.1 0 (by omega)
          have hpos : 0 < y := by
            rcases tb with e | e
            · omega
            · simp at e; omega
          rw [sb] at hcb hlim
          rw [Nat.add_zero] at hcb
          have HP := Lib.hid hpos
          have HBB := Lib.hid hbb
          have HCC := Lib.hid hcb
          have HD := Lib.hid (divideShort_c pa ka ca x y wr hI.out.a hpos hlim)
          clear rb tb sb hpos hbb
          go_wp2_with fail
          (with_reducible refine HD.out.mono ?_)
          rintro e w6 ⟨qa, qk, qc, r, rfl, hr, _, b6⟩
          have hc6 : w6.cell? ⟨bb, ob, none⟩ = some (.int .u64 (y : Int)) := by rw [b6.cell (p := ⟨bb, ob, none⟩) HBB.out]; exact HCC.out
          have B6 := Lib.hid (hI.out.bel.trans (b6.mono hI.out.bel.size))
          have hrb : r < 18446744073709551616 := by rw [hr]; have := Nat.mod_lt x HP.out; omega
          have HG : Hid (Nat.gcd y r = Nat.gcd n1 n2) := by unfold Hid; rw [hr, ← hI.out.gcd, Nat.gcd_comm y, ← Nat.gcd_rec, Nat.gcd_comm]
          clear b6 hr HCC HBB HD hI hcb
          go_wp2_with fail
          (with_reducible refine (commonLimb_c y r w6 hlim hrb (.inl HP.out)).mono ?_)
          rintro e w7 ⟨g, rfl, hg, hgb, qq, rfl⟩
          have R : Hid (NmPost (Nat.gcd n1 n2) w (.returned (.slice (some ⟨(w6.drewN qq).heap.size, 0, none⟩) 1 1)) ((w6.drewN qq).alloc (.cells #[.int .u64 g] 59))) := by
            refine ⟨_, _, _, rfl, ⟨fun _ => g, built_one _ g hgb, by omega, by omega, .inr ?_, ?_, Pl.some_ _ _⟩, ?_⟩
            · have hp := Nat.gcd_pos_of_pos_left r HP.out
              rw [← hg] at hp
              show g ≠ 0
              omega
            · rw [S_one, hg, HG.out]
            · exact (B6.out.trans ((bel_drewN w6 qq).mono B6.out.size)).alloc (by have := B6.out.size; simpa using this) _
          clear hg
          generalize w6.drewN qq = w8 at *
          go_wp2
          go_ret
          exact R.out
  · have hd : decide (sgn n1 n2 < 0) = false := by rw [HS.out]; simp [hlt]
    have HLE : Hid (n2 ≤ n1) := by unfold Hid; omega
    clear HS hlt
    generalize sgn n1 n2 = sg at *
    go_enter Tryd.func34, Tryd.ntmps34
    go_wp2_with fail
    refine HC.out.mono ?_
    rintro e w1 ⟨rfl, q, rfl⟩
    have I0 : Hid (Euc w n1 n2 p1 p2 k1 c1 k2 c2 n1 n2 (w.drewN q)) := ⟨H1.out.below (bel_drewN w q), H2.out.below (bel_drewN w q), bel_drewN w q, rfl, HLE.out, N1.out⟩
    clear HC H1 H2 N1 N2 HLE
    go_wp2_with fail
    clear hd
    go_loopw [0, 1] (fun va vb wr => ∃ (pa pb : Option Addr) (ka ca kb cb x y : Nat), va = .slice pa ka ca ∧ vb = .slice pb kb cb ∧ Hid (Euc w n1 n2 pa pb ka ca kb cb x y wr)) (fun _ vb W => numAt W vb)
    case atStart => exact ⟨p1, p2, k1, c1, k2, c2, n1, n2, rfl, rfl, I0.out⟩
    case round =>
      clear I0
      obtain ⟨pa, pb, ka, ca, kb, cb, x, y, rfl, rfl, hI⟩ := hrel
      by_cases hk : 1 < kb
      · have hk' : (1 : Int) < (kb : Int) := by omega
        have hkab : kb ≤ ka := by
          rcases Nat.lt_or_ge ka kb with l | l
          · have e1 := hI.out.a.lt
            have e2 := hI.out.b.pos (by omega)
            have e3 := bp_mono (show ka ≤ kb - 1 by omega)
            have := hI.out.le
            omega
          · exact l
        have hka := hI.out.a.len hI.out.lt
        obtain ⟨z, rfl⟩ : ∃ z, ka = z + 2 := ⟨ka - 2, by omega⟩
        have hy0 : Hid (0 < y) := by
          have e2 := hI.out.b.pos (by omega)
          have := bp_pos (kb - 1)
          unfold Hid; omega
        have ML := Lib.hid (numAt_is hI.out.b)
        have HS := Lib.hid (stepsOf_c pa pb z kb ca cb x y wr hI.out.a hI.out.b hI.out.le hkab (by omega))
        go_wp2_with fail
        (with_reducible refine HS.out.mono ?_)
        rintro e w4 ⟨a0, b0, a1, b1, odd, made, rfl, q0, q1, q2, q3, hok, b4⟩
        have I4 := Lib.hid (hI.out.keep b4)
        have OK := Lib.hid hok
        clear hok b4 hI HS
        obtain ⟨W20, hW20⟩ : ∃ W20, w4.alloc (.cells #[.int .u64 0, .int .u64 0, .int .u64 0, .int .u64 0, .bool false, .bool false] 80) = W20 := ⟨_, rfl⟩
        have X20 : SBox W20 w4.heap.size (.int .u64 0) (.int .u64 0) (.int .u64 0) (.int .u64 0) (.bool false) (.bool false) := by rw [← hW20]; exact SBox.made _ _ _ _ _ _ _ _
        have B20 : Below w4.heap.size w4 W20 := by rw [← hW20]; exact bel_one _ _
        obtain ⟨x0, x1, x2, x3, x4, x5, xf, xl⟩ := id X20
        obtain ⟨W3, hW3⟩ : ∃ W3, six W20 w4.heap.size (.int .u64 (a0 : Int)) (.int .u64 (b0 : Int)) (.int .u64 (a1 : Int)) (.int .u64 (b1 : Int)) (.bool odd) (.bool made) = W3 := ⟨_, rfl⟩
        have I3 : Hid (Euc w n1 n2 pa pb (z + 2) ca kb cb x y W3) := by
          have hb : Below w4.heap.size w4 W3 := by rw [← hW3]; exact below_six B20 (Nat.le_refl _) _ _ _ _ _ _
          exact I4.out.keep hb
        have X3 : SBox W3 w4.heap.size (.int .u64 (a0 : Int)) (.int .u64 (b0 : Int)) (.int .u64 (a1 : Int)) (.int .u64 (b1 : Int)) (.bool odd) (.bool made) := by rw [← hW3]; exact X20.set _ _ _ _ _ _
        have hCB : CB w4.heap.size a0 b0 a1 b1 odd made W3 := ⟨X3.c0, X3.c1, X3.c2, X3.c3, X3.c4, X3.c5, X3.lt⟩
        have f0 := xf 0
        have f1 := xf 1
        have f2 := xf 2
        have f3 := xf 3
        have f4 := xf 4
        have f5 := xf 5
        have m5 := X3.c5
        have HCB := Lib.hid hCB
        clear X20 B20 xf xl I4 X3 hCB
        unfold six at hW3
        cases made
        · clear OK HCB
          go_wp2_with fail
          clear hW3 hW20 x0 x1 x2 x3 x4 x5 f0 f1 f2 f3 f4 f5 m5
          (with_reducible refine (divide_c pa pb (z + 2) kb ca cb x y W3 I3.out.a I3.out.b hy0.out (Nat.lt_of_lt_of_le I3.out.lt (bp_mono (by decide)))).mono ?_)
          rintro e w6 ⟨qa, qk, qc, ra, rk, rc, rfl, _, l2, b6⟩
          have NX : Hid (Euc w n1 n2 pb ra kb cb rk rc y (x % y) w6) := by
            have h := I3.out.keep b6
            refine ⟨h.b, l2, h.bel, ?_, Nat.le_of_lt (Nat.mod_lt _ hy0.out), Nat.lt_of_le_of_lt h.le h.lt⟩
            rw [← h.gcd, Nat.gcd_comm y, ← Nat.gcd_rec, Nat.gcd_comm]
          clear l2 b6 I3
          go_wp2_with fail
          go_roundw
          case rel => exact ⟨pb, ra, kb, cb, rk, rc, y, x % y, rfl, rfl, NX.out⟩
          case measure => rw [numAt_is NX.out.b, ML.out]; exact Nat.mod_lt _ hy0.out
        · obtain ⟨a', b', hcm, hlt, hle, hg⟩ := OK.out rfl
          have HM1 : Hid (if odd then b0 * y = a0 * x + a' else a0 * x = b0 * y + a') := by
            cases odd
            · simp only [Cmb, Bool.false_eq_true, if_false] at hcm ⊢; exact hcm.1
            · simp only [Cmb, if_true] at hcm ⊢; exact hcm.1
          have HM2 : Hid (if odd then a1 * x = b1 * y + b' else b1 * y = a1 * x + b') := by
            cases odd
            · simp only [Cmb, Bool.false_eq_true, if_false] at hcm ⊢; exact hcm.2
            · simp only [Cmb, if_true] at hcm ⊢; exact hcm.2
          have HLT := Lib.hid hlt
          have HLE := Lib.hid hle
          have HG := Lib.hid hg
          clear hcm hlt hle hg OK
          go_wp2_with fail
          clear hW3 hW20 x0 x1 x2 x3 x4 x5 f0 f1 f2 f3 f4 f5 m5
          refine wp_region_noPanic ?_
          refine wp_region_held_drew (S := CB w4.heap.size a0 b0 a1 b1 odd true) (by kernel_rfl) (HCB.out.keep (Below.refl _ _).drew) (fun hS => ?_)
          have hE := Lib.hid (I3.out.keep (Below.refl _ _).drew)
          clear HCB
          refine wpAnyH_take (i := 0) (v := ?v0z9) rfl (by kernel_rfl) (by kernel_rfl) (by kernel_rfl) (fun _ _ _ h => h) (Or.inl ⟨by rfl, ?hy0z9⟩) (by assumption) ?rest0z9
          case hy0z9 =>
            intro w hSw
            dsimp only [CB] at hSw
            go_simp
            try with_reducible rfl
          simp only [Act.put, List.getElem_toArray, List.getElem_cons_succ, List.getElem_cons_zero, List.setIfInBounds_toArray, List.set_cons_zero, List.set_cons_succ]
          refine wpAnyH_take (i := 1) (v := ?v1z10) rfl (by kernel_rfl) (by kernel_rfl) (by kernel_rfl) (fun _ _ _ h => h) (Or.inl ⟨by rfl, ?hy1z10⟩) (by assumption) ?rest1z10
          case hy1z10 =>
            intro w hSw
            dsimp only [CB] at hSw
            go_simp
            try with_reducible rfl
          simp only [Act.put, List.getElem_toArray, List.getElem_cons_succ, List.getElem_cons_zero, List.setIfInBounds_toArray, List.set_cons_zero, List.set_cons_succ]
          refine wpAnyH_take (i := 2) (v := ?v2z11) rfl (by kernel_rfl) (by kernel_rfl) (by kernel_rfl) (fun _ _ _ h => h) (Or.inl ⟨by rfl, ?hy2z11⟩) (by assumption) ?rest2z11
          case hy2z11 =>
            intro w hSw
            dsimp only [CB] at hSw
            go_simp
            try with_reducible rfl
          simp only [Act.put, List.getElem_toArray, List.getElem_cons_succ, List.getElem_cons_zero, List.setIfInBounds_toArray, List.set_cons_zero, List.set_cons_succ]
          refine wpAnyH_take (i := 4) (v := ?v4z12) rfl (by kernel_rfl) (by kernel_rfl) (by kernel_rfl) (fun _ _ _ h => h) (Or.inl ⟨by rfl, ?hy4z12⟩) (by assumption) ?rest4z12
          case hy4z12 =>
            intro w hSw
            dsimp only [CB] at hSw
            go_simp
            try with_reducible rfl
          simp only [Act.put, List.getElem_toArray, List.getElem_cons_succ, List.getElem_cons_zero, List.setIfInBounds_toArray, List.set_cons_zero, List.set_cons_succ]
          refine wpAnyH_take (i := 5) (v := ?v5z13) rfl (by kernel_rfl) (by kernel_rfl) (by kernel_rfl) (fun _ _ _ h => h) (Or.inl ⟨by rfl, ?hy5z13⟩) (by assumption) ?rest5z13
          case hy5z13 =>
            intro w hSw
            dsimp only [CB] at hSw
            go_simp
            try with_reducible rfl
          simp only [Act.put, List.getElem_toArray, List.getElem_cons_succ, List.getElem_cons_zero, List.setIfInBounds_toArray, List.set_cons_zero, List.set_cons_succ]
          refine wpAnyH_take (i := 6) (v := ?v6z14) rfl (by kernel_rfl) (by kernel_rfl) (by kernel_rfl) (fun _ _ _ h => h) (Or.inl ⟨by rfl, ?hy6z14⟩) (by assumption) ?rest6z14
          case hy6z14 =>
            intro w hSw
            dsimp only [CB] at hSw
            go_simp
            try with_reducible rfl
          simp only [Act.put, List.getElem_toArray, List.getElem_cons_succ, List.getElem_cons_zero, List.setIfInBounds_toArray, List.set_cons_zero, List.set_cons_succ]
          refine wpAnyH_ready (rs := [3]) (by kernel_rfl) (by simp) ?_
          refine AllReadyH.cons rfl (fun K hK => ?_) AllReadyH.nil
          go_simp
          refine (first_c odd a0 b0 a1 b1 true pa pb (z + 2) kb ca cb x y a' _ hE.out.a hE.out.b hE.out.lt (Nat.lt_of_le_of_lt hE.out.le hE.out.lt) q0 q1 HM1.out).mono ?_
          rintro e w5 ⟨ga, gk, gc, rfl, l5, b5⟩
          try go_simp
          have hT := hS.keep b5
          have hE5 := Lib.hid (hE.out.keep b5)
          have L5 := Lib.hid l5
          refine hK.out _ _ hT (fun _ => ?_)
          clear hK K hS b5 l5 hE I3
          have hS := hT
          clear hT
          try simp only [Act.put, List.setIfInBounds_toArray, List.set_cons_zero, List.set_cons_succ]
          refine wpAnyH_ready (rs := [7]) (by kernel_rfl) (by simp) ?_
          refine AllReadyH.cons rfl (fun K hK => ?_) AllReadyH.nil
          go_simp
          refine (second_c odd a0 b0 a1 b1 true pa pb (z + 2) kb ca cb x y b' _ hE5.out.a hE5.out.b hE5.out.lt (Nat.lt_of_le_of_lt hE5.out.le hE5.out.lt) q2 q3 HM2.out).mono ?_
          rintro e w6 ⟨ha, hk2, hc, rfl, l6, b6⟩
          try go_simp
          have hT := hS.keep b6
          have NX : Hid (Euc w n1 n2 ga ha gk gc hk2 hc a' b' w6) := by
            have h := hE5.out.keep b6
            refine ⟨L5.out.below b6, l6, h.bel, by rw [HG.out, h.gcd], Nat.le_of_lt HLT.out, ?_⟩
            have := HLE.out
            have := h.le
            have := h.lt
            omega
          refine hK.out _ _ hT (fun _ => ?_)
          clear hK K hS b6 l6 hE5 L5
          have hS := hT
          clear hT
          try simp only [Act.put, List.setIfInBounds_toArray, List.set_cons_zero, List.set_cons_succ]
          refine wpAnyH_take (i := 8) (v := ?v8z15) rfl (by kernel_rfl) (by kernel_rfl) (by kernel_rfl) (fun _ _ _ h => h) (Or.inl ⟨by rfl, ?hy8z15⟩) (by assumption) ?rest8z15
          case hy8z15 =>
            intro w hSw
            dsimp only [CB] at hSw
            go_simp
            try with_reducible rfl
          simp only [Act.put, List.getElem_toArray, List.getElem_cons_succ, List.getElem_cons_zero, List.setIfInBounds_toArray, List.set_cons_zero, List.set_cons_succ]
          refine wpAnyH_take (i := 9) (v := ?v9z16) rfl (by kernel_rfl) (by kernel_rfl) (by kernel_rfl) (fun _ _ _ h => h) (Or.inl ⟨by rfl, ?hy9z16⟩) (by assumption) ?rest9z16
          case hy9z16 =>
            intro w hSw
            dsimp only [CB] at hSw
            go_simp
            try with_reducible rfl
          simp only [Act.put, List.getElem_toArray, List.getElem_cons_succ, List.getElem_cons_zero, List.setIfInBounds_toArray, List.set_cons_zero, List.set_cons_succ]
          refine wpAnyH_done (by kernel_rfl) ?_ _
          refine NoPanic.normal ?_
          clear hS
          go_wp2_with fail
          go_roundw
          case rel => exact ⟨ga, ha, gk, gc, hk2, hc, a', b', rfl, rfl, NX.out⟩
          case measure => rw [numAt_is NX.out.b, ML.out]; have := HLT.out; have := HLE.out; omega
      · have hk' : ¬ (1 : Int) < (kb : Int) := by omega
        rcases Nat.eq_zero_or_pos kb with e | e
        · subst e
          have R : Hid (NmPost (Nat.gcd n1 n2) w (.returned (.slice pa ka ca)) wr) := by
            have h := hI.out
            have hb := h.b
            have hy : y = 0 := by have := hb.lt; rw [bp_zero] at this; omega
            refine ⟨_, _, _, rfl, ?_, h.bel⟩
            have hg := h.gcd
            rw [hy, Nat.gcd_zero_right] at hg
            rw [← hg]; exact h.a
          clear hI
          go_wp2
          go_ret
          exact R.out
        · obtain rfl : kb = 1 := by omega
          obtain ⟨fb, rb, _, _, tb, sb, _⟩ := hI.out.b
          obtain ⟨bb, ob, rfl, hbb, hcb⟩ := rb.at_ (show 0 < 1 by omega)
          rw [S_one] at sb
          have hlim := rb.2.1 0 (by omega)
          have hpos : 0 < y := by
            rcases tb with e | e
            · omega
            · simp at e; omega
          rw [sb] at hcb hlim
          rw [Nat.add_zero] at hcb
          have HP := Lib.hid hpos
          have HBB := Lib.hid hbb
          have HCC := Lib.hid hcb
          have HD := Lib.hid (divideShort_c pa ka ca x y wr hI.out.a hpos hlim)
          clear rb tb sb hpos hbb
          go_wp2_with fail
          (with_reducible refine HD.out.mono ?_)
          rintro e w6 ⟨qa, qk, qc, r, rfl, hr, _, b6⟩
          have hc6 : w6.cell? ⟨bb, ob, none⟩ = some (.int .u64 (y : Int)) := by rw [b6.cell (p := ⟨bb, ob, none⟩) HBB.out]; exact HCC.out
          have B6 := Lib.hid (hI.out.bel.trans (b6.mono hI.out.bel.size))
          have hrb : r < 18446744073709551616 := by rw [hr]; have := Nat.mod_lt x HP.out; omega
          have HG : Hid (Nat.gcd y r = Nat.gcd n1 n2) := by unfold Hid; rw [hr, ← hI.out.gcd, Nat.gcd_comm y, ← Nat.gcd_rec, Nat.gcd_comm]
          clear b6 hr HCC HBB HD hI hcb
          go_wp2_with fail
          (with_reducible refine (commonLimb_c y r w6 hlim hrb (.inl HP.out)).mono ?_)
          rintro e w7 ⟨g, rfl, hg, hgb, qq, rfl⟩
          have R : Hid (NmPost (Nat.gcd n1 n2) w (.returned (.slice (some ⟨(w6.drewN qq).heap.size, 0, none⟩) 1 1)) ((w6.drewN qq).alloc (.cells #[.int .u64 g] 59))) := by
            refine ⟨_, _, _, rfl, ⟨fun _ => g, built_one _ g hgb, by omega, by omega, .inr ?_, ?_, Pl.some_ _ _⟩, ?_⟩
            · have hp := Nat.gcd_pos_of_pos_left r HP.out
              rw [← hg] at hp
              show g ≠ 0
              omega
            · rw [S_one, hg, HG.out]
            · exact (B6.out.trans ((bel_drewN w6 qq).mono B6.out.size)).alloc (by have := B6.out.size; simpa using this) _
          clear hg
          generalize w6.drewN qq = w8 at *
          go_wp2
          go_ret
          exact R.out
end Go.Proofs.YtaibpppobblnoaaDoor
