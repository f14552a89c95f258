/-
  Numbers of any size: the greatest common divisor.
  Whole numbers of any size: what they are in memory, signs, boxes.
  Whole numbers of any size: sums, products, signs, the order.
-/
import Derived.Test.YtfijhkaalpinhaaGreatDoorRn06
import Derived.RegionTactic
import Derived.BigRegion
import Derived.Outline
import Derived.Deep.RegionHeld3
namespace Go.Proofs.YtfijhkaalpinhaaGreatDoor
open Go.RowKit

/-- The limb that lies at a place. -/
def limbAt (W : World) (p : Addr) : Nat := match W.cell? p with
  | some (.int _ x) => x.toNat
  | _ => 0
/-- The number that a slice is. -/
def numAt (W : World) (v : Value) : Nat := match v with
  | .slice (some p) k _ => S (fun j => limbAt W ⟨p.block, p.off + j, none⟩) k
  | _ => 0
theorem numAt_is {W : World} {a : Option Addr} {k c n : Nat} (h : Nm W a k c n) : numAt W (.slice a k c) = n := by
  obtain ⟨f, hr, _, _, _, hs, hp⟩ := h
  rw [← hs]
  rcases hp with ⟨rfl, _⟩ | ⟨b, off, rfl⟩
  · have hk : k = 0 := by
      rcases Nat.eq_zero_or_pos k with e | e
      · exact e
      · obtain ⟨b, off, he, _⟩ := hr.2.2 e
        cases he
    subst hk
    rfl
  · show S (fun j => limbAt W ⟨b, off + j, none⟩) k = S f k
    refine S_congr (fun j hj => ?_)
    obtain ⟨b', off', e, _, hc⟩ := hr.at_ hj
    injection e with e
    injection e with e1 e2
    subst e1 e2
    unfold limbAt
    rw [hc]
    simp
/-- The box of the steps, as the region reads it. -/
def CB (g : Nat) (a0 b0 a1 b1 : Nat) (odd made : Bool) (W : World) : Prop :=
  W.cell? ⟨g, 0, none⟩ = some (.int .u64 (a0 : Int)) ∧ W.cell? ⟨g, 1, none⟩ = some (.int .u64 (b0 : Int)) ∧ W.cell? ⟨g, 2, none⟩ = some (.int .u64 (a1 : Int)) ∧ W.cell? ⟨g, 3, none⟩ = some (.int .u64 (b1 : Int)) ∧ W.cell? ⟨g, 4, none⟩ = some (.bool odd) ∧ W.cell? ⟨g, 5, none⟩ = some (.bool made) ∧ Hid (g < W.heap.size)
theorem CB.keep {g a0 b0 a1 b1 : Nat} {odd made : Bool} {W W' : World} (h : CB g a0 b0 a1 b1 odd made W) (hb : Below W.heap.size W W') : CB g a0 b0 a1 b1 odd made W' := by
  obtain ⟨h0, h1, h2, h3, h4, h5, hl⟩ := h
  have c := fun (o : Nat) => hb.cell (p := ⟨g, o, none⟩) hl.out
  exact ⟨(c 0).trans h0, (c 1).trans h1, (c 2).trans h2, (c 3).trans h3, (c 4).trans h4, (c 5).trans h5, Nat.lt_of_lt_of_le hl.out hb.size⟩
/-- Where Euclid's algorithm is. -/
structure Euc (w : World) (n1 n2 : Nat) (pa pb : Option Addr) (ka ca kb cb x y : Nat) (W : World) : Prop where
  a : Nm W pa ka ca x
  b : Nm W pb kb cb y
  bel : Below w.heap.size w W
  gcd : Nat.gcd x y = Nat.gcd n1 n2
  le : y ≤ x
  lt : x < bp 2000
theorem Euc.keep {w : World} {n1 n2 : Nat} {pa pb : Option Addr} {ka ca kb cb x y : Nat} {W W' : World} (h : Euc w n1 n2 pa pb ka ca kb cb x y W) (hb : Below W.heap.size W W') : Euc w n1 n2 pa pb ka ca kb cb x y W' :=
  ⟨h.a.below hb, h.b.below hb, h.bel.trans (hb.mono h.bel.size), h.gcd, h.le, h.lt⟩
set_option maxRecDepth 100000 in
set_option maxHeartbeats 4000000 in
theorem common_c (p1 p2 : Option Addr) (k1 k2 c1 c2 n1 n2 : Nat) (w : World) (h1 : Nm w p1 k1 c1 n1) (h2 : Nm w p2 k2 c2 n2) (hn1 : n1 < bp 2000) (hn2 : n2 < bp 2000) :
    Calls Tryz.prog 85 #[.slice p1 k1 c1, .slice p2 k2 c2] w (NmPost (Nat.gcd n1 n2) w) := by
  have HC := Lib.hid (compare_c p1 p2 k1 k2 c1 c2 n1 n2 w h1 h2)
  have HS := Lib.hid (sgn_neg n1 n2)
  have H1 := Lib.hid h1
  have H2 := Lib.hid h2
  have N1 := Lib.hid hn1
  have N2 := Lib.hid hn2
  clear h1 h2 hn1 hn2
  by_cases hlt : n1 < n2
  · have hd : decide (sgn n1 n2 < 0) = true := by rw [HS.out]; simp [hlt]
    have HLT := Lib.hid hlt
    clear HS hlt
    generalize sgn n1 n2 = sg at *
    go_enter Tryz.func85, Tryz.ntmps85
    go_wp2_with fail
    refine HC.out.mono ?_
    rintro e w1 ⟨rfl, q, rfl⟩
    have I0 : Hid (Euc w n1 n2 p2 p1 k2 c2 k1 c1 n2 n1 (w.drewN q)) := ⟨H2.out.below (bel_drewN w q), H1.out.below (bel_drewN w q), bel_drewN w q, Nat.gcd_comm _ _, Nat.le_of_lt HLT.out, N2.out⟩
    clear HC H1 H2 N1 N2 HLT
    go_wp2_with fail
    clear hd
    go_loopw [0, 1] (fun va vb wr => ∃ (pa pb : Option Addr) (ka ca kb cb x y : Nat), va = .slice pa ka ca ∧ vb = .slice pb kb cb ∧ Hid (Euc w n1 n2 pa pb ka ca kb cb x y wr)) (fun _ vb W => numAt W vb)
    case atStart => exact ⟨p2, p1, k2, c2, k1, c1, n2, n1, rfl, rfl, I0.out⟩
    case round =>
      clear I0
      obtain ⟨pa, pb, ka, ca, kb, cb, x, y, rfl, rfl, hI⟩ := hrel
      by_cases hk : 1 < kb
      · have hk' : (1 : Int) < (kb : Int) := by omega
        have hkab : kb ≤ ka := by
          rcases Nat.lt_or_ge ka kb with l | l
          · have e1 := hI.out.a.lt
            have e2 := hI.out.b.pos (by omega)
            have e3 := bp_mono (show ka ≤ kb - 1 by omega)
            have := hI.out.le
            omega
          · exact l
        have hka := hI.out.a.len hI.out.lt
        obtain ⟨z, rfl⟩ : ∃ z, ka = z + 2 := ⟨ka - 2, by omega⟩
        have hy0 : Hid (0 < y) := by
          have e2 := hI.out.b.pos (by omega)
          have := bp_pos (kb - 1)
          unfold Hid; omega
        have ML := Lib.hid (numAt_is hI.out.b)
        have HS := Lib.hid (stepsOf_c pa pb z kb ca cb x y wr hI.out.a hI.out.b hI.out.le hkab (by omega))
        go_wp2_with fail
        (with_reducible refine HS.out.mono ?_)
        rintro e w4 ⟨a0, b0, a1, b1, odd, made, rfl, q0, q1, q2, q3, hok, b4⟩
        have I4 := Lib.hid (hI.out.keep b4)
        have OK := Lib.hid hok
        clear hok b4 hI HS
        obtain ⟨W20, hW20⟩ : ∃ W20, w4.alloc (.cells #[.int .u64 0, .int .u64 0, .int .u64 0, .int .u64 0, .bool false, .bool false] 137) = W20 := ⟨_, rfl⟩
        have X20 : SBox W20 w4.heap.size (.int .u64 0) (.int .u64 0) (.int .u64 0) (.int .u64 0) (.bool false) (.bool false) := by rw [← hW20]; exact SBox.made _ _ _ _ _ _ _ _
        have B20 : Below w4.heap.size w4 W20 := by rw [← hW20]; exact bel_one _ _
        obtain ⟨x0, x1, x2, x3, x4, x5, xf, xl⟩ := id X20
        obtain ⟨W3, hW3⟩ : ∃ W3, six W20 w4.heap.size (.int .u64 (a0 : Int)) (.int .u64 (b0 : Int)) (.int .u64 (a1 : Int)) (.int .u64 (b1 : Int)) (.bool odd) (.bool made) = W3 := ⟨_, rfl⟩
        have I3 : Hid (Euc w n1 n2 pa pb (z + 2) ca kb cb x y W3) := by
          have hb : Below w4.heap.size w4 W3 := by rw [← hW3]; exact below_six B20 (Nat.le_refl _) _ _ _ _ _ _
          exact I4.out.keep hb
        have X3 : SBox W3 w4.heap.size (.int .u64 (a0 : Int)) (.int .u64 (b0 : Int)) (.int .u64 (a1 : Int)) (.int .u64 (b1 : Int)) (.bool odd) (.bool made) := by rw [← hW3]; exact X20.set _ _ _ _ _ _
        have hCB : CB w4.heap.size a0 b0 a1 b1 odd made W3 := ⟨X3.c0, X3.c1, X3.c2, X3.c3, X3.c4, X3.c5, X3.lt⟩
        have f0 := xf 0
        have f1 := xf 1
        have f2 := xf 2
        have f3 := xf 3
        have f4 := xf 4
        have f5 := xf 5
        have m5 := X3.c5
        have HCB := Lib.hid hCB
        clear X20 B20 xf xl I4 X3 hCB
        unfold six at hW3
        cases made
        · clear OK HCB
          go_wp2_with fail
          clear hW3 hW20 x0 x1 x2 x3 x4 x5 f0 f1 f2 f3 f4 f5 m5
          (with_reducible refine (divide_c pa pb (z + 2) kb ca cb x y W3 I3.out.a I3.out.b hy0.out (Nat.lt_of_lt_of_le I3.out.lt (bp_mono (by decide)))).mono ?_)
          rintro e w6 ⟨qa, qk, qc, ra, rk, rc, rfl, _, l2, b6⟩
          have NX : Hid (Euc w n1 n2 pb ra kb cb rk rc y (x % y) w6) := by
            have h := I3.out.keep b6
            refine ⟨h.b, l2, h.bel, ?_, Nat.le_of_lt (Nat.mod_lt _ hy0.out), Nat.lt_of_le_of_lt h.le h.lt⟩
            rw [← h.gcd, Nat.gcd_comm y, ← Nat.gcd_rec, Nat.gcd_comm]
          clear l2 b6 I3
          go_wp2_with fail
          go_roundw
          case rel => exact ⟨pb, ra, kb, cb, rk, rc, y, x % y, rfl, rfl, NX.out⟩
          case measure => rw [numAt_is NX.out.b, ML.out]; exact Nat.mod_lt _ hy0.out
        · obtain ⟨a', b', hcm, hlt, hle, hg⟩ := OK.out rfl
          have HM1 : Hid (if odd then b0 * y = a0 * x + a' else a0 * x = b0 * y + a') := by
            cases odd
            · simp only [Cmb, Bool.false_eq_true, if_false] at hcm ⊢; exact hcm.1
            · simp only [Cmb, if_true] at hcm ⊢; exact hcm.1
          have HM2 : Hid (if odd then a1 * x = b1 * y + b' else b1 * y = a1 * x + b') := by
            cases odd
            · simp only [Cmb, Bool.false_eq_true, if_false] at hcm ⊢; exact hcm.2
            · simp only [Cmb, if_true] at hcm ⊢; exact hcm.2
          have HLT := Lib.hid hlt
          have HLE := Lib.hid hle
          have HG := Lib.hid hg
          clear hcm hlt hle hg OK
          go_wp2_with fail
          clear hW3 hW20 x0 x1 x2 x3 x4 x5 f0 f1 f2 f3 f4 f5 m5
          refine wp_region_noPanic ?_
          refine wp_region_held_drew (S := CB w4.heap.size a0 b0 a1 b1 odd true) (by kernel_rfl) (HCB.out.keep (Below.refl _ _).drew) (fun hS => ?_)
          have hE := Lib.hid (I3.out.keep (Below.refl _ _).drew)
          clear HCB
          refine wpAnyH_take (i := 0) (v := ?v0z1) rfl (by kernel_rfl) (by kernel_rfl) (by kernel_rfl) (fun _ _ _ h => h) (Or.inl ⟨by rfl, ?hy0z1⟩) (by assumption) ?rest0z1
          case hy0z1 =>
            intro w hSw
            dsimp only [CB] at hSw
            go_simp
            try with_reducible rfl
          simp only [Act.put, List.getElem_toArray, List.getElem_cons_succ, List.getElem_cons_zero, List.setIfInBounds_toArray, List.set_cons_zero, List.set_cons_succ]
          refine wpAnyH_take (i := 1) (v := ?v1z2) rfl (by kernel_rfl) (by kernel_rfl) (by kernel_rfl) (fun _ _ _ h => h) (Or.inl ⟨by rfl, ?hy1z2⟩) (by assumption) ?rest1z2
          case hy1z2 =>
            intro w hSw
            dsimp only [CB] at hSw
            go_simp
            try with_reducible rfl
          simp only [Act.put, List.getElem_toArray, List.getElem_cons_succ, List.getElem_cons_zero, List.setIfInBounds_toArray, List.set_cons_zero, List.set_cons_succ]
          refine wpAnyH_take (i := 2) (v := ?v2z3) rfl (by kernel_rfl) (by kernel_rfl) (by kernel_rfl) (fun _ _ _ h => h) (Or.inl ⟨by rfl, ?hy2z3⟩) (by assumption) ?rest2z3
          case hy2z3 =>
            intro w hSw
            dsimp only [CB] at hSw
            go_simp
            try with_reducible rfl
          simp only [Act.put, List.getElem_toArray, List.getElem_cons_succ, List.getElem_cons_zero, List.setIfInBounds_toArray, List.set_cons_zero, List.set_cons_succ]
          refine wpAnyH_take (i := 4) (v := ?v4z4) rfl (by kernel_rfl) (by kernel_rfl) (by kernel_rfl) (fun _ _ _ h => h) (Or.inl ⟨by rfl, ?hy4z4⟩) (by assumption) ?rest4z4
          case hy4z4 =>
            intro w hSw
            dsimp only [CB] at hSw
            go_simp
            try with_reducible rfl
          simp only [Act.put, List.getElem_toArray, List.getElem_cons_succ, List.getElem_cons_zero, List.setIfInBounds_toArray, List.set_cons_zero, List.set_cons_succ]
          refine wpAnyH_take (i := 5) (v := ?v5z5) rfl (by kernel_rfl) (by kernel_rfl) (by kernel_rfl) (fun _ _ _ h => h) (Or.inl ⟨by rfl, ?hy5z5⟩) (by assumption) ?rest5z5
          case hy5z5 =>
            intro w hSw
            dsimp only [CB] at hSw
            go_simp
            try with_reducible rfl
          simp only [Act.put, List.getElem_toArray, List.getElem_cons_succ, List.getElem_cons_zero, List.setIfInBounds_toArray, List.set_cons_zero, List.set_cons_succ]
          refine wpAnyH_take (i := 6) (v := ?v6z6) rfl (by kernel_rfl) (by kernel_rfl) (by kernel_rfl) (fun _ _ _ h => h) (Or.inl ⟨by rfl, ?hy6z6⟩) (by assumption) ?rest6z6
          case hy6z6 =>
            intro w hSw
            dsimp only [CB] at hSw
            go_simp
            try with_reducible rfl
          simp only [Act.put, List.getElem_toArray, List.getElem_cons_succ, List.getElem_cons_zero, List.setIfInBounds_toArray, List.set_cons_zero, List.set_cons_succ]
          refine wpAnyH_ready (rs := [3]) (by kernel_rfl) (by simp) ?_
          refine AllReadyH.cons rfl (fun K hK => ?_) AllReadyH.nil
          go_simp
          refine (first_c odd a0 b0 a1 b1 true pa pb (z + 2) kb ca cb x y a' _ hE.out.a hE.out.b hE.out.lt (Nat.lt_of_le_of_lt hE.out.le hE.out.lt) q0 q1 HM1.out (.inr HLE.out)).mono ?_
          rintro e w5 ⟨ga, gk, gc, rfl, l5, b5⟩
          try go_simp
          have hT := hS.keep b5
          have hE5 := Lib.hid (hE.out.keep b5)
          have L5 := Lib.hid l5
          refine hK.out _ _ hT (fun _ => ?_)
          clear hK K hS b5 l5 hE I3
          have hS := hT
          clear hT
          try simp only [Act.put, List.setIfInBounds_toArray, List.set_cons_zero, List.set_cons_succ]
          refine wpAnyH_ready (rs := [7]) (by kernel_rfl) (by simp) ?_
          refine AllReadyH.cons rfl (fun K hK => ?_) AllReadyH.nil
          go_simp
          refine (second_c odd a0 b0 a1 b1 true pa pb (z + 2) kb ca cb x y b' _ hE5.out.a hE5.out.b hE5.out.lt (Nat.lt_of_le_of_lt hE5.out.le hE5.out.lt) q2 q3 HM2.out (.inl (by have := HLT.out; have := HLE.out; omega))).mono ?_
          rintro e w6 ⟨ha, hk2, hc, rfl, l6, b6⟩
          try go_simp
          have hT := hS.keep b6
          have NX : Hid (Euc w n1 n2 ga ha gk gc hk2 hc a' b' w6) := by
            have h := hE5.out.keep b6
            refine ⟨L5.out.below b6, l6, h.bel, by rw [HG.out, h.gcd], Nat.le_of_lt HLT.out, ?_⟩
            have := HLE.out
            have := h.le
            have := h.lt
            omega
          refine hK.out _ _ hT (fun _ => ?_)
          clear hK K hS b6 l6 hE5 L5
          have hS := hT
          clear hT
          try simp only [Act.put, List.setIfInBounds_toArray, List.set_cons_zero, List.set_cons_succ]
          refine wpAnyH_take (i := 8) (v := ?v8z7) rfl (by kernel_rfl) (by kernel_rfl) (by kernel_rfl) (fun _ _ _ h => h) (Or.inl ⟨by rfl, ?hy8z7⟩) (by assumption) ?rest8z7
          case hy8z7 =>
            intro w hSw
            dsimp only [CB] at hSw
            go_simp
            try with_reducible rfl
          simp only [Act.put, List.getElem_toArray, List.getElem_cons_succ, List.getElem_cons_zero, List.setIfInBounds_toArray, List.set_cons_zero, List.set_cons_succ]
          refine wpAnyH_take (i := 9) (v := ?v9z8) rfl (by kernel_rfl) (by kernel_rfl) (by kernel_rfl) (fun _ _ _ h => h) (Or.inl ⟨by rfl, ?hy9z8⟩) (by assumption) ?rest9z8
          case hy9z8 =>
            intro w hSw
            dsimp only [CB] at hSw
            go_simp
            try with_reducible rfl
          simp only [Act.put, List.getElem_toArray, List.getElem_cons_succ, List.getElem_cons_zero, List.setIfInBounds_toArray, List.set_cons_zero, List.set_cons_succ]
          refine wpAnyH_done (by kernel_rfl) ?_ _
          refine NoPanic.normal ?_
          clear hS
          go_wp2_with fail
          go_roundw
          case rel => exact ⟨ga, ha, gk, gc, hk2, hc, a', b', rfl, rfl, NX.out⟩
          case measure => rw [numAt_is NX.out.b, ML.out]; have := HLT.out; have := HLE.out; omega
      · have hk' : ¬ (1 : Int) < (kb : Int) := by omega
        rcases Nat.eq_zero_or_pos kb with e | e
        · subst e
          have R : Hid (NmPost (Nat.gcd n1 n2) w (.returned (.slice pa ka ca)) wr) := by
            have h := hI.out
            have hb := h.b
            have hy : y = 0 := by have := hb.lt; rw [bp_zero] at this; omega
            refine ⟨_, _, _, rfl, ?_, h.bel⟩
            have hg := h.gcd
            rw [hy, Nat.gcd_zero_right] at hg
            rw [← hg]; exact h.a
          clear hI
          go_wp2
          go_ret
          exact R.out
        · obtain rfl : kb = 1 := by omega
          obtain ⟨fb, rb, _, _, tb, sb, _⟩ := hI.out.b
          obtain ⟨bb, ob, rfl, hbb, hcb⟩ := rb.at_ (show 0 < 1 by omega)
          rw [S_one] at sb
          have hlim := rb.2.1 0 (by omega)
          have hpos : 0 < y := by
            rcases tb with e | e
            · omega
            · simp at e; omega
          rw [sb] at hcb hlim
          rw [Nat.add_zero] at hcb
          have HP := Lib.hid hpos
          have HBB := Lib.hid hbb
          have HCC := Lib.hid hcb
          have HD := Lib.hid (divideShort_c pa ka ca x y wr hI.out.a hpos hlim)
          clear rb tb sb hpos hbb
          go_wp2_with fail
          (with_reducible refine HD.out.mono ?_)
          rintro e w6 ⟨qa, qk, qc, r, rfl, hr, _, b6⟩
          have hc6 : w6.cell? ⟨bb, ob, none⟩ = some (.int .u64 (y : Int)) := by rw [b6.cell (p := ⟨bb, ob, none⟩) HBB.out]; exact HCC.out
          have B6 := Lib.hid (hI.out.bel.trans (b6.mono hI.out.bel.size))
          have hrb : r < 18446744073709551616 := by rw [hr]; have := Nat.mod_lt x HP.out; omega
          have HG : Hid (Nat.gcd y r = Nat.gcd n1 n2) := by unfold Hid; rw [hr, ← hI.out.gcd, Nat.gcd_comm y, ← Nat.gcd_rec, Nat.gcd_comm]
          clear b6 hr HCC HBB HD hI hcb
          go_wp2_with fail
          (with_reducible refine (commonLimb_c y r w6 hlim hrb (.inl HP.out)).mono ?_)
          rintro e w7 ⟨g, rfl, hg, hgb, qq, rfl⟩
          have R : Hid (NmPost (Nat.gcd n1 n2) w (.returned (.slice (some ⟨(w6.drewN qq).heap.size, 0, none⟩) 1 1)) ((w6.drewN qq).alloc (.cells #[.int .u64 g] 80))) := by
            refine ⟨_, _, _, rfl, ⟨fun _ => g, built_one _ g hgb, by omega, by omega, .inr ?_, ?_, Pl.some_ _ _⟩, ?_⟩
            · have hp := Nat.gcd_pos_of_pos_left r HP.out
              rw [← hg] at hp
              show g ≠ 0
              omega
            · rw [S_one, hg, HG.out]
            · exact (B6.out.trans ((bel_drewN w6 qq).mono B6.out.size)).alloc (by have := B6.out.size; simpa using this) _
          clear hg
          generalize w6.drewN qq = w8 at *
          go_wp2
          go_ret
          exact R.out
  · have hd : decide (sgn n1 n2 < 0) = false := by rw [HS.out]; simp [hlt]
    have HLE : Hid (n2 ≤ n1) := by unfold Hid; omega
    clear HS hlt
    generalize sgn n1 n2 = sg at *
    go_enter Tryz.func85, Tryz.ntmps85
    go_wp2_with fail
    refine HC.out.mono ?_
    rintro e w1 ⟨rfl, q, rfl⟩
    have I0 : Hid (Euc w n1 n2 p1 p2 k1 c1 k2 c2 n1 n2 (w.drewN q)) := ⟨H1.out.below (bel_drewN w q), H2.out.below (bel_drewN w q), bel_drewN w q, rfl, HLE.out, N1.out⟩
    clear HC H1 H2 N1 N2 HLE
    go_wp2_with fail
    clear hd
    go_loopw [0, 1] (fun va vb wr => ∃ (pa pb : Option Addr) (ka ca kb cb x y : Nat), va = .slice pa ka ca ∧ vb = .slice pb kb cb ∧ Hid (Euc w n1 n2 pa pb ka ca kb cb x y wr)) (fun _ vb W => numAt W vb)
    case atStart => exact ⟨p1, p2, k1, c1, k2, c2, n1, n2, rfl, rfl, I0.out⟩
    case round =>
      clear I0
      obtain ⟨pa, pb, ka, ca, kb, cb, x, y, rfl, rfl, hI⟩ := hrel
      by_cases hk : 1 < kb
      · have hk' : (1 : Int) < (kb : Int) := by omega
        have hkab : kb ≤ ka := by
          rcases Nat.lt_or_ge ka kb with l | l
          · have e1 := hI.out.a.lt
            have e2 := hI.out.b.pos (by omega)
            have e3 := bp_mono (show ka ≤ kb - 1 by omega)
            have := hI.out.le
            omega
          · exact l
        have hka := hI.out.a.len hI.out.lt
        obtain ⟨z, rfl⟩ : ∃ z, ka = z + 2 := ⟨ka - 2, by omega⟩
        have hy0 : Hid (0 < y) := by
          have e2 := hI.out.b.pos (by omega)
          have := bp_pos (kb - 1)
          unfold Hid; omega
        have ML := Lib.hid (numAt_is hI.out.b)
        have HS := Lib.hid (stepsOf_c pa pb z kb ca cb x y wr hI.out.a hI.out.b hI.out.le hkab (by omega))
        go_wp2_with fail
        (with_reducible refine HS.out.mono ?_)
        rintro e w4 ⟨a0, b0, a1, b1, odd, made, rfl, q0, q1, q2, q3, hok, b4⟩
        have I4 := Lib.hid (hI.out.keep b4)
        have OK := Lib.hid hok
        clear hok b4 hI HS
        obtain ⟨W20, hW20⟩ : ∃ W20, w4.alloc (.cells #[.int .u64 0, .int .u64 0, .int .u64 0, .int .u64 0, .bool false, .bool false] 137) = W20 := ⟨_, rfl⟩
        have X20 : SBox W20 w4.heap.size (.int .u64 0) (.int .u64 0) (.int .u64 0) (.int .u64 0) (.bool false) (.bool false) := by rw [← hW20]; exact SBox.made _ _ _ _ _ _ _ _
        have B20 : Below w4.heap.size w4 W20 := by rw [← hW20]; exact bel_one _ _
        obtain ⟨x0, x1, x2, x3, x4, x5, xf, xl⟩ := id X20
        obtain ⟨W3, hW3⟩ : ∃ W3, six W20 w4.heap.size (.int .u64 (a0 : Int)) (.int .u64 (b0 : Int)) (.int .u64 (a1 : Int)) (.int .u64 (b1 : Int)) (.bool odd) (.bool made) = W3 := ⟨_, rfl⟩
        have I3 : Hid (Euc w n1 n2 pa pb (z + 2) ca kb cb x y W3) := by
          have hb : Below w4.heap.size w4 W3 := by rw [← hW3]; exact below_six B20 (Nat.le_refl _) _ _ _ _ _ _
          exact I4.out.keep hb
        have X3 : SBox W3 w4.heap.size (.int .u64 (a0 : Int)) (.int .u64 (b0 : Int)) (.int .u64 (a1 : Int)) (.int .u64 (b1 : Int)) (.bool odd) (.bool made) := by rw [← hW3]; exact X20.set _ _ _ _ _ _
        have hCB : CB w4.heap.size a0 b0 a1 b1 odd made W3 := ⟨X3.c0, X3.c1, X3.c2, X3.c3, X3.c4, X3.c5, X3.lt⟩
        have f0 := xf 0
        have f1 := xf 1
        have f2 := xf 2
        have f3 := xf 3
        have f4 := xf 4
        have f5 := xf 5
        have m5 := X3.c5
        have HCB := Lib.hid hCB
        clear X20 B20 xf xl I4 X3 hCB
        unfold six at hW3
        cases made
        · clear OK HCB
          go_wp2_with fail
          clear hW3 hW20 x0 x1 x2 x3 x4 x5 f0 f1 f2 f3 f4 f5 m5
          (with_reducible refine (divide_c pa pb (z + 2) kb ca cb x y W3 I3.out.a I3.out.b hy0.out (Nat.lt_of_lt_of_le I3.out.lt (bp_mono (by decide)))).mono ?_)
          rintro e w6 ⟨qa, qk, qc, ra, rk, rc, rfl, _, l2, b6⟩
          have NX : Hid (Euc w n1 n2 pb ra kb cb rk rc y (x % y) w6) := by
            have h := I3.out.keep b6
            refine ⟨h.b, l2, h.bel, ?_, Nat.le_of_lt (Nat.mod_lt _ hy0.out), Nat.lt_of_le_of_lt h.le h.lt⟩
            rw [← h.gcd, Nat.gcd_comm y, ← Nat.gcd_rec, Nat.gcd_comm]
          clear l2 b6 I3
          go_wp2_with fail
          go_roundw
          case rel => exact ⟨pb, ra, kb, cb, rk, rc, y, x % y, rfl, rfl, NX.out⟩
          case measure => rw [numAt_is NX.out.b, ML.out]; exact Nat.mod_lt _ hy0.out
        · obtain ⟨a', b', hcm, hlt, hle, hg⟩ := OK.out rfl
          have HM1 : Hid (if odd then b0 * y = a0 * x + a' else a0 * x = b0 * y + a') := by
            cases odd
            · simp only [Cmb, Bool.false_eq_true, if_false] at hcm ⊢; exact hcm.1
            · simp only [Cmb, if_true] at hcm ⊢; exact hcm.1
          have HM2 : Hid (if odd then a1 * x = b1 * y + b' else b1 * y = a1 * x + b') := by
            cases odd
            · simp only [Cmb, Bool.false_eq_true, if_false] at hcm ⊢; exact hcm.2
            · simp only [Cmb, if_true] at hcm ⊢; exact hcm.2
          have HLT := Lib.hid hlt
          have HLE := Lib.hid hle
          have HG := Lib.hid hg
          clear hcm hlt hle hg OK
          go_wp2_with fail
          clear hW3 hW20 x0 x1 x2 x3 x4 x5 f0 f1 f2 f3 f4 f5 m5
          refine wp_region_noPanic ?_
          refine wp_region_held_drew (S := CB w4.heap.size a0 b0 a1 b1 odd true) (by kernel_rfl) (HCB.out.keep (Below.refl _ _).drew) (fun hS => ?_)
          have hE := Lib.hid (I3.out.keep (Below.refl _ _).drew)
          clear HCB
          refine wpAnyH_take (i := 0) (v := ?v0z9) rfl (by kernel_rfl) (by kernel_rfl) (by kernel_rfl) (fun _ _ _ h => h) (Or.inl ⟨by rfl, ?hy0z9⟩) (by assumption) ?rest0z9
          case hy0z9 =>
            intro w hSw
            dsimp only [CB] at hSw
            go_simp
            try with_reducible rfl
          simp only [Act.put, List.getElem_toArray, List.getElem_cons_succ, List.getElem_cons_zero, List.setIfInBounds_toArray, List.set_cons_zero, List.set_cons_succ]
          refine wpAnyH_take (i := 1) (v := ?v1z10) rfl (by kernel_rfl) (by kernel_rfl) (by kernel_rfl) (fun _ _ _ h => h) (Or.inl ⟨by rfl, ?hy1z10⟩) (by assumption) ?rest1z10
          case hy1z10 =>
            intro w hSw
            dsimp only [CB] at hSw
            go_simp
            try with_reducible rfl
          simp only [Act.put, List.getElem_toArray, List.getElem_cons_succ, List.getElem_cons_zero, List.setIfInBounds_toArray, List.set_cons_zero, List.set_cons_succ]
          refine wpAnyH_take (i := 2) (v := ?v2z11) rfl (by kernel_rfl) (by kernel_rfl) (by kernel_rfl) (fun _ _ _ h => h) (Or.inl ⟨by rfl, ?hy2z11⟩) (by assumption) ?rest2z11
          case hy2z11 =>
            intro w hSw
            dsimp only [CB] at hSw
            go_simp
            try with_reducible rfl
          simp only [Act.put, List.getElem_toArray, List.getElem_cons_succ, List.getElem_cons_zero, List.setIfInBounds_toArray, List.set_cons_zero, List.set_cons_succ]
          refine wpAnyH_take (i := 4) (v := ?v4z12) rfl (by kernel_rfl) (by kernel_rfl) (by kernel_rfl) (fun _ _ _ h => h) (Or.inl ⟨by rfl, ?hy4z12⟩) (by assumption) ?rest4z12
          case hy4z12 =>
            intro w hSw
            dsimp only [CB] at hSw
            go_simp
            try with_reducible rfl
          simp only [Act.put, List.getElem_toArray, List.getElem_cons_succ, List.getElem_cons_zero, List.setIfInBounds_toArray, List.set_cons_zero, List.set_cons_succ]
          refine wpAnyH_take (i := 5) (v := ?v5z13) rfl (by kernel_rfl) (by kernel_rfl) (by kernel_rfl) (fun _ _ _ h => h) (Or.inl ⟨by rfl, ?hy5z13⟩) (by assumption) ?rest5z13
          case hy5z13 =>
            intro w hSw
            dsimp only [CB] at hSw
            go_simp
            try with_reducible rfl
          simp only [Act.put, List.getElem_toArray, List.getElem_cons_succ, List.getElem_cons_zero, List.setIfInBounds_toArray, List.set_cons_zero, List.set_cons_succ]
          refine wpAnyH_take (i := 6) (v := ?v6z14) rfl (by kernel_rfl) (by kernel_rfl) (by kernel_rfl) (fun _ _ _ h => h) (Or.inl ⟨by rfl, ?hy6z14⟩) (by assumption) ?rest6z14
          case hy6z14 =>
            intro w hSw
            dsimp only [CB] at hSw
            go_simp
            try with_reducible rfl
          simp only [Act.put, List.getElem_toArray, List.getElem_cons_succ, List.getElem_cons_zero, List.setIfInBounds_toArray, List.set_cons_zero, List.set_cons_succ]
          refine wpAnyH_ready (rs := [3]) (by kernel_rfl) (by simp) ?_
          refine AllReadyH.cons rfl (fun K hK => ?_) AllReadyH.nil
          go_simp
          refine (first_c odd a0 b0 a1 b1 true pa pb (z + 2) kb ca cb x y a' _ hE.out.a hE.out.b hE.out.lt (Nat.lt_of_le_of_lt hE.out.le hE.out.lt) q0 q1 HM1.out (.inr HLE.out)).mono ?_
          rintro e w5 ⟨ga, gk, gc, rfl, l5, b5⟩
          try go_simp
          have hT := hS.keep b5
          have hE5 := Lib.hid (hE.out.keep b5)
          have L5 := Lib.hid l5
          refine hK.out _ _ hT (fun _ => ?_)
          clear hK K hS b5 l5 hE I3
          have hS := hT
          clear hT
          try simp only [Act.put, List.setIfInBounds_toArray, List.set_cons_zero, List.set_cons_succ]
          refine wpAnyH_ready (rs := [7]) (by kernel_rfl) (by simp) ?_
          refine AllReadyH.cons rfl (fun K hK => ?_) AllReadyH.nil
          go_simp
          refine (second_c odd a0 b0 a1 b1 true pa pb (z + 2) kb ca cb x y b' _ hE5.out.a hE5.out.b hE5.out.lt (Nat.lt_of_le_of_lt hE5.out.le hE5.out.lt) q2 q3 HM2.out (.inl (by have := HLT.out; have := HLE.out; omega))).mono ?_
          rintro e w6 ⟨ha, hk2, hc, rfl, l6, b6⟩
          try go_simp
          have hT := hS.keep b6
          have NX : Hid (Euc w n1 n2 ga ha gk gc hk2 hc a' b' w6) := by
            have h := hE5.out.keep b6
            refine ⟨L5.out.below b6, l6, h.bel, by rw [HG.out, h.gcd], Nat.le_of_lt HLT.out, ?_⟩
            have := HLE.out
            have := h.le
            have := h.lt
            omega
          refine hK.out _ _ hT (fun _ => ?_)
          clear hK K hS b6 l6 hE5 L5
          have hS := hT
          clear hT
          try simp only [Act.put, List.setIfInBounds_toArray, List.set_cons_zero, List.set_cons_succ]
          refine wpAnyH_take (i := 8) (v := ?v8z15) rfl (by kernel_rfl) (by kernel_rfl) (by kernel_rfl) (fun _ _ _ h => h) (Or.inl ⟨by rfl, ?hy8z15⟩) (by assumption) ?rest8z15
          case hy8z15 =>
            intro w hSw
            dsimp only [CB] at hSw
            go_simp
            try with_reducible rfl
          simp only [Act.put, List.getElem_toArray, List.getElem_cons_succ, List.getElem_cons_zero, List.setIfInBounds_toArray, List.set_cons_zero, List.set_cons_succ]
          refine wpAnyH_take (i := 9) (v := ?v9z16) rfl (by kernel_rfl) (by kernel_rfl) (by kernel_rfl) (fun _ _ _ h => h) (Or.inl ⟨by rfl, ?hy9z16⟩) (by assumption) ?rest9z16
          case hy9z16 =>
            intro w hSw
            dsimp only [CB] at hSw
            go_simp
            try with_reducible rfl
          simp only [Act.put, List.getElem_toArray, List.getElem_cons_succ, List.getElem_cons_zero, List.setIfInBounds_toArray, List.set_cons_zero, List.set_cons_succ]
          refine wpAnyH_done (by kernel_rfl) ?_ _
          refine NoPanic.normal ?_
          clear hS
          go_wp2_with fail
          go_roundw
          case rel => exact ⟨ga, ha, gk, gc, hk2, hc, a', b', rfl, rfl, NX.out⟩
          case measure => rw [numAt_is NX.out.b, ML.out]; have := HLT.out; have := HLE.out; omega
      · have hk' : ¬ (1 : Int) < (kb : Int) := by omega
        rcases Nat.eq_zero_or_pos kb with e | e
        · subst e
          have R : Hid (NmPost (Nat.gcd n1 n2) w (.returned (.slice pa ka ca)) wr) := by
            have h := hI.out
            have hb := h.b
            have hy : y = 0 := by have := hb.lt; rw [bp_zero] at this; omega
            refine ⟨_, _, _, rfl, ?_, h.bel⟩
            have hg := h.gcd
            rw [hy, Nat.gcd_zero_right] at hg
            rw [← hg]; exact h.a
          clear hI
          go_wp2
          go_ret
          exact R.out
        · obtain rfl : kb = 1 := by omega
          obtain ⟨fb, rb, _, _, tb, sb, _⟩ := hI.out.b
          obtain ⟨bb, ob, rfl, hbb, hcb⟩ := rb.at_ (show 0 < 1 by omega)
          rw [S_one] at sb
          have hlim := rb.2.1 0 (by omega)
          have hpos : 0 < y := by
            rcases tb with e | e
            · omega
            · simp at e; omega
          rw [sb] at hcb hlim
          rw [Nat.add_zero] at hcb
          have HP := Lib.hid hpos
          have HBB := Lib.hid hbb
          have HCC := Lib.hid hcb
          have HD := Lib.hid (divideShort_c pa ka ca x y wr hI.out.a hpos hlim)
          clear rb tb sb hpos hbb
          go_wp2_with fail
          (with_reducible refine HD.out.mono ?_)
          rintro e w6 ⟨qa, qk, qc, r, rfl, hr, _, b6⟩
          have hc6 : w6.cell? ⟨bb, ob, none⟩ = some (.int .u64 (y : Int)) := by rw [b6.cell (p := ⟨bb, ob, none⟩) HBB.out]; exact HCC.out
          have B6 := Lib.hid (hI.out.bel.trans (b6.mono hI.out.bel.size))
          have hrb : r < 18446744073709551616 := by rw [hr]; have := Nat.mod_lt x HP.out; omega
          have HG : Hid (Nat.gcd y r = Nat.gcd n1 n2) := by unfold Hid; rw [hr, ← hI.out.gcd, Nat.gcd_comm y, ← Nat.gcd_rec, Nat.gcd_comm]
          clear b6 hr HCC HBB HD hI hcb
          go_wp2_with fail
          (with_reducible refine (commonLimb_c y r w6 hlim hrb (.inl HP.out)).mono ?_)
          rintro e w7 ⟨g, rfl, hg, hgb, qq, rfl⟩
          have R : Hid (NmPost (Nat.gcd n1 n2) w (.returned (.slice (some ⟨(w6.drewN qq).heap.size, 0, none⟩) 1 1)) ((w6.drewN qq).alloc (.cells #[.int .u64 g] 80))) := by
            refine ⟨_, _, _, rfl, ⟨fun _ => g, built_one _ g hgb, by omega, by omega, .inr ?_, ?_, Pl.some_ _ _⟩, ?_⟩
            · have hp := Nat.gcd_pos_of_pos_left r HP.out
              rw [← hg] at hp
              show g ≠ 0
              omega
            · rw [S_one, hg, HG.out]
            · exact (B6.out.trans ((bel_drewN w6 qq).mono B6.out.size)).alloc (by have := B6.out.size; simpa using this) _
          clear hg
          generalize w6.drewN qq = w8 at *
          go_wp2
          go_ret
          exact R.out
end Go.Proofs.YtfijhkaalpinhaaGreatDoor
namespace Go.Proofs.YtfijhkaalpinhaaGreatDoor
open Go.RowKit

/-- A number with its sign. -/
def zv (b : Bool) (n : Nat) : Int := if b then -(n : Int) else n
theorem zv_false (n : Nat) : zv false n = n := rfl
theorem zv_true (n : Nat) : zv true n = -(n : Int) := rfl
theorem zv_abs (b : Bool) (n : Nat) : (zv b n).natAbs = n := by cases b <;> simp [zv]
def Zn (W : World) (b : Bool) (a : Option Addr) (k c : Nat) (z : Int) : Prop := ∃ n, Nm W a k c n ∧ (b = true → 0 < n) ∧ z = zv b n
theorem Zn.below {W W' : World} {b : Bool} {a : Option Addr} {k c : Nat} {z : Int} (h : Zn W b a k c z) (hb : Below W.heap.size W W') : Zn W' b a k c z := by
  obtain ⟨n, h1, h2⟩ := h
  exact ⟨n, h1.below hb, h2⟩
theorem Zn.nm {W : World} {b : Bool} {a : Option Addr} {k c : Nat} {z : Int} (h : Zn W b a k c z) : Nm W a k c z.natAbs := by
  obtain ⟨n, h1, _, rfl⟩ := h
  rw [zv_abs]; exact h1
theorem Zn.sign {W : World} {b : Bool} {a : Option Addr} {k c : Nat} {z : Int} (h : Zn W b a k c z) : b = decide (z < 0) := by
  obtain ⟨n, _, h2, rfl⟩ := h
  cases b
  · rw [zv_false]; simp
  · have := h2 rfl
    rw [zv_true]; simp; omega
theorem Zn.zv {W : World} {b : Bool} {a : Option Addr} {k c : Nat} {z : Int} (h : Zn W b a k c z) : z = zv b z.natAbs := by
  obtain ⟨n, _, _, rfl⟩ := h
  rw [zv_abs]
def ZPost (z : Int) (w : World) (e : Ending) (w' : World) : Prop := ∃ b a k c, e = .returned (.agg #[.bool b, .slice a k c]) ∧ Zn w' b a k c z ∧ Below w.heap.size w w'
/-- A box of two cells. -/
structure B2 (W : World) (g : Nat) (x0 x1 : Value) : Prop where
  c0 : W.cell? ⟨g, 0, none⟩ = some x0
  c1 : W.cell? ⟨g, 1, none⟩ = some x1
  fr : ∀ o, W.frozen? ⟨g, o, none⟩ = false
  lt : g < W.heap.size
theorem B2.keep {W W' : World} {g : Nat} {x0 x1 : Value} (h : B2 W g x0 x1) (hb : Below W.heap.size W W') : B2 W' g x0 x1 :=
  ⟨(hb.cell (p := ⟨g, 0, none⟩) h.lt).trans h.c0, (hb.cell (p := ⟨g, 1, none⟩) h.lt).trans h.c1, fun o => (hb.frozen (p := ⟨g, o, none⟩) h.lt).trans (h.fr o), Nat.lt_of_lt_of_le h.lt hb.size⟩
theorem B2.made (W : World) (x0 x1 : Value) (T : TypeId) : B2 (W.alloc (.cells #[x0, x1] T)) W.heap.size x0 x1 := by
  refine ⟨?_, ?_, fun o => by simp, by simp⟩
  all_goals (rw [World.cell?_alloc_new]; rfl)
/-- Both cells are stored. -/
def two (W : World) (g : Nat) (y0 y1 : Value) : World := (W.setCell ⟨g, 0, none⟩ y0).setCell ⟨g, 1, none⟩ y1
theorem two_size (W : World) (g : Nat) (y0 y1 : Value) : (two W g y0 y1).heap.size = W.heap.size := by unfold two; simp
theorem B2.set {W : World} {g : Nat} {x0 x1 : Value} (h : B2 W g x0 x1) (y0 y1 : Value) : B2 (two W g y0 y1) g y0 y1 := by
  have hne : ∀ {i j : Nat}, i ≠ j → (⟨g, i, none⟩ : Addr) ≠ ⟨g, j, none⟩ := fun h e => by injection e with _ e2; exact h e2
  unfold two
  refine ⟨?_, ?_, fun o => by simp only [World.frozen?_setCell]; exact h.fr o, by simpa using h.lt⟩
  · rw [World.cell?_setCell_other _ _ _ _ (hne (by decide)), World.cell?_setCell_same _ _ _ h.c0]
  · rw [World.cell?_setCell_same _ _ _ (u := x1) (by rw [World.cell?_setCell_other _ _ _ _ (hne (by decide))]; exact h.c1)]
theorem B2.other {W : World} {g h : Nat} {x0 x1 : Value} (hb : B2 W g x0 x1) (hne : h ≠ g) (y0 y1 : Value) : B2 (two W h y0 y1) g x0 x1 := by
  have hne' : ∀ {i j : Nat}, (⟨h, i, none⟩ : Addr) ≠ ⟨g, j, none⟩ := fun e => by injection e with e1 _; exact hne e1
  have e : ∀ o, (two W h y0 y1).cell? ⟨g, o, none⟩ = W.cell? ⟨g, o, none⟩ := fun o => by
    unfold two
    rw [World.cell?_setCell_other _ _ _ _ hne', World.cell?_setCell_other _ _ _ _ hne']
  exact ⟨(e 0).trans hb.c0, (e 1).trans hb.c1, fun o => by unfold two; simp only [World.frozen?_setCell]; exact hb.fr o, by rw [two_size]; exact hb.lt⟩
theorem below_two {W0 W : World} {g : Nat} (h : Below W0.heap.size W0 W) (hg : W0.heap.size ≤ g) (y0 y1 : Value) : Below W0.heap.size W0 (two W g y0 y1) :=
  (h.setCell (p := ⟨g, 0, none⟩) hg y0).setCell (p := ⟨g, 1, none⟩) hg y1
/-- A store into boxes changes no number that lies elsewhere. -/
theorem Nm.set {W : World} {a : Option Addr} {k c n : Nat} (h : Nm W a k c n) {p : Addr} {u : Value} (hu : W.cell? p = some u) (hne : ∀ m, u ≠ .int .u64 m) (x : Value) : Nm (W.setCell p x) a k c n := by
  obtain ⟨f, h1, h2⟩ := h
  refine ⟨f, ⟨h1.1, h1.2.1, fun h0 => ?_⟩, h2⟩
  obtain ⟨b, off, e, hl, hc⟩ := h1.2.2 h0
  refine ⟨b, off, e, by simpa using hl, fun j hj => ?_⟩
  rw [World.cell?_setCell_other _ _ _ _ (by intro e; rw [e, hc j hj] at hu; injection hu with hu; exact hne _ hu.symm)]
  exact hc j hj
theorem Nm.set2 {W : World} {a : Option Addr} {k c n : Nat} (h : Nm W a k c n) {g : Nat} {s : Bool} {pa : Option Addr} {kk cc : Nat} (hb : B2 W g (.bool s) (.slice pa kk cc)) (y0 y1 : Value) : Nm (two W g y0 y1) a k c n := by
  unfold two
  refine (h.set hb.c0 (fun m e => by cases e) y0).set (u := .slice pa kk cc) ?_ (fun m e => by cases e) y1
  rw [World.cell?_setCell_other _ _ _ _ (by intro e; injection e with _ e2; cases e2)]
  exact hb.c1
theorem Zn.set2 {W : World} {b : Bool} {a : Option Addr} {k c : Nat} {z : Int} (h : Zn W b a k c z) {g : Nat} {s : Bool} {pa : Option Addr} {kk cc : Nat} (hb : B2 W g (.bool s) (.slice pa kk cc)) (y0 y1 : Value) : Zn (two W g y0 y1) b a k c z := by
  obtain ⟨n, h1, h2⟩ := h
  exact ⟨n, h1.set2 hb y0 y1, h2⟩
/-- Two boxes of arguments, and the box of a result. -/
structure I3 (w : World) (b1 : Bool) (a1 : Option Addr) (k1 c1 : Nat) (b2 : Bool) (a2 : Option Addr) (k2 c2 : Nat) (W : World) : Prop where
  x : B2 W w.heap.size (.bool b1) (.slice a1 k1 c1)
  y : B2 W (w.heap.size + 1) (.bool b2) (.slice a2 k2 c2)
  r : B2 W (w.heap.size + 1 + 1) (.bool false) (.slice none 0 0)
  bel : Below w.heap.size w W
theorem I3.keep {w : World} {b1 : Bool} {a1 : Option Addr} {k1 c1 : Nat} {b2 : Bool} {a2 : Option Addr} {k2 c2 : Nat} {W W' : World} (h : I3 w b1 a1 k1 c1 b2 a2 k2 c2 W) (hb : Below W.heap.size W W') : I3 w b1 a1 k1 c1 b2 a2 k2 c2 W' :=
  ⟨h.x.keep hb, h.y.keep hb, h.r.keep hb, h.bel.trans (hb.mono h.bel.size)⟩
theorem I3.made (w : World) (b1 : Bool) (a1 : Option Addr) (k1 c1 : Nat) (b2 : Bool) (a2 : Option Addr) (k2 c2 : Nat) (T1 T2 T3 : TypeId) :
    I3 w b1 a1 k1 c1 b2 a2 k2 c2 (((w.alloc (.cells #[.bool b1, .slice a1 k1 c1] T1)).alloc (.cells #[.bool b2, .slice a2 k2 c2] T2)).alloc (.cells #[.bool false, .slice none 0 0] T3)) := by
  have s1 : (w.alloc (.cells #[.bool b1, .slice a1 k1 c1] T1)).heap.size = w.heap.size + 1 := by simp
  have s2 : ((w.alloc (.cells #[.bool b1, .slice a1 k1 c1] T1)).alloc (.cells #[.bool b2, .slice a2 k2 c2] T2)).heap.size = w.heap.size + 1 + 1 := by simp
  refine ⟨((B2.made w _ _ T1).keep (bel_one _ _)).keep (bel_one _ _), ?_, ?_, ?_⟩
  · rw [← s1]; exact (B2.made _ _ _ T2).keep (bel_one _ _)
  · rw [← s2]; exact B2.made _ _ _ T3
  · exact (((Below.refl _ _).alloc (Nat.le_refl _) _).alloc (by simp) _).alloc (by simp; omega) _
set_option maxHeartbeats 1000000 in
theorem withSign_c (b : Bool) (a : Option Addr) (k c n : Nat) (w : World) (h : Nm w a k c n) :
    Calls Tryz.prog 86 #[.bool b, .slice a k c] w fun e w' => ∃ b', e = .returned (.agg #[.bool b', .slice a k c]) ∧ Zn w' b' a k c (zv b n) ∧ Below w.heap.size w w' := by
  have H := Lib.hid h
  obtain ⟨W0, hW0⟩ : ∃ W0, w.alloc (.cells #[.bool false, .slice none 0 0] 44) = W0 := ⟨_, rfl⟩
  have X0 : B2 W0 w.heap.size (.bool false) (.slice none 0 0) := by rw [← hW0]; exact B2.made _ _ _ _
  have B0 : Below w.heap.size w W0 := by rw [← hW0]; exact bel_one _ _
  obtain ⟨b', hb'⟩ : ∃ b', (b && decide (0 < k)) = b' := ⟨_, rfl⟩
  obtain ⟨W1, hW1⟩ : ∃ W1, two W0 w.heap.size (.bool b') (.slice a k c) = W1 := ⟨_, rfl⟩
  have R1 : B2 W1 w.heap.size (.bool b') (.slice a k c) := by rw [← hW1]; exact X0.set _ _
  have PP : Hid (Zn W1 b' a k c (zv b n) ∧ Below w.heap.size w W1) := by
    have hb1 : Below w.heap.size w W1 := by rw [← hW1]; exact below_two B0 (Nat.le_refl _) _ _
    refine ⟨⟨n, h.below hb1, fun e => ?_, ?_⟩, hb1⟩
    · subst hb'
      simp at e
      have := h.pos e.2
      have := bp_pos (k - 1)
      omega
    · subst hb'
      rcases Nat.eq_zero_or_pos k with e | e
      · have hn : n = 0 := by have := h.lt; rw [e, bp_zero] at this; omega
        subst hn
        cases b <;> simp [zv, e]
      · cases b <;> simp [zv, e]
  obtain ⟨x0, x1, xf, _⟩ := id X0
  obtain ⟨r0, r1, _, _⟩ := id R1
  have f0 := xf 0
  have f1 := xf 1
  clear xf X0 B0 R1 h
  unfold two at hW1
  cases b
  · have hb2 : b' = false := by rw [← hb']; rfl
    subst hb2
    clear hb'
    go_enter Tryz.func86, Tryz.ntmps86
    go_wp2
    exact bodyPost_ret (v := .agg #[.bool false, .slice a k c]) (by simp [results, Tryz.results86, go_sem, r0, r1]) rfl ⟨_, rfl, PP.out⟩
  · by_cases hk : 0 < k
    · have hb2 : b' = true := by rw [← hb']; simp [hk]
      subst hb2
      clear hb'
      have hk' : (0 : Int) < (k : Int) := by omega
      go_enter Tryz.func86, Tryz.ntmps86
      go_wp2
      exact bodyPost_ret (v := .agg #[.bool true, .slice a k c]) (by simp [results, Tryz.results86, go_sem, r0, r1]) rfl ⟨_, rfl, PP.out⟩
    · have hb2 : b' = false := by rw [← hb']; simp [hk]
      subst hb2
      clear hb'
      obtain rfl : k = 0 := by omega
      go_enter Tryz.func86, Tryz.ntmps86
      go_wp2
      exact bodyPost_ret (v := .agg #[.bool false, .slice a 0 c]) (by simp [results, Tryz.results86, go_sem, r0, r1]) rfl ⟨_, rfl, PP.out⟩
end Go.Proofs.YtfijhkaalpinhaaGreatDoor
namespace Go.Proofs.YtfijhkaalpinhaaGreatDoor
open Go.RowKit

theorem zv_mul (b1 b2 : Bool) (n1 n2 : Nat) : zv (b1 != b2) (n1 * n2) = zv b1 n1 * zv b2 n2 := by
  cases b1 <;> cases b2 <;> simp [zv, Int.neg_mul, Int.mul_neg]
theorem zv_same (b : Bool) (n1 n2 : Nat) : zv b (n1 + n2) = zv b n1 + zv b n2 := by
  cases b
  · simp [zv]
  · simp only [zv, if_true]; omega
theorem zv_diff {b1 b2 : Bool} (h : b1 ≠ b2) {n1 n2 : Nat} (hle : n2 ≤ n1) : zv b1 (n1 - n2) = zv b1 n1 + zv b2 n2 := by
  cases b1 <;> cases b2
  · exact absurd rfl h
  · simp only [zv, if_true, Bool.false_eq_true, if_false]; omega
  · simp only [zv, if_true, Bool.false_eq_true, if_false]; omega
  · exact absurd rfl h
theorem zv_minus (b : Bool) (n : Nat) : zv (!b) n = -(zv b n) := by cases b <;> simp [zv]
/-- What the walks read of the arguments' boxes. -/
def SI (g : Nat) (b1 : Bool) (a1 : Option Addr) (k1 c1 : Nat) (b2 : Bool) (a2 : Option Addr) (k2 c2 : Nat) (W : World) : Prop :=
  W.cell? ⟨g, 0, none⟩ = some (.bool b1) ∧ W.cell? ⟨g, 1, none⟩ = some (.slice a1 k1 c1) ∧ W.cell? ⟨g + 1, 0, none⟩ = some (.bool b2) ∧ W.cell? ⟨g + 1, 1, none⟩ = some (.slice a2 k2 c2)
theorem I3.si {w : World} {b1 : Bool} {a1 : Option Addr} {k1 c1 : Nat} {b2 : Bool} {a2 : Option Addr} {k2 c2 : Nat} {W : World} (h : I3 w b1 a1 k1 c1 b2 a2 k2 c2 W) : SI w.heap.size b1 a1 k1 c1 b2 a2 k2 c2 W := ⟨h.x.c0, h.x.c1, h.y.c0, h.y.c1⟩
/-- A result's box is filled. -/
theorem I3.done {w : World} {b1 : Bool} {a1 : Option Addr} {k1 c1 : Nat} {b2 : Bool} {a2 : Option Addr} {k2 c2 : Nat} {W : World} (h : I3 w b1 a1 k1 c1 b2 a2 k2 c2 W) (y0 y1 : Value) : SI w.heap.size b1 a1 k1 c1 b2 a2 k2 c2 (two W (w.heap.size + 1 + 1) y0 y1) :=
  ⟨(h.x.other (by omega) _ _).c0, (h.x.other (by omega) _ _).c1, (h.y.other (by omega) _ _).c0, (h.y.other (by omega) _ _).c1⟩
set_option maxRecDepth 100000 in
set_option maxHeartbeats 4000000 in
theorem Times_c (b1 b2 : Bool) (a1 a2 : Option Addr) (k1 k2 c1 c2 : Nat) (z1 z2 : Int) (w : World) (h1 : Zn w b1 a1 k1 c1 z1) (h2 : Zn w b2 a2 k2 c2 z2) (n1 : z1.natAbs < bp 2000) (n2 : z2.natAbs < bp 2000) :
    Calls Tryz.prog 68 #[.agg #[.bool b1, .slice a1 k1 c1], .agg #[.bool b2, .slice a2 k2 c2]] w (ZPost (z1 * z2) w) := by
  obtain ⟨W0, hW0⟩ : ∃ W0, ((w.alloc (.cells #[.bool b1, .slice a1 k1 c1] 44)).alloc (.cells #[.bool b2, .slice a2 k2 c2] 44)).alloc (.cells #[.bool false, .slice none 0 0] 44) = W0 := ⟨_, rfl⟩
  have J0 : Hid (I3 w b1 a1 k1 c1 b2 a2 k2 c2 W0) := by rw [← hW0]; exact I3.made _ _ _ _ _ _ _ _ _ _ _ _
  have M1 := Lib.hid (fun W (h : I3 w b1 a1 k1 c1 b2 a2 k2 c2 W) => h1.nm.below h.bel)
  have M2 := Lib.hid (fun W (h : I3 w b1 a1 k1 c1 b2 a2 k2 c2 W) => h2.nm.below h.bel)
  have N1 := Lib.hid n1
  have N2 := Lib.hid n2
  have E1 := Lib.hid h1.zv
  have E2 := Lib.hid h2.zv
  clear h1 h2 n1 n2
  go_enter Tryz.func68, Tryz.ntmps68
  go_wp2_with fail
  clear hW0
  refine wp_region_noPanic ?_
  refine wp_region_held_drew (S := SI w.heap.size b1 a1 k1 c1 b2 a2 k2 c2) (by kernel_rfl) (J0.out.keep (Below.refl _ _).drew).si (fun hS => ?_)
  have J1 := Lib.hid (J0.out.keep (Below.refl _ _).drew)
  refine wpAnyH_take (i := 0) (v := ?v0z1) rfl (by kernel_rfl) (by kernel_rfl) (by kernel_rfl) (fun _ _ _ h => h) (Or.inl ⟨by rfl, ?hy0z1⟩) (by assumption) ?rest0z1
  case hy0z1 =>
    intro w hSw
    dsimp only [SI] at hSw
    go_simp
    try with_reducible rfl
  simp only [Act.put, List.getElem_toArray, List.getElem_cons_succ, List.getElem_cons_zero, List.setIfInBounds_toArray, List.set_cons_zero, List.set_cons_succ]
  refine wpAnyH_take (i := 1) (v := ?v1z2) rfl (by kernel_rfl) (by kernel_rfl) (by kernel_rfl) (fun _ _ _ h => h) (Or.inl ⟨by rfl, ?hy1z2⟩) (by assumption) ?rest1z2
  case hy1z2 =>
    intro w hSw
    dsimp only [SI] at hSw
    go_simp
    try with_reducible rfl
  simp only [Act.put, List.getElem_toArray, List.getElem_cons_succ, List.getElem_cons_zero, List.setIfInBounds_toArray, List.set_cons_zero, List.set_cons_succ]
  refine wpAnyH_take (i := 2) (v := ?v2z3) rfl (by kernel_rfl) (by kernel_rfl) (by kernel_rfl) (fun _ _ _ h => h) (Or.inl ⟨by rfl, ?hy2z3⟩) (by assumption) ?rest2z3
  case hy2z3 =>
    intro w hSw
    dsimp only [SI] at hSw
    go_simp
    try with_reducible rfl
  simp only [Act.put, List.getElem_toArray, List.getElem_cons_succ, List.getElem_cons_zero, List.setIfInBounds_toArray, List.set_cons_zero, List.set_cons_succ]
  refine wpAnyH_take (i := 3) (v := ?v3z4) rfl (by kernel_rfl) (by kernel_rfl) (by kernel_rfl) (fun _ _ _ h => h) (Or.inl ⟨by rfl, ?hy3z4⟩) (by assumption) ?rest3z4
  case hy3z4 =>
    intro w hSw
    dsimp only [SI] at hSw
    go_simp
    try with_reducible rfl
  simp only [Act.put, List.getElem_toArray, List.getElem_cons_succ, List.getElem_cons_zero, List.setIfInBounds_toArray, List.set_cons_zero, List.set_cons_succ]
  refine wpAnyH_take (i := 4) (v := ?v4z5) rfl (by kernel_rfl) (by kernel_rfl) (by kernel_rfl) (fun _ _ _ h => h) (Or.inl ⟨by rfl, ?hy4z5⟩) (by assumption) ?rest4z5
  case hy4z5 =>
    intro w hSw
    dsimp only [SI] at hSw
    go_simp
    try with_reducible rfl
  simp only [Act.put, List.getElem_toArray, List.getElem_cons_succ, List.getElem_cons_zero, List.setIfInBounds_toArray, List.set_cons_zero, List.set_cons_succ]
  refine wpAnyH_take (i := 5) (v := ?v5z6) rfl (by kernel_rfl) (by kernel_rfl) (by kernel_rfl) (fun _ _ _ h => h) (Or.inl ⟨by rfl, ?hy5z6⟩) (by assumption) ?rest5z6
  case hy5z6 =>
    intro w hSw
    dsimp only [SI] at hSw
    go_simp
    try with_reducible rfl
  simp only [Act.put, List.getElem_toArray, List.getElem_cons_succ, List.getElem_cons_zero, List.setIfInBounds_toArray, List.set_cons_zero, List.set_cons_succ]
  refine wpAnyH_take (i := 6) (v := ?v6z7) rfl (by kernel_rfl) (by kernel_rfl) (by kernel_rfl) (fun _ _ _ h => h) (Or.inl ⟨by rfl, ?hy6z7⟩) (by assumption) ?rest6z7
  case hy6z7 =>
    intro w hSw
    dsimp only [SI] at hSw
    go_simp
    try with_reducible rfl
  simp only [Act.put, List.getElem_toArray, List.getElem_cons_succ, List.getElem_cons_zero, List.setIfInBounds_toArray, List.set_cons_zero, List.set_cons_succ]
  refine wpAnyH_take (i := 7) (v := ?v7z8) rfl (by kernel_rfl) (by kernel_rfl) (by kernel_rfl) (fun _ _ _ h => h) (Or.inl ⟨by rfl, ?hy7z8⟩) (by assumption) ?rest7z8
  case hy7z8 =>
    intro w hSw
    dsimp only [SI] at hSw
    go_simp
    try with_reducible rfl
  simp only [Act.put, List.getElem_toArray, List.getElem_cons_succ, List.getElem_cons_zero, List.setIfInBounds_toArray, List.set_cons_zero, List.set_cons_succ]
  refine wpAnyH_take (i := 8) (v := ?v8z9) rfl (by kernel_rfl) (by kernel_rfl) (by kernel_rfl) (fun _ _ _ h => h) (Or.inl ⟨by rfl, ?hy8z9⟩) (by assumption) ?rest8z9
  case hy8z9 =>
    intro w hSw
    dsimp only [SI] at hSw
    go_simp
    try with_reducible rfl
  simp only [Act.put, List.getElem_toArray, List.getElem_cons_succ, List.getElem_cons_zero, List.setIfInBounds_toArray, List.set_cons_zero, List.set_cons_succ]
  refine wpAnyH_ready (rs := [9]) (by kernel_rfl) (by simp) ?_
  refine AllReadyH.cons rfl (fun K hK => ?_) AllReadyH.nil
  go_simp
  refine (product_c a1 a2 k1 k2 c1 c2 _ _ _ (M1.out _ J1.out) (M2.out _ J1.out) N1.out N2.out).mono ?_
  rintro e W2 ⟨pa, pk, pc, rfl, hp, bc⟩
  try go_simp
  have J2 := Lib.hid (J1.out.keep bc)
  have hT := J2.out.si
  have HP := Lib.hid hp
  refine hK.out _ _ hT (fun _ => ?_)
  clear hK K hS bc J1 hp
  have hS := hT
  clear hT
  try simp only [Act.put, List.setIfInBounds_toArray, List.set_cons_zero, List.set_cons_succ]
  refine wpAnyH_ready (rs := [10]) (by kernel_rfl) (by simp) ?_
  refine AllReadyH.cons rfl (fun K hK => ?_) AllReadyH.nil
  go_simp
  refine (withSign_c (b1 != b2) pa pk pc _ W2 HP.out).mono ?_
  rintro e W3 ⟨b', rfl, hz, bc⟩
  try go_simp
  have J3 := Lib.hid (J2.out.keep bc)
  have hT := J3.out.si
  have HZ : Hid (Zn W3 b' pa pk pc (z1 * z2)) := by
    rw [zv_mul, ← E1.out, ← E2.out] at hz
    exact hz
  refine hK.out _ _ hT (fun _ => ?_)
  clear hK K hS bc J2 hz HP
  have hS := hT
  clear hT
  try simp only [Act.put, List.setIfInBounds_toArray, List.set_cons_zero, List.set_cons_succ]
  refine wpAnyH_ready (rs := [11]) (by kernel_rfl) (by simp) ?_
  refine AllReadyH.cons rfl (fun K hK => ?_) AllReadyH.nil
  have q0 := J3.out.r.c0
  have q1 := J3.out.r.c1
  have g0 := J3.out.r.fr 0
  have g1 := J3.out.r.fr 1
  go_simp
  clear q0 q1 g0 g1
  have hT := J3.out.done (.bool b') (.slice pa pk pc)
  have R9 := J3.out.r.set (.bool b') (.slice pa pk pc)
  have PP : Hid (ZPost (z1 * z2) w (.returned (.agg #[.bool b', .slice pa pk pc])) (two W3 (w.heap.size + 1 + 1) (.bool b') (.slice pa pk pc))) :=
    ⟨_, _, _, _, rfl, HZ.out.set2 J3.out.r _ _, below_two J3.out.bel (by omega) _ _⟩
  unfold two at hT R9 PP
  refine hK.out _ _ hT (fun _ => ?_)
  clear hK K hS
  try simp only [Act.put, List.setIfInBounds_toArray, List.set_cons_zero, List.set_cons_succ]
  refine wpAnyH_done (by kernel_rfl) ?_ _
  refine NoPanic.normal ?_
  obtain ⟨r0, r1, _, _⟩ := id R9
  clear hT R9
  go_wp2_with fail
  exact bodyPost_ret (v := .agg #[.bool b', .slice pa pk pc]) (by simp [results, Tryz.results68, go_sem, r0, r1]) rfl PP.out
set_option maxRecDepth 100000 in
set_option maxHeartbeats 4000000 in
theorem Plus_same (b : Bool) (a1 a2 : Option Addr) (k1 k2 c1 c2 : Nat) (z1 z2 : Int) (w : World) (h1 : Zn w b a1 k1 c1 z1) (h2 : Zn w b a2 k2 c2 z2) (n1 : z1.natAbs < bp 2000) (n2 : z2.natAbs < bp 2000) :
    Calls Tryz.prog 69 #[.agg #[.bool b, .slice a1 k1 c1], .agg #[.bool b, .slice a2 k2 c2]] w (ZPost (z1 + z2) w) := by
  obtain ⟨W0, hW0⟩ : ∃ W0, ((w.alloc (.cells #[.bool b, .slice a1 k1 c1] 44)).alloc (.cells #[.bool b, .slice a2 k2 c2] 44)).alloc (.cells #[.bool false, .slice none 0 0] 44) = W0 := ⟨_, rfl⟩
  have J0 : Hid (I3 w b a1 k1 c1 b a2 k2 c2 W0) := by rw [← hW0]; exact I3.made _ _ _ _ _ _ _ _ _ _ _ _
  have M1 := Lib.hid (fun W (h : I3 w b a1 k1 c1 b a2 k2 c2 W) => h1.nm.below h.bel)
  have M2 := Lib.hid (fun W (h : I3 w b a1 k1 c1 b a2 k2 c2 W) => h2.nm.below h.bel)
  have N1 := Lib.hid n1
  have N2 := Lib.hid n2
  have E1 := Lib.hid h1.zv
  have E2 := Lib.hid h2.zv
  have P1 : Hid (b = true → 0 < z1.natAbs) := by
    intro e
    obtain ⟨n, _, hp, rfl⟩ := h1
    rw [zv_abs]; exact hp e
  have hbb : (b == b) = true := by simp
  clear h1 h2 n1 n2
  have x0 := J0.out.x.c0
  have x1 := J0.out.x.c1
  have y0 := J0.out.y.c0
  have y1 := J0.out.y.c1
  go_enter Tryz.func69, Tryz.ntmps69
  go_wp2_with fail
  clear hW0
  clear x0 x1 y0 y1
  refine wp_region_noPanic ?_
  refine wp_region_held_drew (S := SI w.heap.size b a1 k1 c1 b a2 k2 c2) (by kernel_rfl) (J0.out.keep (Below.refl _ _).drew).si (fun hS => ?_)
  have J1 := Lib.hid (J0.out.keep (Below.refl _ _).drew)
  refine wpAnyH_take (i := 0) (v := ?v0z10) rfl (by kernel_rfl) (by kernel_rfl) (by kernel_rfl) (fun _ _ _ h => h) (Or.inl ⟨by rfl, ?hy0z10⟩) (by assumption) ?rest0z10
  case hy0z10 =>
    intro w hSw
    dsimp only [SI] at hSw
    go_simp
    try with_reducible rfl
  simp only [Act.put, List.getElem_toArray, List.getElem_cons_succ, List.getElem_cons_zero, List.setIfInBounds_toArray, List.set_cons_zero, List.set_cons_succ]
  refine wpAnyH_take (i := 1) (v := ?v1z11) rfl (by kernel_rfl) (by kernel_rfl) (by kernel_rfl) (fun _ _ _ h => h) (Or.inl ⟨by rfl, ?hy1z11⟩) (by assumption) ?rest1z11
  case hy1z11 =>
    intro w hSw
    dsimp only [SI] at hSw
    go_simp
    try with_reducible rfl
  simp only [Act.put, List.getElem_toArray, List.getElem_cons_succ, List.getElem_cons_zero, List.setIfInBounds_toArray, List.set_cons_zero, List.set_cons_succ]
  refine wpAnyH_take (i := 2) (v := ?v2z12) rfl (by kernel_rfl) (by kernel_rfl) (by kernel_rfl) (fun _ _ _ h => h) (Or.inl ⟨by rfl, ?hy2z12⟩) (by assumption) ?rest2z12
  case hy2z12 =>
    intro w hSw
    dsimp only [SI] at hSw
    go_simp
    try with_reducible rfl
  simp only [Act.put, List.getElem_toArray, List.getElem_cons_succ, List.getElem_cons_zero, List.setIfInBounds_toArray, List.set_cons_zero, List.set_cons_succ]
  refine wpAnyH_take (i := 3) (v := ?v3z13) rfl (by kernel_rfl) (by kernel_rfl) (by kernel_rfl) (fun _ _ _ h => h) (Or.inl ⟨by rfl, ?hy3z13⟩) (by assumption) ?rest3z13
  case hy3z13 =>
    intro w hSw
    dsimp only [SI] at hSw
    go_simp
    try with_reducible rfl
  simp only [Act.put, List.getElem_toArray, List.getElem_cons_succ, List.getElem_cons_zero, List.setIfInBounds_toArray, List.set_cons_zero, List.set_cons_succ]
  refine wpAnyH_take (i := 4) (v := ?v4z14) rfl (by kernel_rfl) (by kernel_rfl) (by kernel_rfl) (fun _ _ _ h => h) (Or.inl ⟨by rfl, ?hy4z14⟩) (by assumption) ?rest4z14
  case hy4z14 =>
    intro w hSw
    dsimp only [SI] at hSw
    go_simp
    try with_reducible rfl
  simp only [Act.put, List.getElem_toArray, List.getElem_cons_succ, List.getElem_cons_zero, List.setIfInBounds_toArray, List.set_cons_zero, List.set_cons_succ]
  refine wpAnyH_take (i := 5) (v := ?v5z15) rfl (by kernel_rfl) (by kernel_rfl) (by kernel_rfl) (fun _ _ _ h => h) (Or.inl ⟨by rfl, ?hy5z15⟩) (by assumption) ?rest5z15
  case hy5z15 =>
    intro w hSw
    dsimp only [SI] at hSw
    go_simp
    try with_reducible rfl
  simp only [Act.put, List.getElem_toArray, List.getElem_cons_succ, List.getElem_cons_zero, List.setIfInBounds_toArray, List.set_cons_zero, List.set_cons_succ]
  refine wpAnyH_ready (rs := [6]) (by kernel_rfl) (by simp) ?_
  refine AllReadyH.cons rfl (fun K hK => ?_) AllReadyH.nil
  go_simp
  refine (sum_c a1 a2 k1 k2 c1 c2 _ _ _ (M1.out _ J1.out) (M2.out _ J1.out) N1.out N2.out).mono ?_
  rintro e W3 ⟨pa, pk, pc, rfl, hp, bc⟩
  try go_simp
  have J3 := Lib.hid (J1.out.keep bc)
  have hT := J3.out.si
  have HZ : Hid (Zn W3 b pa pk pc (z1 + z2)) := by
    refine ⟨_, hp, fun e => by have := P1.out e; omega, ?_⟩
    rw [zv_same, ← E1.out, ← E2.out]
  refine hK.out _ _ hT (fun _ => ?_)
  clear hK K hS bc J1 hp
  have hS := hT
  clear hT
  try simp only [Act.put, List.setIfInBounds_toArray, List.set_cons_zero, List.set_cons_succ]
  refine wpAnyH_take (i := 7) (v := ?v7z16) rfl (by kernel_rfl) (by kernel_rfl) (by kernel_rfl) (fun _ _ _ h => h) (Or.inl ⟨by rfl, ?hy7z16⟩) (by assumption) ?rest7z16
  case hy7z16 =>
    intro w hSw
    dsimp only [SI] at hSw
    go_simp
    try with_reducible rfl
  simp only [Act.put, List.getElem_toArray, List.getElem_cons_succ, List.getElem_cons_zero, List.setIfInBounds_toArray, List.set_cons_zero, List.set_cons_succ]
  refine wpAnyH_ready (rs := [8]) (by kernel_rfl) (by simp) ?_
  refine AllReadyH.cons rfl (fun K hK => ?_) AllReadyH.nil
  have q0 := J3.out.r.c0
  have q1 := J3.out.r.c1
  have g0 := J3.out.r.fr 0
  have g1 := J3.out.r.fr 1
  go_simp
  clear q0 q1 g0 g1
  have hT := J3.out.done (.bool b) (.slice pa pk pc)
  have R9 := J3.out.r.set (.bool b) (.slice pa pk pc)
  have PP : Hid (ZPost (z1 + z2) w (.returned (.agg #[.bool b, .slice pa pk pc])) (two W3 (w.heap.size + 1 + 1) (.bool b) (.slice pa pk pc))) :=
    ⟨_, _, _, _, rfl, HZ.out.set2 J3.out.r _ _, below_two J3.out.bel (by omega) _ _⟩
  unfold two at hT R9 PP
  refine hK.out _ _ hT (fun _ => ?_)
  clear hK K hS
  try simp only [Act.put, List.setIfInBounds_toArray, List.set_cons_zero, List.set_cons_succ]
  refine wpAnyH_done (by kernel_rfl) ?_ _
  refine NoPanic.normal ?_
  obtain ⟨r0, r1, _, _⟩ := id R9
  clear hT R9
  go_wp2_with fail
  exact bodyPost_ret (v := .agg #[.bool b, .slice pa pk pc]) (by simp [results, Tryz.results69, go_sem, r0, r1]) rfl PP.out
set_option maxRecDepth 100000 in
set_option maxHeartbeats 4000000 in
theorem Plus_diff (b1 b2 : Bool) (a1 a2 : Option Addr) (k1 k2 c1 c2 : Nat) (z1 z2 : Int) (w : World) (h1 : Zn w b1 a1 k1 c1 z1) (h2 : Zn w b2 a2 k2 c2 z2) (hne : b1 ≠ b2) (hlt : z2.natAbs ≤ z1.natAbs) :
    Calls Tryz.prog 69 #[.agg #[.bool b1, .slice a1 k1 c1], .agg #[.bool b2, .slice a2 k2 c2]] w (ZPost (z1 + z2) w) := by
  obtain ⟨W0, hW0⟩ : ∃ W0, ((w.alloc (.cells #[.bool b1, .slice a1 k1 c1] 44)).alloc (.cells #[.bool b2, .slice a2 k2 c2] 44)).alloc (.cells #[.bool false, .slice none 0 0] 44) = W0 := ⟨_, rfl⟩
  have J0 : Hid (I3 w b1 a1 k1 c1 b2 a2 k2 c2 W0) := by rw [← hW0]; exact I3.made _ _ _ _ _ _ _ _ _ _ _ _
  have M1 := Lib.hid h1.nm
  have M2 := Lib.hid h2.nm
  have E1 := Lib.hid h1.zv
  have E2 := Lib.hid h2.zv
  have HC := Lib.hid (compare_c a1 a2 k1 k2 c1 c2 _ _ W0 (h1.nm.below J0.out.bel) (h2.nm.below J0.out.bel))
  have hd : decide (sgn z1.natAbs z2.natAbs < 0) = false := by rw [sgn_neg]; simp; omega
  have HLE := Lib.hid hlt
  have hbe : (b1 == b2) = false := by rw [beq_eq_false_iff_ne]; exact hne
  have HNE := Lib.hid hne
  clear h1 h2 hne hlt
  generalize sgn z1.natAbs z2.natAbs = sg at *
  have x0 := J0.out.x.c0
  have x1 := J0.out.x.c1
  have y0 := J0.out.y.c0
  have y1 := J0.out.y.c1
  go_enter Tryz.func69, Tryz.ntmps69
  go_wp2_with fail
  clear hW0
  refine HC.out.mono ?_
  rintro e w1 ⟨rfl, q, rfl⟩
  have J1 := Lib.hid (J0.out.keep (bel_drewN W0 q))
  have M1' := Lib.hid (M1.out.below (J1.out.bel))
  have M2' := Lib.hid (M2.out.below (J1.out.bel))
  clear x0 x1 y0 y1 HC J0 M1 M2
  generalize W0.drewN q = W1 at *
  have x0 := J1.out.x.c0
  have x1 := J1.out.x.c1
  have y0 := J1.out.y.c0
  have y1 := J1.out.y.c1
  have J0 := Lib.hid J1.out
  have M1 := Lib.hid M1'.out
  have M2 := Lib.hid M2'.out
  clear J1 M1' M2'
  go_wp2_with fail
  clear x0 x1 y0 y1
  refine wp_region_noPanic ?_
  refine wp_region_held_drew (S := SI w.heap.size b1 a1 k1 c1 b2 a2 k2 c2) (by kernel_rfl) (J0.out.keep (Below.refl _ _).drew).si (fun hS => ?_)
  have J2 := Lib.hid (J0.out.keep (Below.refl _ _).drew)
  refine wpAnyH_take (i := 0) (v := ?v0z17) rfl (by kernel_rfl) (by kernel_rfl) (by kernel_rfl) (fun _ _ _ h => h) (Or.inl ⟨by rfl, ?hy0z17⟩) (by assumption) ?rest0z17
  case hy0z17 =>
    intro w hSw
    dsimp only [SI] at hSw
    go_simp
    try with_reducible rfl
  simp only [Act.put, List.getElem_toArray, List.getElem_cons_succ, List.getElem_cons_zero, List.setIfInBounds_toArray, List.set_cons_zero, List.set_cons_succ]
  refine wpAnyH_take (i := 1) (v := ?v1z18) rfl (by kernel_rfl) (by kernel_rfl) (by kernel_rfl) (fun _ _ _ h => h) (Or.inl ⟨by rfl, ?hy1z18⟩) (by assumption) ?rest1z18
  case hy1z18 =>
    intro w hSw
    dsimp only [SI] at hSw
    go_simp
    try with_reducible rfl
  simp only [Act.put, List.getElem_toArray, List.getElem_cons_succ, List.getElem_cons_zero, List.setIfInBounds_toArray, List.set_cons_zero, List.set_cons_succ]
  refine wpAnyH_take (i := 2) (v := ?v2z19) rfl (by kernel_rfl) (by kernel_rfl) (by kernel_rfl) (fun _ _ _ h => h) (Or.inl ⟨by rfl, ?hy2z19⟩) (by assumption) ?rest2z19
  case hy2z19 =>
    intro w hSw
    dsimp only [SI] at hSw
    go_simp
    try with_reducible rfl
  simp only [Act.put, List.getElem_toArray, List.getElem_cons_succ, List.getElem_cons_zero, List.setIfInBounds_toArray, List.set_cons_zero, List.set_cons_succ]
  refine wpAnyH_take (i := 3) (v := ?v3z20) rfl (by kernel_rfl) (by kernel_rfl) (by kernel_rfl) (fun _ _ _ h => h) (Or.inl ⟨by rfl, ?hy3z20⟩) (by assumption) ?rest3z20
  case hy3z20 =>
    intro w hSw
    dsimp only [SI] at hSw
    go_simp
    try with_reducible rfl
  simp only [Act.put, List.getElem_toArray, List.getElem_cons_succ, List.getElem_cons_zero, List.setIfInBounds_toArray, List.set_cons_zero, List.set_cons_succ]
  refine wpAnyH_take (i := 4) (v := ?v4z21) rfl (by kernel_rfl) (by kernel_rfl) (by kernel_rfl) (fun _ _ _ h => h) (Or.inl ⟨by rfl, ?hy4z21⟩) (by assumption) ?rest4z21
  case hy4z21 =>
    intro w hSw
    dsimp only [SI] at hSw
    go_simp
    try with_reducible rfl
  simp only [Act.put, List.getElem_toArray, List.getElem_cons_succ, List.getElem_cons_zero, List.setIfInBounds_toArray, List.set_cons_zero, List.set_cons_succ]
  refine wpAnyH_take (i := 5) (v := ?v5z22) rfl (by kernel_rfl) (by kernel_rfl) (by kernel_rfl) (fun _ _ _ h => h) (Or.inl ⟨by rfl, ?hy5z22⟩) (by assumption) ?rest5z22
  case hy5z22 =>
    intro w hSw
    dsimp only [SI] at hSw
    go_simp
    try with_reducible rfl
  simp only [Act.put, List.getElem_toArray, List.getElem_cons_succ, List.getElem_cons_zero, List.setIfInBounds_toArray, List.set_cons_zero, List.set_cons_succ]
  refine wpAnyH_ready (rs := [6]) (by kernel_rfl) (by simp) ?_
  refine AllReadyH.cons rfl (fun K hK => ?_) AllReadyH.nil
  go_simp
  refine (difference_c a1 a2 k1 k2 c1 c2 _ _ _ (M1.out.below (Below.refl _ _).drew) (M2.out.below (Below.refl _ _).drew) (by have := HLE.out; omega)).mono ?_
  rintro e W4 ⟨pa, pk, pc, rfl, hp, bc⟩
  try go_simp
  have J4 := Lib.hid (J2.out.keep bc)
  have hT := J4.out.si
  have HP := Lib.hid hp
  refine hK.out _ _ hT (fun _ => ?_)
  clear hK K hS bc J2 hp
  have hS := hT
  clear hT
  try simp only [Act.put, List.setIfInBounds_toArray, List.set_cons_zero, List.set_cons_succ]
  refine wpAnyH_ready (rs := [7]) (by kernel_rfl) (by simp) ?_
  refine AllReadyH.cons rfl (fun K hK => ?_) AllReadyH.nil
  go_simp
  refine (withSign_c b1 pa pk pc _ W4 HP.out).mono ?_
  rintro e W5 ⟨b', rfl, hz, bc⟩
  try go_simp
  have J5 := Lib.hid (J4.out.keep bc)
  have hT := J5.out.si
  have HZ : Hid (Zn W5 b' pa pk pc (z1 + z2)) := by
    rw [zv_diff (b1 := b1) (b2 := b2) HNE.out (by have := HLE.out; omega), ← E1.out, ← E2.out] at hz
    exact hz
  refine hK.out _ _ hT (fun _ => ?_)
  clear hK K hS bc J4 hz HP
  have hS := hT
  clear hT
  try simp only [Act.put, List.setIfInBounds_toArray, List.set_cons_zero, List.set_cons_succ]
  refine wpAnyH_ready (rs := [8]) (by kernel_rfl) (by simp) ?_
  refine AllReadyH.cons rfl (fun K hK => ?_) AllReadyH.nil
  have q0 := J5.out.r.c0
  have q1 := J5.out.r.c1
  have g0 := J5.out.r.fr 0
  have g1 := J5.out.r.fr 1
  go_simp
  clear q0 q1 g0 g1
  have hT := J5.out.done (.bool b') (.slice pa pk pc)
  have R9 := J5.out.r.set (.bool b') (.slice pa pk pc)
  have PP : Hid (ZPost (z1 + z2) w (.returned (.agg #[.bool b', .slice pa pk pc])) (two W5 (w.heap.size + 1 + 1) (.bool b') (.slice pa pk pc))) :=
    ⟨_, _, _, _, rfl, HZ.out.set2 J5.out.r _ _, below_two J5.out.bel (by omega) _ _⟩
  unfold two at hT R9 PP
  refine hK.out _ _ hT (fun _ => ?_)
  clear hK K hS
  try simp only [Act.put, List.setIfInBounds_toArray, List.set_cons_zero, List.set_cons_succ]
  refine wpAnyH_done (by kernel_rfl) ?_ _
  refine NoPanic.normal ?_
  obtain ⟨r0, r1, _, _⟩ := id R9
  clear hT R9
  go_wp2_with fail
  exact bodyPost_ret (v := .agg #[.bool b', .slice pa pk pc]) (by simp [results, Tryz.results69, go_sem, r0, r1]) rfl PP.out
set_option maxRecDepth 100000 in
set_option maxHeartbeats 4000000 in
theorem Plus_swap (b1 b2 : Bool) (a1 a2 : Option Addr) (k1 k2 c1 c2 : Nat) (z1 z2 : Int) (w : World) (h1 : Zn w b1 a1 k1 c1 z1) (h2 : Zn w b2 a2 k2 c2 z2) (hne : b1 ≠ b2) (hlt : z1.natAbs < z2.natAbs) :
    Calls Tryz.prog 69 #[.agg #[.bool b1, .slice a1 k1 c1], .agg #[.bool b2, .slice a2 k2 c2]] w (ZPost (z1 + z2) w) := by
  obtain ⟨W0, hW0⟩ : ∃ W0, ((w.alloc (.cells #[.bool b1, .slice a1 k1 c1] 44)).alloc (.cells #[.bool b2, .slice a2 k2 c2] 44)).alloc (.cells #[.bool false, .slice none 0 0] 44) = W0 := ⟨_, rfl⟩
  have J0 : Hid (I3 w b1 a1 k1 c1 b2 a2 k2 c2 W0) := by rw [← hW0]; exact I3.made _ _ _ _ _ _ _ _ _ _ _ _
  have M1 := Lib.hid h1.nm
  have M2 := Lib.hid h2.nm
  have E1 := Lib.hid h1.zv
  have E2 := Lib.hid h2.zv
  have HC := Lib.hid (compare_c a1 a2 k1 k2 c1 c2 _ _ W0 (h1.nm.below J0.out.bel) (h2.nm.below J0.out.bel))
  have hd : decide (sgn z1.natAbs z2.natAbs < 0) = true := by rw [sgn_neg]; simp; omega
  have HLE := Lib.hid hlt
  have hbe : (b1 == b2) = false := by rw [beq_eq_false_iff_ne]; exact hne
  have HNE := Lib.hid hne
  clear h1 h2 hne hlt
  generalize sgn z1.natAbs z2.natAbs = sg at *
  have x0 := J0.out.x.c0
  have x1 := J0.out.x.c1
  have y0 := J0.out.y.c0
  have y1 := J0.out.y.c1
  go_enter Tryz.func69, Tryz.ntmps69
  go_wp2_with fail
  clear hW0
  refine HC.out.mono ?_
  rintro e w1 ⟨rfl, q, rfl⟩
  have J1 := Lib.hid (J0.out.keep (bel_drewN W0 q))
  have M1' := Lib.hid (M1.out.below (J1.out.bel))
  have M2' := Lib.hid (M2.out.below (J1.out.bel))
  clear x0 x1 y0 y1 HC J0 M1 M2
  generalize W0.drewN q = W1 at *
  have x0 := J1.out.x.c0
  have x1 := J1.out.x.c1
  have y0 := J1.out.y.c0
  have y1 := J1.out.y.c1
  have xf0 := J1.out.x.fr 0
  have xf1 := J1.out.x.fr 1
  have yf0 := J1.out.y.fr 0
  have yf1 := J1.out.y.fr 1
  obtain ⟨W2, hW2⟩ : ∃ W2, two (two W1 w.heap.size (.bool b2) (.slice a2 k2 c2)) (w.heap.size + 1) (.bool b1) (.slice a1 k1 c1) = W2 := ⟨_, rfl⟩
  have hyy : B2 (two W1 w.heap.size (.bool b2) (.slice a2 k2 c2)) (w.heap.size + 1) (.bool b2) (.slice a2 k2 c2) := J1.out.y.other (by omega) _ _
  have J0 : Hid (I3 w b2 a2 k2 c2 b1 a1 k1 c1 W2) := by
    rw [← hW2]
    exact ⟨(J1.out.x.set _ _).other (by omega) _ _, hyy.set _ _, (J1.out.r.other (by omega) _ _).other (by omega) _ _, below_two (below_two J1.out.bel (Nat.le_refl _) _ _) (by omega) _ _⟩
  have M1 : Hid (Nm W2 a1 k1 c1 z1.natAbs) := by rw [← hW2]; exact (M1'.out.set2 J1.out.x _ _).set2 hyy _ _
  have M2 : Hid (Nm W2 a2 k2 c2 z2.natAbs) := by rw [← hW2]; exact (M2'.out.set2 J1.out.x _ _).set2 hyy _ _
  clear hyy M1' M2' J1
  unfold two at hW2
  go_wp2_with fail
  clear hW2 x0 x1 y0 y1 xf0 xf1 yf0 yf1
  refine wp_region_noPanic ?_
  refine wp_region_held_drew (S := SI w.heap.size b2 a2 k2 c2 b1 a1 k1 c1) (by kernel_rfl) (J0.out.keep (Below.refl _ _).drew).si (fun hS => ?_)
  have J2 := Lib.hid (J0.out.keep (Below.refl _ _).drew)
  refine wpAnyH_take (i := 0) (v := ?v0z23) rfl (by kernel_rfl) (by kernel_rfl) (by kernel_rfl) (fun _ _ _ h => h) (Or.inl ⟨by rfl, ?hy0z23⟩) (by assumption) ?rest0z23
  case hy0z23 =>
    intro w hSw
    dsimp only [SI] at hSw
    go_simp
    try with_reducible rfl
  simp only [Act.put, List.getElem_toArray, List.getElem_cons_succ, List.getElem_cons_zero, List.setIfInBounds_toArray, List.set_cons_zero, List.set_cons_succ]
  refine wpAnyH_take (i := 1) (v := ?v1z24) rfl (by kernel_rfl) (by kernel_rfl) (by kernel_rfl) (fun _ _ _ h => h) (Or.inl ⟨by rfl, ?hy1z24⟩) (by assumption) ?rest1z24
  case hy1z24 =>
    intro w hSw
    dsimp only [SI] at hSw
    go_simp
    try with_reducible rfl
  simp only [Act.put, List.getElem_toArray, List.getElem_cons_succ, List.getElem_cons_zero, List.setIfInBounds_toArray, List.set_cons_zero, List.set_cons_succ]
  refine wpAnyH_take (i := 2) (v := ?v2z25) rfl (by kernel_rfl) (by kernel_rfl) (by kernel_rfl) (fun _ _ _ h => h) (Or.inl ⟨by rfl, ?hy2z25⟩) (by assumption) ?rest2z25
  case hy2z25 =>
    intro w hSw
    dsimp only [SI] at hSw
    go_simp
    try with_reducible rfl
  simp only [Act.put, List.getElem_toArray, List.getElem_cons_succ, List.getElem_cons_zero, List.setIfInBounds_toArray, List.set_cons_zero, List.set_cons_succ]
  refine wpAnyH_take (i := 3) (v := ?v3z26) rfl (by kernel_rfl) (by kernel_rfl) (by kernel_rfl) (fun _ _ _ h => h) (Or.inl ⟨by rfl, ?hy3z26⟩) (by assumption) ?rest3z26
  case hy3z26 =>
    intro w hSw
    dsimp only [SI] at hSw
    go_simp
    try with_reducible rfl
  simp only [Act.put, List.getElem_toArray, List.getElem_cons_succ, List.getElem_cons_zero, List.setIfInBounds_toArray, List.set_cons_zero, List.set_cons_succ]
  refine wpAnyH_take (i := 4) (v := ?v4z27) rfl (by kernel_rfl) (by kernel_rfl) (by kernel_rfl) (fun _ _ _ h => h) (Or.inl ⟨by rfl, ?hy4z27⟩) (by assumption) ?rest4z27
  case hy4z27 =>
    intro w hSw
    dsimp only [SI] at hSw
    go_simp
    try with_reducible rfl
  simp only [Act.put, List.getElem_toArray, List.getElem_cons_succ, List.getElem_cons_zero, List.setIfInBounds_toArray, List.set_cons_zero, List.set_cons_succ]
  refine wpAnyH_take (i := 5) (v := ?v5z28) rfl (by kernel_rfl) (by kernel_rfl) (by kernel_rfl) (fun _ _ _ h => h) (Or.inl ⟨by rfl, ?hy5z28⟩) (by assumption) ?rest5z28
  case hy5z28 =>
    intro w hSw
    dsimp only [SI] at hSw
    go_simp
    try with_reducible rfl
  simp only [Act.put, List.getElem_toArray, List.getElem_cons_succ, List.getElem_cons_zero, List.setIfInBounds_toArray, List.set_cons_zero, List.set_cons_succ]
  refine wpAnyH_ready (rs := [6]) (by kernel_rfl) (by simp) ?_
  refine AllReadyH.cons rfl (fun K hK => ?_) AllReadyH.nil
  go_simp
  refine (difference_c a2 a1 k2 k1 c2 c1 _ _ _ (M2.out.below (Below.refl _ _).drew) (M1.out.below (Below.refl _ _).drew) (by have := HLE.out; omega)).mono ?_
  rintro e W4 ⟨pa, pk, pc, rfl, hp, bc⟩
  try go_simp
  have J4 := Lib.hid (J2.out.keep bc)
  have hT := J4.out.si
  have HP := Lib.hid hp
  refine hK.out _ _ hT (fun _ => ?_)
  clear hK K hS bc J2 hp
  have hS := hT
  clear hT
  try simp only [Act.put, List.setIfInBounds_toArray, List.set_cons_zero, List.set_cons_succ]
  refine wpAnyH_ready (rs := [7]) (by kernel_rfl) (by simp) ?_
  refine AllReadyH.cons rfl (fun K hK => ?_) AllReadyH.nil
  go_simp
  refine (withSign_c b2 pa pk pc _ W4 HP.out).mono ?_
  rintro e W5 ⟨b', rfl, hz, bc⟩
  try go_simp
  have J5 := Lib.hid (J4.out.keep bc)
  have hT := J5.out.si
  have HZ : Hid (Zn W5 b' pa pk pc (z1 + z2)) := by
    rw [zv_diff (b1 := b2) (b2 := b1) (fun e => HNE.out e.symm) (by have := HLE.out; omega), ← E2.out, ← E1.out, Int.add_comm] at hz
    exact hz
  refine hK.out _ _ hT (fun _ => ?_)
  clear hK K hS bc J4 hz HP
  have hS := hT
  clear hT
  try simp only [Act.put, List.setIfInBounds_toArray, List.set_cons_zero, List.set_cons_succ]
  refine wpAnyH_ready (rs := [8]) (by kernel_rfl) (by simp) ?_
  refine AllReadyH.cons rfl (fun K hK => ?_) AllReadyH.nil
  have q0 := J5.out.r.c0
  have q1 := J5.out.r.c1
  have g0 := J5.out.r.fr 0
  have g1 := J5.out.r.fr 1
  go_simp
  clear q0 q1 g0 g1
  have hT := J5.out.done (.bool b') (.slice pa pk pc)
  have R9 := J5.out.r.set (.bool b') (.slice pa pk pc)
  have PP : Hid (ZPost (z1 + z2) w (.returned (.agg #[.bool b', .slice pa pk pc])) (two W5 (w.heap.size + 1 + 1) (.bool b') (.slice pa pk pc))) :=
    ⟨_, _, _, _, rfl, HZ.out.set2 J5.out.r _ _, below_two J5.out.bel (by omega) _ _⟩
  unfold two at hT R9 PP
  refine hK.out _ _ hT (fun _ => ?_)
  clear hK K hS
  try simp only [Act.put, List.setIfInBounds_toArray, List.set_cons_zero, List.set_cons_succ]
  refine wpAnyH_done (by kernel_rfl) ?_ _
  refine NoPanic.normal ?_
  obtain ⟨r0, r1, _, _⟩ := id R9
  clear hT R9
  go_wp2_with fail
  exact bodyPost_ret (v := .agg #[.bool b', .slice pa pk pc]) (by simp [results, Tryz.results69, go_sem, r0, r1]) rfl PP.out
theorem Plus_c (b1 b2 : Bool) (a1 a2 : Option Addr) (k1 k2 c1 c2 : Nat) (z1 z2 : Int) (w : World) (h1 : Zn w b1 a1 k1 c1 z1) (h2 : Zn w b2 a2 k2 c2 z2) (n1 : z1.natAbs < bp 2000) (n2 : z2.natAbs < bp 2000) :
    Calls Tryz.prog 69 #[.agg #[.bool b1, .slice a1 k1 c1], .agg #[.bool b2, .slice a2 k2 c2]] w (ZPost (z1 + z2) w) := by
  by_cases e : b1 = b2
  · subst e; exact Plus_same b1 a1 a2 k1 k2 c1 c2 z1 z2 w h1 h2 n1 n2
  · by_cases hl : z1.natAbs < z2.natAbs
    · exact Plus_swap b1 b2 a1 a2 k1 k2 c1 c2 z1 z2 w h1 h2 e hl
    · exact Plus_diff b1 b2 a1 a2 k1 k2 c1 c2 z1 z2 w h1 h2 e (by omega)
end Go.Proofs.YtfijhkaalpinhaaGreatDoor
