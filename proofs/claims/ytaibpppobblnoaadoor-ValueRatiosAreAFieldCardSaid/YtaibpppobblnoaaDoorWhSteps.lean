/-
  Numbers of any size: stepsOf.
-/
import Derived.Test.YtaibpppobblnoaaDoorWhStep
namespace Go.Proofs.YtaibpppobblnoaaDoor
open Go.RowKit

/-- Where stepsOf is: the coefficients in their box, and what they do to the highest bits. -/
structure Sts (w : World) (HA HB hA hB a0 b0 a1 b1 : Nat) (odd made : Bool) (W : World) : Prop where
  stp : Stp odd a0 b0 a1 b1 HA HB hA hB
  col : made = true → Coll a0 b0 a1 b1 hA hB
  res : SBox W w.heap.size (.int .u64 0) (.int .u64 0) (.int .u64 0) (.int .u64 0) (.bool false) (.bool false)
  box : SBox W (w.heap.size + 1) (.int .u64 (a0 : Int)) (.int .u64 (b0 : Int)) (.int .u64 (a1 : Int)) (.int .u64 (b1 : Int)) (.bool odd) (.bool made)
  bel : Below w.heap.size w W
  bds : a0 < 18446744073709551616 ∧ b0 < 18446744073709551616 ∧ a1 < 18446744073709551616 ∧ b1 < 18446744073709551616
theorem Sts.keep {w : World} {HA HB hA hB a0 b0 a1 b1 : Nat} {odd made : Bool} {W W' : World} (h : Sts w HA HB hA hB a0 b0 a1 b1 odd made W) (hb : Below W.heap.size W W') : Sts w HA HB hA hB a0 b0 a1 b1 odd made W' :=
  ⟨h.stp, h.col, h.res.keep hb, h.box.keep hb, h.bel.trans (hb.mono h.bel.size), h.bds⟩
set_option maxRecDepth 100000 in
set_option maxHeartbeats 4000000 in
theorem stepsOf_c (p1 p2 : Option Addr) (z k2 c1 c2 n1 n2 : Nat) (w : World) (h1 : Nm w p1 (z + 2) c1 n1) (h2 : Nm w p2 k2 c2 n2) (hle : n2 ≤ n1) (hk2 : k2 ≤ z + 2) (hz : z < 50000) :
    Calls Tryd.prog 49 #[.slice p1 (z + 2) c1, .slice p2 k2 c2] w (StepPost n1 n2 w) := by
  obtain ⟨f1, r1, hkc1, hcc1, t1, s1, _⟩ := h1
  obtain ⟨f2, r2, hkc2, hcc2, t2, s2, _⟩ := h2
  obtain ⟨b, o, rfl, hbl, htop⟩ := r1.at_ (show z + 1 < z + 2 by omega)
  have htpos : 0 < f1 (z + 1) := by
    rcases t1 with e | e
    · omega
    · rw [show z + 2 - 1 = z + 1 by omega] at e; omega
  have htlt := r1.2.1 (z + 1) (by omega)
  obtain ⟨s, hs, hl1, hl2, HZ⟩ := lead_ex (f1 (z + 1)) htpos htlt
  have HLZ := Lib.hid HZ
  obtain ⟨HA, HB, P, la, lb, hHA, hHB, hla, hlb, hn1, hn2, ht2, hwA, hwB⟩ := heads r1.2.1 s1 hk2 r2.2.1 s2 hle hs hl2
  have ht1 : ext f1 (z + 2) (z + 1) * 2 ^ s < 18446744073709551616 := by rw [ext_in (by omega)]; exact hl2
  have HWA := Lib.hid (fun W (hb : Below w.heap.size w W) => window_c (some ⟨b, o, none⟩) (z + 2) c1 z s f1 W (r1.below hb) (Nat.le_refl _) hz hs ht1)
  have HWB := Lib.hid (fun W (hb : Below w.heap.size w W) => window_c p2 k2 c2 z s f2 W (r2.below hb) hk2 hz hs ht2)
  have EA := Lib.hid hwA
  have EB := Lib.hid hwB
  have OK : Hid (∀ odd a0 b0 a1 b1 hA hB, Stp odd a0 b0 a1 b1 HA HB hA hB → Coll a0 b0 a1 b1 hA hB → StepOk n1 n2 odd a0 b0 a1 b1) := by
    intro odd a0 b0 a1 b1 hA hB hst hco
    have t := hst.all hco hla hlb
    rw [← hn1, ← hn2] at t
    exact t
  have HLE := Lib.hid hHB
  have hwz : IntKind.i64.wrap ((z : Int) + 1) = (z : Int) + 1 := by rw [IntKind.wrap_i64]; omega
  clear r1 r2 t1 t2 s1 s2 HZ hn1 hn2 hla hlb ht1 ht2 hwA hwB hl1 hl2 hle htpos htlt hHB
  generalize f1 (z + 1) = top at *
  obtain ⟨W1, hW1⟩ : ∃ W1, w.alloc (.cells #[.int .u64 0, .int .u64 0, .int .u64 0, .int .u64 0, .bool false, .bool false] 80) = W1 := ⟨_, rfl⟩
  have R1 : Hid (SBox W1 w.heap.size (.int .u64 0) (.int .u64 0) (.int .u64 0) (.int .u64 0) (.bool false) (.bool false)) := by rw [← hW1]; exact SBox.made _ _ _ _ _ _ _ _
  have B1 : Hid (Below w.heap.size w W1) := by rw [← hW1]; exact bel_one _ _
  have S1 : Hid (W1.heap.size = w.heap.size + 1) := by rw [← hW1]; simp [Hid]
  have hbl1 : b < W1.heap.size := Nat.lt_of_lt_of_le hbl B1.out.size
  have htop1 : W1.cell? ⟨b, o + (z + 1), none⟩ = some (.int .u64 (top : Int)) := by rw [B1.out.cell (p := ⟨b, o + (z + 1), none⟩) hbl]; exact htop
  clear htop hbl
  go_enter Tryd.func49, Tryd.ntmps49
  go_wp2_with (go_at_call 65; refine (HLZ.out _).mono ?_; rintro e w' ⟨rfl, rfl⟩)
  clear htop1 hbl1
  (with_reducible refine (HWA.out _ B1.out).mono ?_)
  rintro e wA ⟨vA, rfl, hvA, qA, rfl⟩
  obtain rfl : vA = HA := by rw [hvA, ← EA.out]
  clear hvA HWA EA
  go_wp2_with fail
  (with_reducible refine (HWB.out _ (B1.out.trans ((bel_drewN W1 qA).mono B1.out.size))).mono ?_)
  rintro e wB ⟨vB, rfl, hvB, qB, rfl⟩
  obtain rfl : vB = HB := by rw [hvB, ← EB.out]
  clear hvB HWB EB
  obtain ⟨W2, hW2⟩ : ∃ W2, (W1.drewN qA).drewN qB = W2 := ⟨_, rfl⟩
  rw [hW2]
  have D2 : Hid (Below W1.heap.size W1 W2) := by rw [← hW2, drewN_drewN]; exact bel_drewN W1 (qA + qB)
  have S2 : Hid (W2.heap.size = w.heap.size + 1) := by unfold Hid; rw [← hW2]; exact S1.out
  have R2 := Lib.hid (R1.out.keep D2.out)
  have B2 := Lib.hid (B1.out.trans (D2.out.mono B1.out.size))
  clear R1 B1 S1 D2 hW2 hW1
  obtain ⟨W20, hW20⟩ : ∃ W20, W2.alloc (.cells #[.int .u64 0, .int .u64 0, .int .u64 0, .int .u64 0, .bool false, .bool false] 80) = W20 := ⟨_, rfl⟩
  have X20 : SBox W20 W2.heap.size (.int .u64 0) (.int .u64 0) (.int .u64 0) (.int .u64 0) (.bool false) (.bool false) := by rw [← hW20]; exact SBox.made _ _ _ _ _ _ _ _
  have B20 : Below W2.heap.size W2 W20 := by rw [← hW20]; exact bel_one _ _
  obtain ⟨x0, x1, x2, x3, x4, x5, xf, xl⟩ := id X20
  obtain ⟨W3, hW3⟩ : ∃ W3, six W20 W2.heap.size (.int .u64 1) (.int .u64 0) (.int .u64 0) (.int .u64 1) (.bool false) (.bool false) = W3 := ⟨_, rfl⟩
  have I0 : Hid (Sts w vA vB vA vB 1 0 0 1 false false W3) := by
    have hb : Below W2.heap.size W2 W3 := by rw [← hW3]; exact below_six B20 (Nat.le_refl _) _ _ _ _ _ _
    refine ⟨Stp.start HLE.out, (fun h => nomatch h), R2.out.keep hb, ?_, B2.out.trans (hb.mono B2.out.size), by decide⟩
    rw [← S2.out, ← hW3]
    exact X20.set _ _ _ _ _ _
  have f0 := xf 0
  have f1 := xf 1
  have f2 := xf 2
  have f3 := xf 3
  have f4 := xf 4
  have f5 := xf 5
  clear X20 B20 xf R2 B2
  unfold six at hW3
  go_wp2_with fail
  clear hW3 hW20 x0 x1 x2 x3 x4 x5 f0 f1 f2 f3 f4 f5
  have HS2 := S2.out
  rw [HS2]
  clear HS2 S2
  go_loopw [6, 7] (fun uA uB wr => ∃ (hA hB a0 b0 a1 b1 : Nat) (odd made : Bool), uA = .int .u64 hA ∧ uB = .int .u64 hB ∧ hA < 18446744073709551616 ∧ Hid (Sts w vA vB hA hB a0 b0 a1 b1 odd made wr)) (fun _ uB _ => (intOf uB).toNat)
  case atStart => exact ⟨vA, vB, 1, 0, 0, 1, false, false, rfl, rfl, hHA, I0.out⟩
  case round =>
    clear I0
    obtain ⟨hA, hB, a0, b0, a1, b1, odd, made, rfl, rfl, hAb, hI⟩ := hrel
    rcases Nat.eq_zero_or_pos hB with hp | hp
    · have OKK : Hid (made = true → StepOk n1 n2 odd a0 b0 a1 b1) := fun h => OK.out _ _ _ _ _ _ _ hI.out.stp (hI.out.col h)
      subst hp
      have hE := Lib.hid hI.out
      clear hI
      obtain ⟨s0, s1, s2, s3, s4, s5, sf, sl⟩ := id hE.out.box
      obtain ⟨r0, r1, r2, r3, r4, r5, rf, rl⟩ := id hE.out.res
      obtain ⟨W9, hW9⟩ : ∃ W9, six wr w.heap.size (.int .u64 (a0 : Int)) (.int .u64 (b0 : Int)) (.int .u64 (a1 : Int)) (.int .u64 (b1 : Int)) (.bool odd) (.bool made) = W9 := ⟨_, rfl⟩
      have R9 : SBox W9 w.heap.size (.int .u64 (a0 : Int)) (.int .u64 (b0 : Int)) (.int .u64 (a1 : Int)) (.int .u64 (b1 : Int)) (.bool odd) (.bool made) := by rw [← hW9]; exact hE.out.res.set _ _ _ _ _ _
      have PP : Hid (StepPost n1 n2 w (.returned (stepV a0 b0 a1 b1 odd made)) W9) := by
        have x := hE.out.bds
        refine ⟨a0, b0, a1, b1, odd, made, rfl, x.1, x.2.1, x.2.2.1, x.2.2.2, OKK.out, ?_⟩
        rw [← hW9]
        exact below_six hE.out.bel (Nat.le_refl _) _ _ _ _ _ _
      have rf0 := rf 0
      have rf1 := rf 1
      have rf2 := rf 2
      have rf3 := rf 3
      have rf4 := rf 4
      have rf5 := rf 5
      obtain ⟨t0, t1, t2, t3, t4, t5, tf, tl⟩ := R9
      clear rf rl sf sl tf tl hE
      unfold six at hW9
      go_wp2_with fail
      exact bodyPost_ret (v := stepV a0 b0 a1 b1 odd made) (by simp [results, Tryd.results49, go_sem, t0, t1, t2, t3, t4, t5]) rfl PP.out
    · have hle := hI.out.stp.le
      have hN := hI.out.stp.next hp
      obtain ⟨q, hq⟩ : ∃ q, hA / hB = q := ⟨_, rfl⟩
      obtain ⟨r, hr⟩ : ∃ r, hA % hB = r := ⟨_, rfl⟩
      have hrl : r < hB := by rw [← hr]; exact Nat.mod_lt _ hp
      rw [hq, hr] at hN
      obtain ⟨x1, hx1⟩ : ∃ x, q * a1 = x := ⟨_, rfl⟩
      obtain ⟨x2, hx2⟩ : ∃ x, q * b1 = x := ⟨_, rfl⟩
      obtain ⟨an, han⟩ : ∃ x, a0 + x1 = x := ⟨_, rfl⟩
      obtain ⟨bn, hbn⟩ : ∃ x, b0 + x2 = x := ⟨_, rfl⟩
      rw [hx1, hx2, han, hbn] at hN
      obtain ⟨hN1, hN2, hN3, hN4⟩ := hN
      have bd := hN1.bound hp
      have hvBA := HLE.out
      have e1 : (hA : Int) / (hB : Int) = (q : Int) := div_cast hq
      have e2 : (q : Int) * (a1 : Int) = (x1 : Int) := mul_cast hx1
      have e3 : (q : Int) * (b1 : Int) = (x2 : Int) := mul_cast hx2
      have e4 : (a0 : Int) + (x1 : Int) = (an : Int) := by omega
      have e5 : (b0 : Int) + (x2 : Int) = (bn : Int) := by omega
      have w1 : IntKind.u64.wrap (x1 : Int) = (x1 : Int) := wrap_lt (by omega)
      have w2 : IntKind.u64.wrap (x2 : Int) = (x2 : Int) := wrap_lt (by omega)
      have w3 : IntKind.u64.wrap (an : Int) = (an : Int) := wrap_lt (by omega)
      have w4 : IntKind.u64.wrap (bn : Int) = (bn : Int) := wrap_lt (by omega)
      have wq : IntKind.u64.wrap (q : Int) = (q : Int) := wrap_lt (by have := Nat.div_le_self hA hB; omega)
      have hri : (hA : Int) % (hB : Int) = (r : Int) := by rw [← hr, Int.natCast_emod]
      have HRI := Lib.hid hri
      have bn64 : bn < 18446744073709551616 := by omega
      have an64 : an < 18446744073709551616 := by omega
      have hB64 : hB < 18446744073709551616 := by omega
      have BD3 := Lib.hid bd.2.2
      have N1 := Lib.hid hN1
      have N2 := Lib.hid hN2
      have N3 := Lib.hid hN3
      have N4 := Lib.hid hN4
      clear hq hr hx1 hx2 han hbn hri bd hN1 hN2 hN3 hN4 hvBA
      go_wp2_with fail
      go_quiet (fail)
      rw [HRI.out]
      have hE := Lib.hid (hI.out.keep (bel_drewN wr nq))
      generalize wr.drewN nq = Wd at *
      obtain ⟨y0, y1, y2, y3, y4, y5, yf, yl⟩ := hE.out.box
      obtain ⟨Wz, hWz⟩ : ∃ Wz, Wd.alloc (.cells #[.int .u64 0, .int .u64 0, .int .u64 0, .int .u64 0, .bool false, .bool false] 80) = Wz := ⟨_, rfl⟩
      have Xz : SBox Wz Wd.heap.size (.int .u64 0) (.int .u64 0) (.int .u64 0) (.int .u64 0) (.bool false) (.bool false) := by rw [← hWz]; exact SBox.made _ _ _ _ _ _ _ _
      have Bz : Below Wd.heap.size Wd Wz := by rw [← hWz]; exact bel_one _ _
      obtain ⟨z0, z1, z2, z3, z4, z5, zf, zl⟩ := id Xz
      obtain ⟨Wn, hWn⟩ : ∃ Wn, six Wz Wd.heap.size (.int .u64 (a1 : Int)) (.int .u64 (b1 : Int)) (.int .u64 (an : Int)) (.int .u64 (bn : Int)) (.bool (!odd)) (.bool true) = Wn := ⟨_, rfl⟩
      have hbn' : Below Wd.heap.size Wd Wn := by rw [← hWn]; exact below_six Bz (Nat.le_refl _) _ _ _ _ _ _
      have Xn : SBox Wn Wd.heap.size (.int .u64 (a1 : Int)) (.int .u64 (b1 : Int)) (.int .u64 (an : Int)) (.int .u64 (bn : Int)) (.bool (!odd)) (.bool true) := by rw [← hWn]; exact Xz.set _ _ _ _ _ _
      have zf0 := zf 0
      have zf1 := zf 1
      have zf2 := zf 2
      have zf3 := zf 3
      have zf4 := zf 4
      have zf5 := zf 5
      have HXN := Lib.hid Xn
      have hEn := Lib.hid (hE.out.keep hbn')
      have HNL : Hid (w.heap.size + 1 ≠ Wd.heap.size) := by unfold Hid; omega
      obtain ⟨m0, m1, m2, m3, m4, m5, mf, ml⟩ := Xn
      clear Xz Bz zf hbn' hE mf ml zl yf yl hI
      unfold six at hWn
      by_cases hc1 : r < bn
      · have hc1' : (r : Int) < (bn : Int) := by omega
        have OKK : Hid (made = true → StepOk n1 n2 odd a0 b0 a1 b1) := fun h => OK.out _ _ _ _ _ _ _ hEn.out.stp (hEn.out.col h)
        have hE := Lib.hid hEn.out
        clear hEn
        obtain ⟨s0, s1, s2, s3, s4, s5, sf, sl⟩ := id hE.out.box
        obtain ⟨r0, r1, r2, r3, r4, r5, rf, rl⟩ := id hE.out.res
        obtain ⟨W9, hW9⟩ : ∃ W9, six Wn w.heap.size (.int .u64 (a0 : Int)) (.int .u64 (b0 : Int)) (.int .u64 (a1 : Int)) (.int .u64 (b1 : Int)) (.bool odd) (.bool made) = W9 := ⟨_, rfl⟩
        have R9 : SBox W9 w.heap.size (.int .u64 (a0 : Int)) (.int .u64 (b0 : Int)) (.int .u64 (a1 : Int)) (.int .u64 (b1 : Int)) (.bool odd) (.bool made) := by rw [← hW9]; exact hE.out.res.set _ _ _ _ _ _
        have PP : Hid (StepPost n1 n2 w (.returned (stepV a0 b0 a1 b1 odd made)) W9) := by
          have x := hE.out.bds
          refine ⟨a0, b0, a1, b1, odd, made, rfl, x.1, x.2.1, x.2.2.1, x.2.2.2, OKK.out, ?_⟩
          rw [← hW9]
          exact below_six hE.out.bel (Nat.le_refl _) _ _ _ _ _ _
        have rf0 := rf 0
        have rf1 := rf 1
        have rf2 := rf 2
        have rf3 := rf 3
        have rf4 := rf 4
        have rf5 := rf 5
        obtain ⟨t0, t1, t2, t3, t4, t5, tf, tl⟩ := R9
        clear rf rl sf sl tf tl hE
        unfold six at hW9
        go_wp2_with fail
        exact bodyPost_ret (v := stepV a0 b0 a1 b1 odd made) (by simp [results, Tryd.results49, go_sem, t0, t1, t2, t3, t4, t5]) rfl PP.out
      · have hc1' : ¬ (r : Int) < (bn : Int) := by omega
        have hr0 : 0 < r := by
          have h := N1.out.i3
          omega
        have hsum := (BD3.out hr0).1
        have hsb : IntKind.u64.wrap ((b1 : Int) + (bn : Int)) = (b1 : Int) + (bn : Int) := by
          have t := @wrap_lt (b1 + bn) (by omega)
          rw [Int.natCast_add] at t
          exact t
        have hdb : IntKind.u64.wrap ((hB : Int) - (r : Int)) = (hB : Int) - (r : Int) := by rw [IntKind.wrap_u64]; omega
        clear hsum
        by_cases hc2 : hB - r < b1 + bn
        · have hc2' : (hB : Int) - (r : Int) < (b1 : Int) + (bn : Int) := by omega
          have OKK : Hid (made = true → StepOk n1 n2 odd a0 b0 a1 b1) := fun h => OK.out _ _ _ _ _ _ _ hEn.out.stp (hEn.out.col h)
          have hE := Lib.hid hEn.out
          clear hEn
          obtain ⟨s0, s1, s2, s3, s4, s5, sf, sl⟩ := id hE.out.box
          obtain ⟨r0, r1, r2, r3, r4, r5, rf, rl⟩ := id hE.out.res
          obtain ⟨W9, hW9⟩ : ∃ W9, six Wn w.heap.size (.int .u64 (a0 : Int)) (.int .u64 (b0 : Int)) (.int .u64 (a1 : Int)) (.int .u64 (b1 : Int)) (.bool odd) (.bool made) = W9 := ⟨_, rfl⟩
          have R9 : SBox W9 w.heap.size (.int .u64 (a0 : Int)) (.int .u64 (b0 : Int)) (.int .u64 (a1 : Int)) (.int .u64 (b1 : Int)) (.bool odd) (.bool made) := by rw [← hW9]; exact hE.out.res.set _ _ _ _ _ _
          have PP : Hid (StepPost n1 n2 w (.returned (stepV a0 b0 a1 b1 odd made)) W9) := by
            have x := hE.out.bds
            refine ⟨a0, b0, a1, b1, odd, made, rfl, x.1, x.2.1, x.2.2.1, x.2.2.2, OKK.out, ?_⟩
            rw [← hW9]
            exact below_six hE.out.bel (Nat.le_refl _) _ _ _ _ _ _
          have rf0 := rf 0
          have rf1 := rf 1
          have rf2 := rf 2
          have rf3 := rf 3
          have rf4 := rf 4
          have rf5 := rf 5
          obtain ⟨t0, t1, t2, t3, t4, t5, tf, tl⟩ := R9
          clear rf rl sf sl tf tl hE
          unfold six at hW9
          go_wp2_with fail
          exact bodyPost_ret (v := stepV a0 b0 a1 b1 odd made) (by simp [results, Tryd.results49, go_sem, t0, t1, t2, t3, t4, t5]) rfl PP.out
        · have hc2' : ¬ (hB : Int) - (r : Int) < (b1 : Int) + (bn : Int) := by omega
          obtain ⟨v0, v1, v2, v3, v4, v5, vf, vl⟩ := id hEn.out.box
          obtain ⟨Ws, hWs⟩ : ∃ Ws, six Wn (w.heap.size + 1) (.int .u64 (a1 : Int)) (.int .u64 (b1 : Int)) (.int .u64 (an : Int)) (.int .u64 (bn : Int)) (.bool (!odd)) (.bool true) = Ws := ⟨_, rfl⟩
          have NX : Hid (Sts w vA vB hB r a1 b1 an bn (!odd) true Ws) := by
            have x := hEn.out
            have xb := x.bds
            rw [← hWs]
            exact ⟨N1.out, fun _ => ⟨N2.out, N3.out, N4.out, by omega, by omega⟩, x.res.other (by omega) _ _ _ _ _ _, x.box.set _ _ _ _ _ _, below_six x.bel (by omega) _ _ _ _ _ _, xb.2.2.1, xb.2.2.2, an64, bn64⟩
          have vf0 := vf 0
          have vf1 := vf 1
          have vf2 := vf 2
          have vf3 := vf 3
          have vf4 := vf 4
          have vf5 := vf 5
          clear vf vl hEn
          unfold six at hWs
          go_wp2_with fail
          go_roundw
          case rel => exact ⟨hB, r, a1, b1, an, bn, !odd, true, rfl, rfl, hB64, NX.out⟩
          case measure => simp [intOf]; omega
end Go.Proofs.YtaibpppobblnoaaDoor
