/-
  Numbers of any size: the long division.
-/
import Derived.Test.YtaibpppobblnoaaDoorWhShiftD
import Derived.Test.YtaibpppobblnoaaDoorWhLongM
namespace Go.Proofs.YtaibpppobblnoaaDoor
open Go.RowKit

theorem Bf.other {W W' : World} {h K g : Nat} {f : Nat → Nat} (hb : Bf W h K f) (hg : W.grownBy W' (some g)) (hne : h ≠ g) : Bf W' h K f := by
  have e : W'.heap[h]? = W.heap[h]? := hg.block h hb.1 (by intro e; injection e with e; exact hne e)
  exact ⟨Nat.lt_of_lt_of_le hb.1 hg.size, hb.2.1, fun j hj => ⟨(World.cell?_of_block (a := ⟨h, j, none⟩) e).trans (hb.2.2 j hj).1, (World.frozen?_of_block (a := ⟨h, j, none⟩) e).trans (hb.2.2 j hj).2⟩⟩
theorem Bf.setOther {W : World} {h K g i : Nat} {f : Nat → Nat} {v : Value} (hb : Bf W h K f) (hne : h ≠ g) : Bf (W.setCell ⟨g, i, none⟩ v) h K f :=
  hb.other (grown_set (World.grownBy.refl W (some g))) hne
/-- Where the long division is: the rest, the quotient so far. -/
structure Lng (w3 : World) (gr go K L d A : Nat) (p : Nat) (F G : Nat → Nat) (W : World) : Prop where
  rest : Bf W gr K F
  quo : Bf W go L G
  bel : Below w3.heap.size w3 W
  sum : S F K + d * (bp p * S (from_ G p) (L - p)) = A
  low : S (from_ F p) (K - p) < d
theorem Lng.keep {w3 : World} {gr go K L d A p : Nat} {F G : Nat → Nat} {W W' : World} (h : Lng w3 gr go K L d A p F G W) (hb : Below W.heap.size W W') : Lng w3 gr go K L d A p F G W' :=
  ⟨h.rest.below hb, h.quo.below hb, h.bel.trans (hb.mono h.bel.size), h.sum, h.low⟩
theorem Wd.trans {w w' w2 : World} {g K o m : Nat} {f f' f2 : Nat → Nat} (h : Wd w g K o m f f' w') (h2 : Wd w' g K o m f' f2 w2) : Wd w g K o m f f2 w2 :=
  ⟨h2.bf, fun j hj => (h2.out j hj).trans (h.out j hj), h.grown.trans h2.grown⟩
def DivPost (n d : Nat) (w : World) (e : Ending) (w' : World) : Prop :=
  ∃ a k c b m e2, e = .returned (.tuple #[.slice a k c, .slice b m e2]) ∧ Nm w' a k c (n / d) ∧ Nm w' b m e2 (n % d) ∧ Below w.heap.size w w'
set_option maxRecDepth 100000 in
set_option maxHeartbeats 8000000 in
theorem divideLong_c (a1 a2 : Option Addr) (k1 m c1 c2 n1 n2 : Nat) (w : World) (h1 : Nm w a1 k1 c1 n1) (h2 : Nm w a2 (m + 1) c2 n2) (hle : m + 1 ≤ k1) (hk1 : k1 < 50000) :
    Calls Tryd.prog 68 #[.slice a1 k1 c1, .slice a2 (m + 1) c2] w (DivPost n1 n2 w) := by
  obtain ⟨f1, r1, hkc1, hcc1, t1, s1, p1⟩ := h1
  obtain ⟨f2, r2, hkc2, hcc2, t2, s2, p2⟩ := h2
  obtain ⟨b2, o2, rfl, hbl2, htop⟩ := r2.at_ (show m < m + 1 by omega)
  have htpos : 0 < f2 m := by
    rcases t2 with e | e
    · omega
    · simp at e; omega
  have htlt := r2.2.1 m (by omega)
  obtain ⟨s, hs, hl1, hl2, HZ⟩ := lead_ex (f2 m) htpos htlt
  have HLZ := Lib.hid HZ
  obtain ⟨d, hd⟩ : ∃ d, d = n2 * 2 ^ s := ⟨_, rfl⟩
  have hdb := lead_bp (m := m) (d := d) (n2 := n2) (s := s) (top := f2 m) (r := S f2 m) (by rw [← s2, S_succ]; omega) (S_lt (fun j hj => r2.2.1 j (by omega))) hl1 hl2 hd
  have HU2 := Lib.hid (fun w' (hb : Below w.heap.size w w') => shiftUp_c (some ⟨b2, o2, none⟩) (m + 1) c2 s f2 w' (r2.below hb) hs (by omega))
  have HU1 := Lib.hid (fun w' (hb : Below w.heap.size w w') => shiftUp_c a1 k1 c1 s f1 w' (r1.below hb) hs (by omega))
  have HS1 := Lib.hid s1
  have HS2 := Lib.hid s2
  have HD := Lib.hid hd
  have HDB := Lib.hid hdb
  have hm5 : m < 50000 := by omega
  have hwm : IntKind.i64.wrap (m : Int) = m := by rw [IntKind.wrap_i64]; omega
  have hmk := fun w => mk_limbsI ((k1 : Int) - ((m : Int) + 1) + 1) (k1 - m) (by omega) (by omega) w
  clear HZ r1 r2 t1 t2 p1 p2 s1 s2 hd hdb hl1 hl2 htpos htlt
  generalize f2 m = top at *
  go_enter Tryd.func68, Tryd.ntmps68
  go_wp2_with (go_at_call 65; refine (HLZ.out _).mono ?_; rintro e w' ⟨rfl, rfl⟩)
  refine (HU2.out _ (Below.refl _ _)).mono ?_
  rintro e w1 ⟨gd, FD, rfl, hgd, hbd, hsd, _, bd⟩
  rw [HS2.out, ← HD.out] at hsd
  have hKd := hbd.rl0 (Nat.le_refl _) (show m + 1 + 1 ≤ 100000 by omega)
  have BD := Lib.hid bd
  have SD := Lib.hid hsd
  have HKD := Lib.hid hKd
  clear hgd hbd hsd bd hKd HU2
  go_wp2_with fail
  refine (trim_c (some ⟨gd, 0, none⟩) (m + 1 + 1) (m + 1 + 1) FD w1 HKD.out (Nat.le_refl _) (by omega) (Pl.some_ _ _)).mono ?_
  rintro e w2 ⟨ad, kd, cd, rfl, hN, bt⟩
  rw [SD.out] at hN
  obtain rfl : kd = m + 1 := by
    have u1 := hN.len HDB.out.2
    have u2 := bp_lt (Nat.lt_of_le_of_lt (show bp m ≤ d by have := HDB.out.1; have := bp_pos m; omega) hN.lt)
    omega
  obtain ⟨fd, rd, hkcd, hccd, td, sd, pd⟩ := hN
  have RD := Lib.hid rd
  have SFD := Lib.hid sd
  have TD : Hid (0 < fd m) := by
    rcases td with e | e
    · omega
    · simp at e; unfold Hid; omega
  have BD2 := Lib.hid (BD.out.trans (bt.mono BD.out.size))
  clear hkcd hccd td sd pd rd bt SD HKD BD
  go_wp2_with fail
  refine (HU1.out _ BD2.out).mono ?_
  rintro e w3 ⟨gr, FR, rfl, hgr, hbr, hsr, htr, br⟩
  rw [HS1.out] at hsr
  have BD3 := Lib.hid (BD2.out.trans (br.mono BD2.out.size))
  have HGR := Lib.hid hgr
  have HBR := Lib.hid hbr
  have HST : Hid (S (from_ FR (k1 - m)) (k1 + 1 - (k1 - m)) < d) := long_start hbr.2.1 (show k1 - m + m = k1 by omega) htr hs HDB.out.1
  have HSR := Lib.hid hsr
  clear hgr hbr hsr htr HU1
  go_wp2_with fail
  have B0 := Lib.hid (Bf.made w3 (k1 - m) 59)
  have BR3 := Lib.hid br
  clear br
  have HB4 : Hid (Below w3.heap.size w3 (w3.alloc (.cells (madeCells #[.int .u64 0] (k1 - m)) 59))) := bel_one _ _
  have BR4 := Lib.hid (HBR.out.below HB4.out)
  have HNE : Hid (gr ≠ w3.heap.size) := by have := HBR.out.1; unfold Hid; omega
  generalize hW4 : w3.alloc (.cells (madeCells #[.int .u64 0] (k1 - m)) 59) = w4 at *
  clear hW4 hmk
  obtain ⟨go, hgo⟩ : ∃ go, w3.heap.size = go := ⟨_, rfl⟩
  have HGO := Lib.hid hgo
  rw [hgo] at B0 HNE
  rw [hgo]
  clear hgo
  obtain ⟨L, hL⟩ : ∃ L, L = k1 - m := ⟨_, rfl⟩
  have hLm : L + m = k1 := by omega
  rw [← hL] at B0 HST
  rw [← hL]
  clear hL
  have HA : Hid (Lng w2 gr go (k1 + 1) L d (n1 * 2 ^ s) L FR (fun _ => 0) w4) := by
    refine ⟨BR4.out, B0.out, BR3.out.trans (HB4.out.mono BR3.out.size), ?_, HST.out⟩
    rw [Nat.sub_self, S_zero, Nat.mul_zero, Nat.mul_zero, HSR.out, Nat.add_zero]
  have HGO2 : Hid (w2.heap.size ≤ go) := by rw [← HGO.out]; exact BR3.out.size
  clear BR4 B0 HST HSR HB4 HBR HGO BR3
  go_loopw [10] (fun i wr => ∃ (j : Nat) (F G : Nat → Nat), j ≤ L ∧ i = .int .i64 ((j : Int) - 1) ∧ Hid (Lng w2 gr go (k1 + 1) L d (n1 * 2 ^ s) j F G wr)) (fun i _ => (intOf i + 1).toNat)
  case atStart => exact ⟨L, FR, fun _ => 0, Nat.le_refl _, rfl, HA.out⟩
  case round =>
    clear HA
    obtain ⟨j, F, G, hj, rfl, hR⟩ := hrel
    rcases Nat.eq_zero_or_pos j with e | e
    · subst e
      have E : Hid (S G L = n1 / n2 ∧ S F (k1 + 1) / 2 ^ s = n1 % n2) := by
        have hs1 := hR.out.sum
        have hs2 := hR.out.low
        rw [from_zero, Nat.sub_zero, bp_zero, Nat.one_mul, HD.out] at hs1
        rw [from_zero, Nat.sub_zero, HD.out] at hs2
        exact div_unshift hs1 hs2
      have RR := Lib.hid hR.out
      clear hR
      go_wp2_with fail
      refine (trim_c (some ⟨go, 0, none⟩) L L G wr (RR.out.quo.rl0 (Nat.le_refl _) (by omega)) (Nat.le_refl _) (by omega) (Pl.some_ _ _)).mono ?_
      rintro e w5 ⟨qa, qk, qc, rfl, hQ, b5⟩
      rw [E.out.1] at hQ
      have RR5 := Lib.hid (RR.out.keep b5)
      have HQ := Lib.hid hQ
      clear hQ b5 RR
      go_wp2_with fail
      refine (trim_c (some ⟨gr, 0, none⟩) (k1 + 1) (k1 + 1) F w5 (RR5.out.rest.rl0 (Nat.le_refl _) (by omega)) (Nat.le_refl _) (by omega) (Pl.some_ _ _)).mono ?_
      rintro e w6 ⟨ta, tk, tc, rfl, hT, b6⟩
      obtain ⟨tf, tr, _, _, _, ts, _⟩ := hT
      have HQ6 := Lib.hid (HQ.out.below b6)
      have B6 := Lib.hid (RR5.out.bel.trans (b6.mono RR5.out.bel.size))
      have TR := Lib.hid (shiftDown_c ta tk tc s tf w6 tr hs)
      have TS := Lib.hid ts
      clear HQ b6 RR5 tr ts
      go_wp2_with fail
      refine TR.out.mono ?_
      rintro e w7 ⟨ra, rk, rc, rfl, hRm, b7⟩
      rw [TS.out, E.out.2] at hRm
      have R : Hid (DivPost n1 n2 w (.returned (.tuple #[.slice qa qk qc, .slice ra rk rc])) w7) :=
        ⟨_, _, _, _, _, _, rfl, HQ6.out.below b7, hRm, BD2.out.trans ((B6.out.trans (b7.mono B6.out.size)).mono BD2.out.size)⟩
      clear hRm b7
      go_wp2
      go_ret2
      exact R.out
    · obtain ⟨p, rfl⟩ : ∃ p, j = p + 1 := ⟨j - 1, by omega⟩
      have ei : ((p + 1 : Nat) : Int) - 1 = (p : Int) := by omega
      rw [ei]
      have hpL : p < L := by omega
      have hpL' : (p : Int) < (L : Int) := by omega
      have hpK : p + (m + 1 + 1) ≤ k1 + 1 := by omega
      have hpK' : (p : Int) + ((m : Int) + 1) + 1 ≤ (k1 : Int) + 1 := by omega
      have hpp : (p : Int) ≤ (p : Int) + ((m : Int) + 1) + 1 := by omega
      have el : p + (m + 1) + 1 - p = m + 1 + 1 := by omega
      have RG := Lib.hid (guessLimb_c (some ⟨gr, p, none⟩) ad m (k1 + 1 - p) cd (from_ F p) fd wr (hR.out.rest.rl hpK (by omega)) (RD.out.below hR.out.bel) TD.out)
      go_wp2_with fail
      (with_reducible refine RG.out.mono ?_)
      rintro e wg ⟨q0, rfl, hq0, hgs, ng, rfl⟩
      have LW := Lib.hid (hR.out.keep (bel_drewN wr ng))
      have hFp := hR.out.rest.2.1
      have GG : Hid (S (from_ F p) (m + 1 + 1) < (q0 + 1) * d) := long_guess (fun i hi => hFp _ (by omega)) SFD.out (long_win hpK HDB.out.2 (hFp p (by omega)) hR.out.low) hgs
      clear hgs hFp hR RG
      generalize wr.drewN ng = W1 at *
      have RS := Lib.hid (subtractTimes_c w2 gr p (m + 1) (k1 + 1 - p) (k1 + 1) cd q0 ad F fd W1 RD.out LW.out.bel HGR.out LW.out.rest (by omega) (by omega) hq0)
      go_wp2_with fail
      (with_reducible refine RS.out.mono ?_)
      rintro e wS ⟨x0, F1, hx0, rfl, hW, hs1⟩
      rw [SFD.out] at hs1
      have I0 : Hid (Wd W1 gr (k1 + 1) p (m + 1 + 1) F F1 wS ∧ S (from_ F1 p) (m + 1 + 1) + q0 * d = S (from_ F p) (m + 1 + 1) + x0 * bp (m + 1 + 1) ∧ S (from_ F p) (m + 1 + 1) < (q0 + 1) * d) := ⟨hW, hs1, GG.out⟩
      clear hW hs1 RS GG
      go_wp2_with fail
      go_loopw [12, 13] (fun vq vb wx => ∃ (q x : Nat) (F2 : Nat → Nat), vq = .int .u64 q ∧ vb = .bool (decide (x = 1)) ∧ x ≤ 1 ∧ q < 18446744073709551616 ∧ Hid (Wd W1 gr (k1 + 1) p (m + 1 + 1) F F2 wx ∧ S (from_ F2 p) (m + 1 + 1) + q * d = S (from_ F p) (m + 1 + 1) + x * bp (m + 1 + 1) ∧ S (from_ F p) (m + 1 + 1) < (q + 1) * d)) (fun vq _ _ => (intOf vq).toNat)
      case atStart => exact ⟨q0, x0, F1, rfl, rfl, hx0, hq0, I0.out⟩
      case round =>
        clear I0
        obtain ⟨q, x, F2, rfl, rfl, hx, hq, hI⟩ := hrel
        have hlb : S (from_ F2 p) (m + 1 + 1) < bp (m + 1 + 1) := S_lt (fun i hi => hI.out.1.bf.2.1 _ (by omega))
        rcases Nat.eq_zero_or_pos x with e | e
        · subst e
          have hqb := (LW.out.quo.other hI.out.1.grown (fun e => HNE.out e.symm))
          have hBj := hqb.2.2 p hpL
          have hc5 := hBj.1
          have hf5 := hBj.2
          have NX : Hid (Lng w2 gr go (k1 + 1) L d (n1 * 2 ^ s) p F2 (put G p q) (wr.setCell ⟨go, p, none⟩ (.int .u64 q))) := by
            have h1 : S (from_ F2 p) (m + 1 + 1) + q * d = S (from_ F p) (m + 1 + 1) := by
              have h := hI.out.2.1
              rw [Nat.zero_mul, Nat.add_zero (S (from_ F p) (m + 1 + 1))] at h
              exact h
            have h2 : S (from_ F p) (m + 1 + 1) < q * d + d := by
              have h := hI.out.2.2
              rw [Nat.add_mul, Nat.one_mul] at h
              exact h
            have hn := long_next hpK hpL HDB.out.2 LW.out.sum LW.out.low hI.out.1.out h1 (by omega)
            exact ⟨hI.out.1.bf.setOther HNE.out, hqb.put hpL hq, (bel_grown LW.out.bel HGR.out hI.out.1.grown).setCell (p := ⟨go, p, none⟩) HGO2.out _, hn.1, hn.2⟩
          clear hBj hqb hlb
          go_wp2
          go_roundw
          case rel => exact ⟨p, F2, put G p q, by omega, by go_num, NX.out⟩
          case measure => simp [intOf]
        · obtain rfl : x = 1 := by omega
          have hq0' : 0 < q := by
            rcases Nat.eq_zero_or_pos q with e | e
            · subst e
              have := hI.out.2.1
              rw [Nat.zero_mul, Nat.one_mul] at this
              omega
            · exact e
          obtain ⟨r, rfl⟩ : ∃ r, q = r + 1 := ⟨q - 1, by omega⟩
          have RA := Lib.hid (addTo_c w2 gr p (m + 1 + 1) (m + 1) (k1 + 1 - p) (k1 + 1) cd ad F2 fd wr RD.out (bel_grown LW.out.bel HGR.out hI.out.1.grown) HGR.out hI.out.1.bf hpK (by omega) (by omega))
          have er : ((r + 1 : Nat) : Int) = (r : Int) + 1 := by omega
          have HLB := Lib.hid hlb
          clear hlb
          go_wp2_with fail
          (with_reducible refine RA.out.mono ?_)
          rintro e wA ⟨y, F3, rfl, hy, hWA, hsA⟩
          rw [SFD.out] at hsA
          have hlb3 : S (from_ F3 p) (m + 1 + 1) < bp (m + 1 + 1) := S_lt (fun i hi => hWA.bf.2.1 _ (by omega))
          have h1 := hI.out.2.1
          rw [Nat.one_mul] at h1
          have hlow := lower h1 hsA HLB.out hlb3 hy
          have NX : Hid (Wd W1 gr (k1 + 1) p (m + 1 + 1) F F3 wA ∧ S (from_ F3 p) (m + 1 + 1) + r * d = S (from_ F p) (m + 1 + 1) + (1 - y) * bp (m + 1 + 1) ∧ S (from_ F p) (m + 1 + 1) < (r + 1) * d) := ⟨hI.out.1.trans hWA, hlow.1, hlow.2⟩
          clear hWA hsA hlb3 h1 hlow hI RA HLB
          rcases Nat.eq_zero_or_pos y with ey | ey
          · subst ey
            have NX1 : Hid (Wd W1 gr (k1 + 1) p (m + 1 + 1) F F3 wA ∧ S (from_ F3 p) (m + 1 + 1) + r * d = S (from_ F p) (m + 1 + 1) + 1 * bp (m + 1 + 1) ∧ S (from_ F p) (m + 1 + 1) < (r + 1) * d) := by
              have h := NX.out
              rw [Nat.sub_zero 1] at h
              exact h
            clear NX
            go_wp2
            go_roundw
            case rel => exact ⟨r, 1, F3, by go_num, rfl, by omega, by omega, NX1.out⟩
            case measure => simp [intOf]
          · obtain rfl : y = 1 := by omega
            have NX1 : Hid (Wd W1 gr (k1 + 1) p (m + 1 + 1) F F3 wA ∧ S (from_ F3 p) (m + 1 + 1) + r * d = S (from_ F p) (m + 1 + 1) + 0 * bp (m + 1 + 1) ∧ S (from_ F p) (m + 1 + 1) < (r + 1) * d) := by
              have h := NX.out
              rw [Nat.sub_self 1] at h
              exact h
            clear NX
            go_wp2
            go_roundw
            case rel => exact ⟨r, 0, F3, by go_num, rfl, by omega, by omega, NX1.out⟩
            case measure => simp [intOf]
