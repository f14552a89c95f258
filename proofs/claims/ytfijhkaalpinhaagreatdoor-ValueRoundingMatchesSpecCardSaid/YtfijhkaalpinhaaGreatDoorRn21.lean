/-
  Rounded and Decimal of package value.
  Exact: a number as a ratio; Check at numbers; both sides.
  The law ValueRoundingMatchesSpec, walked.
-/
import Derived.Test.YtfijhkaalpinhaaGreatDoorRn20
import Derived.Test.YtfijhkaalpinhaaGreatDoorRn19
import Derived.Test.YtfijhkaalpinhaaGreatDoorRn18
namespace Go.Proofs.YtfijhkaalpinhaaGreatDoor
open Go.RowKit

set_option maxRecDepth 100000 in
set_option maxHeartbeats 4000000 in
theorem Rounded_c (s t : ByteArray) (p : Int) (w : World) :
    Calls Tryz.prog 17 #[.agg #[.string s, .string t], .int .i64 p] w (OpPost (rnS s.data.toList t.data.toList p) w) := by
  obtain ⟨W0, hW0⟩ : ∃ W0, (w.alloc (.cells #[.string s, .string t] 23)).alloc (.cells #[.string ⟨#[]⟩, .string ⟨#[]⟩] 23) = W0 := ⟨_, rfl⟩
  have s1 : (w.alloc (.cells #[.string s, .string t] 23)).heap.size = w.heap.size + 1 := by simp
  have X0 : B2 W0 w.heap.size (.string s) (.string t) := by rw [← hW0]; exact (B2.made w _ _ _).keep (bel_one _ _)
  have JR0 : Hid (B2 W0 (w.heap.size + 1) (.string ⟨#[]⟩) (.string ⟨#[]⟩)) := by rw [← hW0, ← s1]; exact B2.made _ _ _ _
  have JB0 : Hid (Below w.heap.size w W0) := by rw [← hW0]; exact ((Below.refl _ _).alloc (Nat.le_refl _) _).alloc (by simp) _
  have HC0 := fun W => roundedTo_c s t p W
  unfold RtPost at HC0
  obtain ⟨rr, hrr⟩ : ∃ rr, rnS s.data.toList t.data.toList p = rr := ⟨_, rfl⟩
  rw [hrr] at HC0
  have RS2 : Hid (rnS s.data.toList t.data.toList p = (rr.1, rr.2.1, rr.2.2)) := hrr
  obtain ⟨o1, o2, o3⟩ := rr
  have HC := Lib.hid HC0
  clear HC0
  have x0 := X0.c0
  have x1 := X0.c1
  clear X0 s1 hrr
  go_enter Tryz.func17, Tryz.ntmps17
  go_wp2_with fail
  clear hW0 x0 x1
  (refine (HC.out _).mono ?_)
  rintro e w1 ⟨tb, ta, tk, tc, rfl, b1, _⟩
  obtain ⟨WA, hWA⟩ : ∃ WA, (w1.alloc (.cells #[.string ⟨#[]⟩, .string ⟨#[]⟩] 23)).alloc (.cells #[.bool false, .slice none 0 0] 44) = WA := ⟨_, rfl⟩
  have s1 : (w1.alloc (.cells #[.string ⟨#[]⟩, .string ⟨#[]⟩] 23)).heap.size = w1.heap.size + 1 := by simp
  have D1 : B2 WA w1.heap.size (.string ⟨#[]⟩) (.string ⟨#[]⟩) := by rw [← hWA]; exact (B2.made _ _ _ _).keep (bel_one _ _)
  have D2 : B2 WA (w1.heap.size + 1) (.bool false) (.slice none 0 0) := by rw [← hWA, ← s1]; exact B2.made _ _ _ _
  obtain ⟨WB, hWB⟩ : ∃ W, two (two WA w1.heap.size (.string o1) (.string o2)) (w1.heap.size + 1) (.bool tb) (.slice ta tk tc) = W := ⟨_, rfl⟩
  have hb : Below w1.heap.size w1 WB := by
    rw [← hWB]
    exact below_two (below_two (by rw [← hWA]; exact ((Below.refl _ _).alloc (Nat.le_refl _) _).alloc (by simp) _) (Nat.le_refl _) _ _) (by omega) _ _
  have G1 : Hid (B2 WB w1.heap.size (.string o1) (.string o2)) := by rw [← hWB]; exact (D1.set _ _).other (by omega) _ _
  have G2 : Hid (B2 WB (w1.heap.size + 1) (.bool tb) (.slice ta tk tc)) := by rw [← hWB]; exact (D2.other (by omega) _ _).set _ _
  have a0 := D1.c0
  have a1 := D1.c1
  have af0 := D1.fr 0
  have af1 := D1.fr 1
  have b0 := D2.c0
  have b1' := D2.c1
  have bf0 := D2.fr 0
  have bf1 := D2.fr 1
  unfold two at hWB
  clear D1 D2 s1
  have hc := b1.trans (hb.mono b1.size)
  have JR1 := Lib.hid (JR0.out.keep hc)
  have JB1 := Lib.hid (JB0.out.trans (hc.mono JB0.out.size))
  have g0' := G1.out.c0
  have g1' := G1.out.c1
  clear hb hc b1 JR0 JB0 HC
  obtain ⟨W9, hW9⟩ : ∃ W9, two WB (w.heap.size + 1) (.string o1) (.string o2) = W9 := ⟨_, rfl⟩
  have R9 : B2 W9 (w.heap.size + 1) (.string o1) (.string o2) := by rw [← hW9]; exact JR1.out.set _ _
  have PP : Hid (OpPost (rnS s.data.toList t.data.toList p) w (.returned (.tuple #[.agg #[.string o1, .string o2], .int .i64 o3])) W9) := by
    rw [← hW9]
    exact ⟨by rw [RS2.out], below_two JB1.out (by omega) _ _⟩
  have c0 := JR1.out.c0
  have c1 := JR1.out.c1
  have cf0 := JR1.out.fr 0
  have cf1 := JR1.out.fr 1
  obtain ⟨r0, r1, _, _⟩ := id R9
  unfold two at hW9
  clear R9
  go_wp2_with fail
  exact bodyPost_ret (v := .tuple #[.agg #[.string o1, .string o2], .int .i64 o3]) (by simp [results, Tryz.results17, go_sem, r0, r1]) rfl PP.out
set_option maxRecDepth 100000 in
set_option maxHeartbeats 4000000 in
theorem Decimal_c (s t : ByteArray) (p : Int) (w : World) :
    Calls Tryz.prog 19 #[.agg #[.string s, .string t], .int .i64 p] w fun e w' => e = .returned (.tuple #[.string (dcS s.data.toList t.data.toList p).1, .int .i64 (dcS s.data.toList t.data.toList p).2]) ∧ Below w.heap.size w w' := by
  obtain ⟨W0, hW0⟩ : ∃ W0, w.alloc (.cells #[.string s, .string t] 23) = W0 := ⟨_, rfl⟩
  have X0 : B2 W0 w.heap.size (.string s) (.string t) := by rw [← hW0]; exact B2.made _ _ _ _
  have B0 : Hid (Below w.heap.size w W0) := by rw [← hW0]; exact bel_one _ _
  have HC0 := fun W => roundedTo_c s t p W
  unfold RtPost at HC0
  obtain ⟨rr, hrr⟩ : ∃ rr, rnS s.data.toList t.data.toList p = rr := ⟨_, rfl⟩
  rw [hrr] at HC0
  have HRN := Lib.hid hrr
  obtain ⟨o1, o2, o3⟩ := rr
  have HC := Lib.hid HC0
  clear HC0
  have x0 := X0.c0
  have x1 := X0.c1
  clear X0 hrr
  by_cases hz : o3 = 0
  · subst hz
    obtain ⟨x, y, m, e1, rfl, hm⟩ := rn_ok (p := p) (by rw [HRN.out])
    have DC : Hid (dcS s.data.toList t.data.toList (m : Int) = (⟨(dcT (tnR x y m) m).toArray⟩, 0)) := dc_ok (by rw [HRN.out]) e1
    have E1 := Lib.hid e1
    have HM := Lib.hid hm
    clear e1 hm HRN
    go_enter Tryz.func19, Tryz.ntmps19
    go_wp2_with fail
    clear hW0 x0 x1
    (refine (HC.out _).mono ?_)
    rintro e w1 ⟨tb, ta, tk, tc, rfl, b1, hz0⟩
    obtain ⟨WA, hWA⟩ : ∃ WA, (w1.alloc (.cells #[.string ⟨#[]⟩, .string ⟨#[]⟩] 23)).alloc (.cells #[.bool false, .slice none 0 0] 44) = WA := ⟨_, rfl⟩
    have s1 : (w1.alloc (.cells #[.string ⟨#[]⟩, .string ⟨#[]⟩] 23)).heap.size = w1.heap.size + 1 := by simp
    have D1 : B2 WA w1.heap.size (.string ⟨#[]⟩) (.string ⟨#[]⟩) := by rw [← hWA]; exact (B2.made _ _ _ _).keep (bel_one _ _)
    have D2 : B2 WA (w1.heap.size + 1) (.bool false) (.slice none 0 0) := by rw [← hWA, ← s1]; exact B2.made _ _ _ _
    obtain ⟨WB, hWB⟩ : ∃ W, two (two WA w1.heap.size (.string o1) (.string o2)) (w1.heap.size + 1) (.bool tb) (.slice ta tk tc) = W := ⟨_, rfl⟩
    have hb : Below w1.heap.size w1 WB := by
      rw [← hWB]
      exact below_two (below_two (by rw [← hWA]; exact ((Below.refl _ _).alloc (Nat.le_refl _) _).alloc (by simp) _) (Nat.le_refl _) _ _) (by omega) _ _
    have G1 : Hid (B2 WB w1.heap.size (.string o1) (.string o2)) := by rw [← hWB]; exact (D1.set _ _).other (by omega) _ _
    have G2 : Hid (B2 WB (w1.heap.size + 1) (.bool tb) (.slice ta tk tc)) := by rw [← hWB]; exact (D2.other (by omega) _ _).set _ _
    have a0 := D1.c0
    have a1 := D1.c1
    have af0 := D1.fr 0
    have af1 := D1.fr 1
    have b0 := D2.c0
    have b1' := D2.c1
    have bf0 := D2.fr 0
    have bf1 := D2.fr 1
    unfold two at hWB
    clear D1 D2 s1
    have hc := b1.trans (hb.mono b1.size)
    have B2' := Lib.hid (B0.out.trans (hc.mono B0.out.size))
    obtain ⟨x2, y2, e2, l1, l2, hzn0, hzb0⟩ := hz0 trivial
    clear l1 l2 hz0
    obtain ⟨rfl, rfl⟩ : x = x2 ∧ y = y2 := by
      have h := E1.out
      rw [e2] at h
      injection h with h
      injection h with h1 h2
      exact ⟨h1.symm, h2.symm⟩
    have hzn : Zn w1 tb ta tk tc (tnR x y m) := hzn0
    have hzb : (tnR x y m).natAbs < bp 200 := hzb0
    clear hzn0 hzb0
    obtain ⟨tt, htt⟩ : ∃ tt, tnR x y m = tt := ⟨_, rfl⟩
    have TT := Lib.hid htt
    rw [htt] at hzn hzb
    obtain ⟨n, hn⟩ : ∃ n, tt.natAbs = n := ⟨_, rfl⟩
    have TNN := Lib.hid hn
    have ZN := Lib.hid (hzn.below hb)
    have DLN := Lib.hid (dec_bp hzb)
    have TBB := Lib.hid hzb
    rw [hn] at DLN TBB
    have k0 := G2.out.c0
    have k1 := G2.out.c1
    clear hb hc b1 B0 HC e2 hzn hzb htt hn
    go_wp2_with fail
    clear hWA hWB a0 a1 af0 af1 b0 b1' bf0 bf1
    clear k0 k1
    refine (Size_c tb ta tk tc _).mono ?_
    rintro e w3 ⟨rfl, b3⟩
    have ZN3 := Lib.hid (ZN.out.below b3)
    have G3 := Lib.hid (G2.out.keep b3)
    have B3' := Lib.hid (B2'.out.trans (b3.mono B2'.out.size))
    have HTX0 := Text_c false ta tk tc (tt.natAbs : Int) w3 ZN3.out.size (by rw [Int.natAbs_natCast, TNN.out]; exact Nat.lt_of_lt_of_le TBB.out (bp_mono (by decide)))
    unfold TzPost at HTX0
    rw [TNN.out, show tzB ((n : Nat) : Int) = decB n from tzB_zv false n] at HTX0
    have HTX := Lib.hid HTX0
    clear HTX0
    clear b3 ZN G2 G1 B2'
    go_wp2_with fail
    (with_reducible refine HTX.out.mono ?_)
    rintro e w4 ⟨rfl, b4⟩
    have ZN4 := Lib.hid (ZN3.out.below b4)
    have G4 := Lib.hid (G3.out.keep b4)
    have B4' := Lib.hid (B3'.out.trans (b4.mono B3'.out.size))
    have hds := decB_size n
    have hdl := decB_list n
    obtain ⟨c0, hc0⟩ : ∃ c0, m + 1 - (Lib.decDigits n).length = c0 := ⟨_, rfl⟩
    have hcm : c0 ≤ 100 := by have := HM.out; omega
    have hm20 : m ≤ 20 := HM.out
    have hmx : max (0 : Int) ((m : Int) + 1 - ((decB n).size : Int)) = (c0 : Int) := by omega
    have HRP := Lib.hid (repeat_z c0 w4 hcm)
    obtain ⟨zs, hzs⟩ : ∃ z : ByteArray, z = ⟨(List.replicate c0 48).toArray⟩ := ⟨_, rfl⟩
    rw [← hzs] at HRP
    obtain ⟨yy, hyy⟩ : ∃ z, zs ++ decB n = z := ⟨_, rfl⟩
    have hyl : yy.data.toList = List.replicate (m + 1 - (Lib.decDigits n).length) 48 ++ Lib.decDigits n := by rw [← hyy, app_list, hdl, hzs, hc0]
    obtain ⟨hysz, hyp⟩ := pad_is hyl
    have hzz : zs.size = c0 := by rw [hzs]; simp [ByteArray.size]
    have hy100 : yy.size ≤ 9000 := by have := DLN.out; omega
    have w1' : ¬ (9223372036854775807 : Int) < (zs.size : Int) + ((decB n).size : Int) := by have := DLN.out; omega
    have w2' : ¬ 9223372036854775807 < zs.size + (decB n).size := by have := DLN.out; omega
    have HYL := Lib.hid hyl
    have HYP := Lib.hid hyp
    have HYB := Lib.hid hy100
    have hds9 : (decB n).size ≤ 9000 := by have := DLN.out; omega
    clear b4 ZN3 G3 B3' HTX hds hdl hzs hyl hysz hyp hzz hy100 hc0 hcm
    go_wp2_with fail
    (refine HRP.out.mono ?_)
    rintro e w5 ⟨rfl, b5⟩
    have ZN5 := Lib.hid (ZN4.out.below b5)
    have G5 := Lib.hid (G4.out.keep b5)
    have B5 := Lib.hid (B4'.out.trans (b5.mono B4'.out.size))
    have HSG0 := Sign_c tb ta tk tc tt w5 ZN5.out
    obtain ⟨sx, hsx⟩ : ∃ sx, tt.sign = sx := ⟨_, rfl⟩
    rw [hsx] at HSG0
    have HSG := Lib.hid HSG0
    have HSX := Lib.hid hsx
    clear HSG0 hsx
    have k0 := G5.out.c0
    have k1 := G5.out.c1
    clear b5 ZN4 G4 B4' HRP
    go_wp2_with fail
    clear k0 k1 hyy w1' w2' hds9 hmx
    (with_reducible refine HSG.out.mono ?_)
    rintro e w9 ⟨rfl, b9⟩
    have B8 := Lib.hid (B5.out.trans (b9.mono B5.out.size))
    clear b9 ZN5 G5 B5 HSG
    obtain ⟨q, hq⟩ : ∃ q, yy.size - m = q := ⟨_, rfl⟩
    have hyp := HYP.out
    have hyb := HYB.out
    have hq1 : (yy.size : Int) - (m : Int) = (q : Int) := by omega
    have hq2 : q ≤ yy.size := by omega
    have hq3 : (q : Int) ≤ (yy.size : Int) := by omega
    have hqw : IntKind.i64.wrap (q : Int) = (q : Int) := by rw [IntKind.wrap_i64]; omega
    obtain ⟨u1, hu1⟩ : ∃ u, yy.extract 0 q = u := ⟨_, rfl⟩
    obtain ⟨u3, hu3⟩ : ∃ u, yy.extract q yy.size = u := ⟨_, rfl⟩
    have s1 : u1.size = q := by rw [← hu1, ByteArray.size_extract]; omega
    have s3 : u3.size = m := by rw [← hu3, ByteArray.size_extract]; omega
    by_cases e0 : 0 < m
    · have e0' : (0 : Int) < (m : Int) := by omega
      by_cases hneg : tt < 0
      · have hsg : sx < 0 := by rw [← HSX.out, Int.sign_eq_neg_one_of_neg hneg]; decide
        obtain ⟨a1, ha1⟩ : ∃ u : ByteArray, ⟨#[45]⟩ ++ u1 = u := ⟨_, rfl⟩
        obtain ⟨a2, ha2⟩ : ∃ u : ByteArray, a1 ++ ⟨#[46]⟩ = u := ⟨_, rfl⟩
        obtain ⟨a3, ha3⟩ : ∃ u : ByteArray, a2 ++ u3 = u := ⟨_, rfl⟩
        have t1 : a1.size = 1 + q := by rw [← ha1, ByteArray.size_append, s1]; rfl
        have t2 : a2.size = 1 + q + 1 := by rw [← ha2, ByteArray.size_append, t1]; rfl
        have RS : Hid (dcS s.data.toList t.data.toList (m : Int) = (a3, 0)) := by
          unfold Hid
          rw [DC.out, show (⟨(dcT (tnR x y m) m).toArray⟩ : ByteArray) = a3 from ext_list (by
            have hy' := HYL.out
            rw [← TNN.out, ← TT.out] at hy'
            have ng : tnR x y m < 0 := by rw [TT.out]; exact hneg
            show dcT (tnR x y m) m = _
            rw [dcT_is hy', if_pos ng, if_pos e0, hq, hu1, hu3, ← ha3, app_list, ← ha2, app_list, ← ha1, app_list])]
        have v1 : ¬ (9223372036854775807 : Int) < 1 + (u1.size : Int) := by omega
        have v1' : ¬ 9223372036854775807 < 1 + u1.size := by omega
        have v2 : ¬ (9223372036854775807 : Int) < (a1.size : Int) + 1 := by omega
        have v2' : ¬ 9223372036854775807 < a1.size + 1 := by omega
        have v3 : ¬ (9223372036854775807 : Int) < (a2.size : Int) + (u3.size : Int) := by omega
        have v3' : ¬ 9223372036854775807 < a2.size + u3.size := by omega
        have HV := Lib.hid (And.intro (And.intro v1 v1') (And.intro (And.intro v2 v2') (And.intro v3 v3')))
        clear v1 v1' v2 v2' v3 v3'
        have Hha1 := Lib.hid ha1
        have Hha2 := Lib.hid ha2
        have Hha3 := Lib.hid ha3
        have Hhu1 := Lib.hid hu1
        have Hhu3 := Lib.hid hu3
        clear ha1 ha2 ha3 hu1 hu3
        have Hhq1 := Lib.hid hq1
        have Hhq2 := Lib.hid hq2
        have Hhq3 := Lib.hid hq3
        have Hhqw := Lib.hid hqw
        clear hq1 hq2 hq3 hqw
        clear t1 t2 s1 s3 hyp hyb hq HYL HYP HYB DC hneg TT TNN
        have hq1 := Hhq1.out
        have hq2 := Hhq2.out
        have hq3 := Hhq3.out
        have hqw := Hhqw.out
        go_wp2_with fail
        refine wp_region_noPanic ?_
        refine wp_region_held_drew (S := STr) (by kernel_rfl) trivial (fun hS => ?_)
        have B9 : Hid (Below w.heap.size w w9.drew) := B8.out.trans ((bel_drewN w9 1).mono B8.out.size)
        generalize w9.drew = WX at *
        have ha1 := Hha1.out
        have ha2 := Hha2.out
        have ha3 := Hha3.out
        have hu1 := Hhu1.out
        have hu3 := Hhu3.out
        refine wpAnyH_take (i := 0) (v := ?v0z29) rfl (by kernel_rfl) (by kernel_rfl) (by kernel_rfl) (fun _ _ _ h => h) (Or.inl ⟨by rfl, ?hy0z29⟩) (by assumption) ?rest0z29
        case hy0z29 =>
          intro w hSw
          dsimp only [STr] at hSw
          go_simp
          try with_reducible rfl
        simp only [Act.put, List.getElem_toArray, List.getElem_cons_succ, List.getElem_cons_zero, List.setIfInBounds_toArray, List.set_cons_zero, List.set_cons_succ]
        refine wpAnyH_take (i := 1) (v := ?v1z30) rfl (by kernel_rfl) (by kernel_rfl) (by kernel_rfl) (fun _ _ _ h => h) (Or.inl ⟨by rfl, ?hy1z30⟩) (by assumption) ?rest1z30
        case hy1z30 =>
          intro w hSw
          dsimp only [STr] at hSw
          go_simp
          try with_reducible rfl
        simp only [Act.put, List.getElem_toArray, List.getElem_cons_succ, List.getElem_cons_zero, List.setIfInBounds_toArray, List.set_cons_zero, List.set_cons_succ]
        refine wpAnyH_take (i := 2) (v := ?v2z31) rfl (by kernel_rfl) (by kernel_rfl) (by kernel_rfl) (fun _ _ _ h => h) (Or.inl ⟨by rfl, ?hy2z31⟩) (by assumption) ?rest2z31
        case hy2z31 =>
          intro w hSw
          dsimp only [STr] at hSw
          go_simp
          try with_reducible rfl
        simp only [Act.put, List.getElem_toArray, List.getElem_cons_succ, List.getElem_cons_zero, List.setIfInBounds_toArray, List.set_cons_zero, List.set_cons_succ]
        refine wpAnyH_take (i := 3) (v := ?v3z32) rfl (by kernel_rfl) (by kernel_rfl) (by kernel_rfl) (fun _ _ _ h => h) (Or.inl ⟨by rfl, ?hy3z32⟩) (by assumption) ?rest3z32
        case hy3z32 =>
          intro w hSw
          dsimp only [STr] at hSw
          go_simp
          try with_reducible rfl
        simp only [Act.put, List.getElem_toArray, List.getElem_cons_succ, List.getElem_cons_zero, List.setIfInBounds_toArray, List.set_cons_zero, List.set_cons_succ]
        refine wpAnyH_take (i := 4) (v := ?v4z33) rfl (by kernel_rfl) (by kernel_rfl) (by kernel_rfl) (fun _ _ _ h => h) (Or.inl ⟨by rfl, ?hy4z33⟩) (by assumption) ?rest4z33
        case hy4z33 =>
          intro w hSw
          dsimp only [STr] at hSw
          obtain ⟨v1, v1'⟩ := HV.out.1
          go_simp
          try with_reducible rfl
        simp only [Act.put, List.getElem_toArray, List.getElem_cons_succ, List.getElem_cons_zero, List.setIfInBounds_toArray, List.set_cons_zero, List.set_cons_succ]
        refine wpAnyH_take (i := 5) (v := ?v5z34) rfl (by kernel_rfl) (by kernel_rfl) (by kernel_rfl) (fun _ _ _ h => h) (Or.inl ⟨by rfl, ?hy5z34⟩) (by assumption) ?rest5z34
        case hy5z34 =>
          intro w hSw
          dsimp only [STr] at hSw
          go_simp
          try with_reducible rfl
        simp only [Act.put, List.getElem_toArray, List.getElem_cons_succ, List.getElem_cons_zero, List.setIfInBounds_toArray, List.set_cons_zero, List.set_cons_succ]
        refine wpAnyH_take (i := 6) (v := ?v6z35) rfl (by kernel_rfl) (by kernel_rfl) (by kernel_rfl) (fun _ _ _ h => h) (Or.inl ⟨by rfl, ?hy6z35⟩) (by assumption) ?rest6z35
        case hy6z35 =>
          intro w hSw
          dsimp only [STr] at hSw
          obtain ⟨v2, v2'⟩ := HV.out.2.1
          go_simp
          try with_reducible rfl
        simp only [Act.put, List.getElem_toArray, List.getElem_cons_succ, List.getElem_cons_zero, List.setIfInBounds_toArray, List.set_cons_zero, List.set_cons_succ]
        refine wpAnyH_take (i := 7) (v := ?v7z36) rfl (by kernel_rfl) (by kernel_rfl) (by kernel_rfl) (fun _ _ _ h => h) (Or.inl ⟨by rfl, ?hy7z36⟩) (by assumption) ?rest7z36
        case hy7z36 =>
          intro w hSw
          dsimp only [STr] at hSw
          go_simp
          try with_reducible rfl
        simp only [Act.put, List.getElem_toArray, List.getElem_cons_succ, List.getElem_cons_zero, List.setIfInBounds_toArray, List.set_cons_zero, List.set_cons_succ]
        refine wpAnyH_take (i := 8) (v := ?v8z37) rfl (by kernel_rfl) (by kernel_rfl) (by kernel_rfl) (fun _ _ _ h => h) (Or.inl ⟨by rfl, ?hy8z37⟩) (by assumption) ?rest8z37
        case hy8z37 =>
          intro w hSw
          dsimp only [STr] at hSw
          go_simp
          try with_reducible rfl
        simp only [Act.put, List.getElem_toArray, List.getElem_cons_succ, List.getElem_cons_zero, List.setIfInBounds_toArray, List.set_cons_zero, List.set_cons_succ]
        refine wpAnyH_take (i := 9) (v := ?v9z38) rfl (by kernel_rfl) (by kernel_rfl) (by kernel_rfl) (fun _ _ _ h => h) (Or.inl ⟨by rfl, ?hy9z38⟩) (by assumption) ?rest9z38
        case hy9z38 =>
          intro w hSw
          dsimp only [STr] at hSw
          go_simp
          try with_reducible rfl
        simp only [Act.put, List.getElem_toArray, List.getElem_cons_succ, List.getElem_cons_zero, List.setIfInBounds_toArray, List.set_cons_zero, List.set_cons_succ]
        refine wpAnyH_take (i := 10) (v := ?v10z39) rfl (by kernel_rfl) (by kernel_rfl) (by kernel_rfl) (fun _ _ _ h => h) (Or.inl ⟨by rfl, ?hy10z39⟩) (by assumption) ?rest10z39
        case hy10z39 =>
          intro w hSw
          dsimp only [STr] at hSw
          obtain ⟨v3, v3'⟩ := HV.out.2.2
          go_simp
          try with_reducible rfl
        simp only [Act.put, List.getElem_toArray, List.getElem_cons_succ, List.getElem_cons_zero, List.setIfInBounds_toArray, List.set_cons_zero, List.set_cons_succ]
        refine wpAnyH_take (i := 11) (v := ?v11z40) rfl (by kernel_rfl) (by kernel_rfl) (by kernel_rfl) (fun _ _ _ h => h) (Or.inl ⟨by rfl, ?hy11z40⟩) (by assumption) ?rest11z40
        case hy11z40 =>
          intro w hSw
          dsimp only [STr] at hSw
          go_simp
          try with_reducible rfl
        simp only [Act.put, List.getElem_toArray, List.getElem_cons_succ, List.getElem_cons_zero, List.setIfInBounds_toArray, List.set_cons_zero, List.set_cons_succ]
        refine wpAnyH_take (i := 12) (v := ?v12z41) rfl (by kernel_rfl) (by kernel_rfl) (by kernel_rfl) (fun _ _ _ h => h) (Or.inl ⟨by rfl, ?hy12z41⟩) (by assumption) ?rest12z41
        case hy12z41 =>
          intro w hSw
          dsimp only [STr] at hSw
          go_simp
          try with_reducible rfl
        simp only [Act.put, List.getElem_toArray, List.getElem_cons_succ, List.getElem_cons_zero, List.setIfInBounds_toArray, List.set_cons_zero, List.set_cons_succ]
        refine wpAnyH_done (by kernel_rfl) ?_ _
        refine NoPanic.normal ?_
        clear hS
        go_wp2_with fail
        go_ret2
        exact ⟨by rw [RS.out]; rfl, B9.out⟩
      · have hsg : ¬ sx < 0 := by
          rw [← HSX.out]
          intro h
          exact hneg (Int.sign_neg_iff.1 h)
        obtain ⟨a1, ha1⟩ : ∃ u : ByteArray, ⟨#[]⟩ ++ u1 = u := ⟨_, rfl⟩
        obtain ⟨a2, ha2⟩ : ∃ u : ByteArray, a1 ++ ⟨#[46]⟩ = u := ⟨_, rfl⟩
        obtain ⟨a3, ha3⟩ : ∃ u : ByteArray, a2 ++ u3 = u := ⟨_, rfl⟩
        have t1 : a1.size = 0 + q := by rw [← ha1, ByteArray.size_append, s1]; rfl
        have t2 : a2.size = 0 + q + 1 := by rw [← ha2, ByteArray.size_append, t1]; rfl
        have RS : Hid (dcS s.data.toList t.data.toList (m : Int) = (a3, 0)) := by
          unfold Hid
          rw [DC.out, show (⟨(dcT (tnR x y m) m).toArray⟩ : ByteArray) = a3 from ext_list (by
            have hy' := HYL.out
            rw [← TNN.out, ← TT.out] at hy'
            have ng : ¬ tnR x y m < 0 := by rw [TT.out]; exact hneg
            show dcT (tnR x y m) m = _
            rw [dcT_is hy', if_neg ng, if_pos e0, hq, hu1, hu3, ← ha3, app_list, ← ha2, app_list, ← ha1, app_list])]
        have v1 : ¬ (9223372036854775807 : Int) < (u1.size : Int) := by omega
        have v1' : ¬ 9223372036854775807 < u1.size := by omega
        have v2 : ¬ (9223372036854775807 : Int) < (a1.size : Int) + 1 := by omega
        have v2' : ¬ 9223372036854775807 < a1.size + 1 := by omega
        have v3 : ¬ (9223372036854775807 : Int) < (a2.size : Int) + (u3.size : Int) := by omega
        have v3' : ¬ 9223372036854775807 < a2.size + u3.size := by omega
        have HV := Lib.hid (And.intro (And.intro v1 v1') (And.intro (And.intro v2 v2') (And.intro v3 v3')))
        clear v1 v1' v2 v2' v3 v3'
        have Hha1 := Lib.hid ha1
        have Hha2 := Lib.hid ha2
        have Hha3 := Lib.hid ha3
        have Hhu1 := Lib.hid hu1
        have Hhu3 := Lib.hid hu3
        clear ha1 ha2 ha3 hu1 hu3
        have Hhq1 := Lib.hid hq1
        have Hhq2 := Lib.hid hq2
        have Hhq3 := Lib.hid hq3
        have Hhqw := Lib.hid hqw
        clear hq1 hq2 hq3 hqw
        clear t1 t2 s1 s3 hyp hyb hq HYL HYP HYB DC hneg TT TNN
        have hq1 := Hhq1.out
        have hq2 := Hhq2.out
        have hq3 := Hhq3.out
        have hqw := Hhqw.out
        go_wp2_with fail
        refine wp_region_noPanic ?_
        refine wp_region_held_drew (S := STr) (by kernel_rfl) trivial (fun hS => ?_)
        have B9 : Hid (Below w.heap.size w w9.drew) := B8.out.trans ((bel_drewN w9 1).mono B8.out.size)
        generalize w9.drew = WX at *
        have ha1 := Hha1.out
        have ha2 := Hha2.out
        have ha3 := Hha3.out
        have hu1 := Hhu1.out
        have hu3 := Hhu3.out
        refine wpAnyH_take (i := 0) (v := ?v0z42) rfl (by kernel_rfl) (by kernel_rfl) (by kernel_rfl) (fun _ _ _ h => h) (Or.inl ⟨by rfl, ?hy0z42⟩) (by assumption) ?rest0z42
        case hy0z42 =>
          intro w hSw
          dsimp only [STr] at hSw
          go_simp
          try with_reducible rfl
        simp only [Act.put, List.getElem_toArray, List.getElem_cons_succ, List.getElem_cons_zero, List.setIfInBounds_toArray, List.set_cons_zero, List.set_cons_succ]
        refine wpAnyH_take (i := 1) (v := ?v1z43) rfl (by kernel_rfl) (by kernel_rfl) (by kernel_rfl) (fun _ _ _ h => h) (Or.inl ⟨by rfl, ?hy1z43⟩) (by assumption) ?rest1z43
        case hy1z43 =>
          intro w hSw
          dsimp only [STr] at hSw
          go_simp
          try with_reducible rfl
        simp only [Act.put, List.getElem_toArray, List.getElem_cons_succ, List.getElem_cons_zero, List.setIfInBounds_toArray, List.set_cons_zero, List.set_cons_succ]
        refine wpAnyH_take (i := 2) (v := ?v2z44) rfl (by kernel_rfl) (by kernel_rfl) (by kernel_rfl) (fun _ _ _ h => h) (Or.inl ⟨by rfl, ?hy2z44⟩) (by assumption) ?rest2z44
        case hy2z44 =>
          intro w hSw
          dsimp only [STr] at hSw
          go_simp
          try with_reducible rfl
        simp only [Act.put, List.getElem_toArray, List.getElem_cons_succ, List.getElem_cons_zero, List.setIfInBounds_toArray, List.set_cons_zero, List.set_cons_succ]
        refine wpAnyH_take (i := 3) (v := ?v3z45) rfl (by kernel_rfl) (by kernel_rfl) (by kernel_rfl) (fun _ _ _ h => h) (Or.inl ⟨by rfl, ?hy3z45⟩) (by assumption) ?rest3z45
        case hy3z45 =>
          intro w hSw
          dsimp only [STr] at hSw
          go_simp
          try with_reducible rfl
        simp only [Act.put, List.getElem_toArray, List.getElem_cons_succ, List.getElem_cons_zero, List.setIfInBounds_toArray, List.set_cons_zero, List.set_cons_succ]
        refine wpAnyH_take (i := 4) (v := ?v4z46) rfl (by kernel_rfl) (by kernel_rfl) (by kernel_rfl) (fun _ _ _ h => h) (Or.inl ⟨by rfl, ?hy4z46⟩) (by assumption) ?rest4z46
        case hy4z46 =>
          intro w hSw
          dsimp only [STr] at hSw
          obtain ⟨v1, v1'⟩ := HV.out.1
          go_simp
          try with_reducible rfl
        simp only [Act.put, List.getElem_toArray, List.getElem_cons_succ, List.getElem_cons_zero, List.setIfInBounds_toArray, List.set_cons_zero, List.set_cons_succ]
        refine wpAnyH_take (i := 5) (v := ?v5z47) rfl (by kernel_rfl) (by kernel_rfl) (by kernel_rfl) (fun _ _ _ h => h) (Or.inl ⟨by rfl, ?hy5z47⟩) (by assumption) ?rest5z47
        case hy5z47 =>
          intro w hSw
          dsimp only [STr] at hSw
          go_simp
          try with_reducible rfl
        simp only [Act.put, List.getElem_toArray, List.getElem_cons_succ, List.getElem_cons_zero, List.setIfInBounds_toArray, List.set_cons_zero, List.set_cons_succ]
        refine wpAnyH_take (i := 6) (v := ?v6z48) rfl (by kernel_rfl) (by kernel_rfl) (by kernel_rfl) (fun _ _ _ h => h) (Or.inl ⟨by rfl, ?hy6z48⟩) (by assumption) ?rest6z48
        case hy6z48 =>
          intro w hSw
          dsimp only [STr] at hSw
          obtain ⟨v2, v2'⟩ := HV.out.2.1
          go_simp
          try with_reducible rfl
        simp only [Act.put, List.getElem_toArray, List.getElem_cons_succ, List.getElem_cons_zero, List.setIfInBounds_toArray, List.set_cons_zero, List.set_cons_succ]
        refine wpAnyH_take (i := 7) (v := ?v7z49) rfl (by kernel_rfl) (by kernel_rfl) (by kernel_rfl) (fun _ _ _ h => h) (Or.inl ⟨by rfl, ?hy7z49⟩) (by assumption) ?rest7z49
        case hy7z49 =>
          intro w hSw
          dsimp only [STr] at hSw
          go_simp
          try with_reducible rfl
        simp only [Act.put, List.getElem_toArray, List.getElem_cons_succ, List.getElem_cons_zero, List.setIfInBounds_toArray, List.set_cons_zero, List.set_cons_succ]
        refine wpAnyH_take (i := 8) (v := ?v8z50) rfl (by kernel_rfl) (by kernel_rfl) (by kernel_rfl) (fun _ _ _ h => h) (Or.inl ⟨by rfl, ?hy8z50⟩) (by assumption) ?rest8z50
        case hy8z50 =>
          intro w hSw
          dsimp only [STr] at hSw
          go_simp
          try with_reducible rfl
        simp only [Act.put, List.getElem_toArray, List.getElem_cons_succ, List.getElem_cons_zero, List.setIfInBounds_toArray, List.set_cons_zero, List.set_cons_succ]
        refine wpAnyH_take (i := 9) (v := ?v9z51) rfl (by kernel_rfl) (by kernel_rfl) (by kernel_rfl) (fun _ _ _ h => h) (Or.inl ⟨by rfl, ?hy9z51⟩) (by assumption) ?rest9z51
        case hy9z51 =>
          intro w hSw
          dsimp only [STr] at hSw
          go_simp
          try with_reducible rfl
        simp only [Act.put, List.getElem_toArray, List.getElem_cons_succ, List.getElem_cons_zero, List.setIfInBounds_toArray, List.set_cons_zero, List.set_cons_succ]
        refine wpAnyH_take (i := 10) (v := ?v10z52) rfl (by kernel_rfl) (by kernel_rfl) (by kernel_rfl) (fun _ _ _ h => h) (Or.inl ⟨by rfl, ?hy10z52⟩) (by assumption) ?rest10z52
        case hy10z52 =>
          intro w hSw
          dsimp only [STr] at hSw
          obtain ⟨v3, v3'⟩ := HV.out.2.2
          go_simp
          try with_reducible rfl
        simp only [Act.put, List.getElem_toArray, List.getElem_cons_succ, List.getElem_cons_zero, List.setIfInBounds_toArray, List.set_cons_zero, List.set_cons_succ]
        refine wpAnyH_take (i := 11) (v := ?v11z53) rfl (by kernel_rfl) (by kernel_rfl) (by kernel_rfl) (fun _ _ _ h => h) (Or.inl ⟨by rfl, ?hy11z53⟩) (by assumption) ?rest11z53
        case hy11z53 =>
          intro w hSw
          dsimp only [STr] at hSw
          go_simp
          try with_reducible rfl
        simp only [Act.put, List.getElem_toArray, List.getElem_cons_succ, List.getElem_cons_zero, List.setIfInBounds_toArray, List.set_cons_zero, List.set_cons_succ]
        refine wpAnyH_take (i := 12) (v := ?v12z54) rfl (by kernel_rfl) (by kernel_rfl) (by kernel_rfl) (fun _ _ _ h => h) (Or.inl ⟨by rfl, ?hy12z54⟩) (by assumption) ?rest12z54
        case hy12z54 =>
          intro w hSw
          dsimp only [STr] at hSw
          go_simp
          try with_reducible rfl
        simp only [Act.put, List.getElem_toArray, List.getElem_cons_succ, List.getElem_cons_zero, List.setIfInBounds_toArray, List.set_cons_zero, List.set_cons_succ]
        refine wpAnyH_done (by kernel_rfl) ?_ _
        refine NoPanic.normal ?_
        clear hS
        go_wp2_with fail
        go_ret2
        exact ⟨by rw [RS.out]; rfl, B9.out⟩
    · have e0' : ¬ (0 : Int) < (m : Int) := by omega
      by_cases hneg : tt < 0
      · have hsg : sx < 0 := by rw [← HSX.out, Int.sign_eq_neg_one_of_neg hneg]; decide
        obtain ⟨a1, ha1⟩ : ∃ u : ByteArray, ⟨#[45]⟩ ++ u1 = u := ⟨_, rfl⟩
        obtain ⟨a2, ha2⟩ : ∃ u : ByteArray, a1 ++ ⟨#[]⟩ = u := ⟨_, rfl⟩
        obtain ⟨a3, ha3⟩ : ∃ u : ByteArray, a2 ++ u3 = u := ⟨_, rfl⟩
        have t1 : a1.size = 1 + q := by rw [← ha1, ByteArray.size_append, s1]; rfl
        have t2 : a2.size = 1 + q + 0 := by rw [← ha2, ByteArray.size_append, t1]; rfl
        have RS : Hid (dcS s.data.toList t.data.toList (m : Int) = (a3, 0)) := by
          unfold Hid
          rw [DC.out, show (⟨(dcT (tnR x y m) m).toArray⟩ : ByteArray) = a3 from ext_list (by
            have hy' := HYL.out
            rw [← TNN.out, ← TT.out] at hy'
            have ng : tnR x y m < 0 := by rw [TT.out]; exact hneg
            show dcT (tnR x y m) m = _
            rw [dcT_is hy', if_pos ng, if_neg e0, hq, hu1, hu3, ← ha3, app_list, ← ha2, app_list, ← ha1, app_list])]
        have v1 : ¬ (9223372036854775807 : Int) < 1 + (u1.size : Int) := by omega
        have v1' : ¬ 9223372036854775807 < 1 + u1.size := by omega
        have v2 : ¬ (9223372036854775807 : Int) < (a1.size : Int) := by omega
        have v2' : ¬ 9223372036854775807 < a1.size := by omega
        have v3 : ¬ (9223372036854775807 : Int) < (a2.size : Int) + (u3.size : Int) := by omega
        have v3' : ¬ 9223372036854775807 < a2.size + u3.size := by omega
        have HV := Lib.hid (And.intro (And.intro v1 v1') (And.intro (And.intro v2 v2') (And.intro v3 v3')))
        clear v1 v1' v2 v2' v3 v3'
        have Hha1 := Lib.hid ha1
        have Hha2 := Lib.hid ha2
        have Hha3 := Lib.hid ha3
        have Hhu1 := Lib.hid hu1
        have Hhu3 := Lib.hid hu3
        clear ha1 ha2 ha3 hu1 hu3
        have Hhq1 := Lib.hid hq1
        have Hhq2 := Lib.hid hq2
        have Hhq3 := Lib.hid hq3
        have Hhqw := Lib.hid hqw
        clear hq1 hq2 hq3 hqw
        clear t1 t2 s1 s3 hyp hyb hq HYL HYP HYB DC hneg TT TNN
        have hq1 := Hhq1.out
        have hq2 := Hhq2.out
        have hq3 := Hhq3.out
        have hqw := Hhqw.out
        go_wp2_with fail
        refine wp_region_noPanic ?_
        refine wp_region_held_drew (S := STr) (by kernel_rfl) trivial (fun hS => ?_)
        have B9 : Hid (Below w.heap.size w w9.drew) := B8.out.trans ((bel_drewN w9 1).mono B8.out.size)
        generalize w9.drew = WX at *
        have ha1 := Hha1.out
        have ha2 := Hha2.out
        have ha3 := Hha3.out
        have hu1 := Hhu1.out
        have hu3 := Hhu3.out
        refine wpAnyH_take (i := 0) (v := ?v0z55) rfl (by kernel_rfl) (by kernel_rfl) (by kernel_rfl) (fun _ _ _ h => h) (Or.inl ⟨by rfl, ?hy0z55⟩) (by assumption) ?rest0z55
        case hy0z55 =>
          intro w hSw
          dsimp only [STr] at hSw
          go_simp
          try with_reducible rfl
        simp only [Act.put, List.getElem_toArray, List.getElem_cons_succ, List.getElem_cons_zero, List.setIfInBounds_toArray, List.set_cons_zero, List.set_cons_succ]
        refine wpAnyH_take (i := 1) (v := ?v1z56) rfl (by kernel_rfl) (by kernel_rfl) (by kernel_rfl) (fun _ _ _ h => h) (Or.inl ⟨by rfl, ?hy1z56⟩) (by assumption) ?rest1z56
        case hy1z56 =>
          intro w hSw
          dsimp only [STr] at hSw
          go_simp
          try with_reducible rfl
        simp only [Act.put, List.getElem_toArray, List.getElem_cons_succ, List.getElem_cons_zero, List.setIfInBounds_toArray, List.set_cons_zero, List.set_cons_succ]
        refine wpAnyH_take (i := 2) (v := ?v2z57) rfl (by kernel_rfl) (by kernel_rfl) (by kernel_rfl) (fun _ _ _ h => h) (Or.inl ⟨by rfl, ?hy2z57⟩) (by assumption) ?rest2z57
        case hy2z57 =>
          intro w hSw
          dsimp only [STr] at hSw
          go_simp
          try with_reducible rfl
        simp only [Act.put, List.getElem_toArray, List.getElem_cons_succ, List.getElem_cons_zero, List.setIfInBounds_toArray, List.set_cons_zero, List.set_cons_succ]
        refine wpAnyH_take (i := 3) (v := ?v3z58) rfl (by kernel_rfl) (by kernel_rfl) (by kernel_rfl) (fun _ _ _ h => h) (Or.inl ⟨by rfl, ?hy3z58⟩) (by assumption) ?rest3z58
        case hy3z58 =>
          intro w hSw
          dsimp only [STr] at hSw
          go_simp
          try with_reducible rfl
        simp only [Act.put, List.getElem_toArray, List.getElem_cons_succ, List.getElem_cons_zero, List.setIfInBounds_toArray, List.set_cons_zero, List.set_cons_succ]
        refine wpAnyH_take (i := 4) (v := ?v4z59) rfl (by kernel_rfl) (by kernel_rfl) (by kernel_rfl) (fun _ _ _ h => h) (Or.inl ⟨by rfl, ?hy4z59⟩) (by assumption) ?rest4z59
        case hy4z59 =>
          intro w hSw
          dsimp only [STr] at hSw
          obtain ⟨v1, v1'⟩ := HV.out.1
          go_simp
          try with_reducible rfl
        simp only [Act.put, List.getElem_toArray, List.getElem_cons_succ, List.getElem_cons_zero, List.setIfInBounds_toArray, List.set_cons_zero, List.set_cons_succ]
        refine wpAnyH_take (i := 5) (v := ?v5z60) rfl (by kernel_rfl) (by kernel_rfl) (by kernel_rfl) (fun _ _ _ h => h) (Or.inl ⟨by rfl, ?hy5z60⟩) (by assumption) ?rest5z60
        case hy5z60 =>
          intro w hSw
          dsimp only [STr] at hSw
          go_simp
          try with_reducible rfl
        simp only [Act.put, List.getElem_toArray, List.getElem_cons_succ, List.getElem_cons_zero, List.setIfInBounds_toArray, List.set_cons_zero, List.set_cons_succ]
        refine wpAnyH_take (i := 6) (v := ?v6z61) rfl (by kernel_rfl) (by kernel_rfl) (by kernel_rfl) (fun _ _ _ h => h) (Or.inl ⟨by rfl, ?hy6z61⟩) (by assumption) ?rest6z61
        case hy6z61 =>
          intro w hSw
          dsimp only [STr] at hSw
          obtain ⟨v2, v2'⟩ := HV.out.2.1
          go_simp
          try with_reducible rfl
        simp only [Act.put, List.getElem_toArray, List.getElem_cons_succ, List.getElem_cons_zero, List.setIfInBounds_toArray, List.set_cons_zero, List.set_cons_succ]
        refine wpAnyH_take (i := 7) (v := ?v7z62) rfl (by kernel_rfl) (by kernel_rfl) (by kernel_rfl) (fun _ _ _ h => h) (Or.inl ⟨by rfl, ?hy7z62⟩) (by assumption) ?rest7z62
        case hy7z62 =>
          intro w hSw
          dsimp only [STr] at hSw
          go_simp
          try with_reducible rfl
        simp only [Act.put, List.getElem_toArray, List.getElem_cons_succ, List.getElem_cons_zero, List.setIfInBounds_toArray, List.set_cons_zero, List.set_cons_succ]
        refine wpAnyH_take (i := 8) (v := ?v8z63) rfl (by kernel_rfl) (by kernel_rfl) (by kernel_rfl) (fun _ _ _ h => h) (Or.inl ⟨by rfl, ?hy8z63⟩) (by assumption) ?rest8z63
        case hy8z63 =>
          intro w hSw
          dsimp only [STr] at hSw
          go_simp
          try with_reducible rfl
        simp only [Act.put, List.getElem_toArray, List.getElem_cons_succ, List.getElem_cons_zero, List.setIfInBounds_toArray, List.set_cons_zero, List.set_cons_succ]
        refine wpAnyH_take (i := 9) (v := ?v9z64) rfl (by kernel_rfl) (by kernel_rfl) (by kernel_rfl) (fun _ _ _ h => h) (Or.inl ⟨by rfl, ?hy9z64⟩) (by assumption) ?rest9z64
        case hy9z64 =>
          intro w hSw
          dsimp only [STr] at hSw
          go_simp
          try with_reducible rfl
        simp only [Act.put, List.getElem_toArray, List.getElem_cons_succ, List.getElem_cons_zero, List.setIfInBounds_toArray, List.set_cons_zero, List.set_cons_succ]
        refine wpAnyH_take (i := 10) (v := ?v10z65) rfl (by kernel_rfl) (by kernel_rfl) (by kernel_rfl) (fun _ _ _ h => h) (Or.inl ⟨by rfl, ?hy10z65⟩) (by assumption) ?rest10z65
        case hy10z65 =>
          intro w hSw
          dsimp only [STr] at hSw
          obtain ⟨v3, v3'⟩ := HV.out.2.2
          go_simp
          try with_reducible rfl
        simp only [Act.put, List.getElem_toArray, List.getElem_cons_succ, List.getElem_cons_zero, List.setIfInBounds_toArray, List.set_cons_zero, List.set_cons_succ]
        refine wpAnyH_take (i := 11) (v := ?v11z66) rfl (by kernel_rfl) (by kernel_rfl) (by kernel_rfl) (fun _ _ _ h => h) (Or.inl ⟨by rfl, ?hy11z66⟩) (by assumption) ?rest11z66
        case hy11z66 =>
          intro w hSw
          dsimp only [STr] at hSw
          go_simp
          try with_reducible rfl
        simp only [Act.put, List.getElem_toArray, List.getElem_cons_succ, List.getElem_cons_zero, List.setIfInBounds_toArray, List.set_cons_zero, List.set_cons_succ]
        refine wpAnyH_take (i := 12) (v := ?v12z67) rfl (by kernel_rfl) (by kernel_rfl) (by kernel_rfl) (fun _ _ _ h => h) (Or.inl ⟨by rfl, ?hy12z67⟩) (by assumption) ?rest12z67
        case hy12z67 =>
          intro w hSw
          dsimp only [STr] at hSw
          go_simp
          try with_reducible rfl
        simp only [Act.put, List.getElem_toArray, List.getElem_cons_succ, List.getElem_cons_zero, List.setIfInBounds_toArray, List.set_cons_zero, List.set_cons_succ]
        refine wpAnyH_done (by kernel_rfl) ?_ _
        refine NoPanic.normal ?_
        clear hS
        go_wp2_with fail
        go_ret2
        exact ⟨by rw [RS.out]; rfl, B9.out⟩
      · have hsg : ¬ sx < 0 := by
          rw [← HSX.out]
          intro h
          exact hneg (Int.sign_neg_iff.1 h)
        obtain ⟨a1, ha1⟩ : ∃ u : ByteArray, ⟨#[]⟩ ++ u1 = u := ⟨_, rfl⟩
        obtain ⟨a2, ha2⟩ : ∃ u : ByteArray, a1 ++ ⟨#[]⟩ = u := ⟨_, rfl⟩
        obtain ⟨a3, ha3⟩ : ∃ u : ByteArray, a2 ++ u3 = u := ⟨_, rfl⟩
        have t1 : a1.size = 0 + q := by rw [← ha1, ByteArray.size_append, s1]; rfl
        have t2 : a2.size = 0 + q + 0 := by rw [← ha2, ByteArray.size_append, t1]; rfl
        have RS : Hid (dcS s.data.toList t.data.toList (m : Int) = (a3, 0)) := by
          unfold Hid
          rw [DC.out, show (⟨(dcT (tnR x y m) m).toArray⟩ : ByteArray) = a3 from ext_list (by
            have hy' := HYL.out
            rw [← TNN.out, ← TT.out] at hy'
            have ng : ¬ tnR x y m < 0 := by rw [TT.out]; exact hneg
            show dcT (tnR x y m) m = _
            rw [dcT_is hy', if_neg ng, if_neg e0, hq, hu1, hu3, ← ha3, app_list, ← ha2, app_list, ← ha1, app_list])]
        have v1 : ¬ (9223372036854775807 : Int) < (u1.size : Int) := by omega
        have v1' : ¬ 9223372036854775807 < u1.size := by omega
        have v2 : ¬ (9223372036854775807 : Int) < (a1.size : Int) := by omega
        have v2' : ¬ 9223372036854775807 < a1.size := by omega
        have v3 : ¬ (9223372036854775807 : Int) < (a2.size : Int) + (u3.size : Int) := by omega
        have v3' : ¬ 9223372036854775807 < a2.size + u3.size := by omega
        have HV := Lib.hid (And.intro (And.intro v1 v1') (And.intro (And.intro v2 v2') (And.intro v3 v3')))
        clear v1 v1' v2 v2' v3 v3'
        have Hha1 := Lib.hid ha1
        have Hha2 := Lib.hid ha2
        have Hha3 := Lib.hid ha3
        have Hhu1 := Lib.hid hu1
        have Hhu3 := Lib.hid hu3
        clear ha1 ha2 ha3 hu1 hu3
        have Hhq1 := Lib.hid hq1
        have Hhq2 := Lib.hid hq2
        have Hhq3 := Lib.hid hq3
        have Hhqw := Lib.hid hqw
        clear hq1 hq2 hq3 hqw
        clear t1 t2 s1 s3 hyp hyb hq HYL HYP HYB DC hneg TT TNN
        have hq1 := Hhq1.out
        have hq2 := Hhq2.out
        have hq3 := Hhq3.out
        have hqw := Hhqw.out
        go_wp2_with fail
        refine wp_region_noPanic ?_
        refine wp_region_held_drew (S := STr) (by kernel_rfl) trivial (fun hS => ?_)
        have B9 : Hid (Below w.heap.size w w9.drew) := B8.out.trans ((bel_drewN w9 1).mono B8.out.size)
        generalize w9.drew = WX at *
        have ha1 := Hha1.out
        have ha2 := Hha2.out
        have ha3 := Hha3.out
        have hu1 := Hhu1.out
        have hu3 := Hhu3.out
        refine wpAnyH_take (i := 0) (v := ?v0z68) rfl (by kernel_rfl) (by kernel_rfl) (by kernel_rfl) (fun _ _ _ h => h) (Or.inl ⟨by rfl, ?hy0z68⟩) (by assumption) ?rest0z68
        case hy0z68 =>
          intro w hSw
          dsimp only [STr] at hSw
          go_simp
          try with_reducible rfl
        simp only [Act.put, List.getElem_toArray, List.getElem_cons_succ, List.getElem_cons_zero, List.setIfInBounds_toArray, List.set_cons_zero, List.set_cons_succ]
        refine wpAnyH_take (i := 1) (v := ?v1z69) rfl (by kernel_rfl) (by kernel_rfl) (by kernel_rfl) (fun _ _ _ h => h) (Or.inl ⟨by rfl, ?hy1z69⟩) (by assumption) ?rest1z69
        case hy1z69 =>
          intro w hSw
          dsimp only [STr] at hSw
          go_simp
          try with_reducible rfl
        simp only [Act.put, List.getElem_toArray, List.getElem_cons_succ, List.getElem_cons_zero, List.setIfInBounds_toArray, List.set_cons_zero, List.set_cons_succ]
        refine wpAnyH_take (i := 2) (v := ?v2z70) rfl (by kernel_rfl) (by kernel_rfl) (by kernel_rfl) (fun _ _ _ h => h) (Or.inl ⟨by rfl, ?hy2z70⟩) (by assumption) ?rest2z70
        case hy2z70 =>
          intro w hSw
          dsimp only [STr] at hSw
          go_simp
          try with_reducible rfl
        simp only [Act.put, List.getElem_toArray, List.getElem_cons_succ, List.getElem_cons_zero, List.setIfInBounds_toArray, List.set_cons_zero, List.set_cons_succ]
        refine wpAnyH_take (i := 3) (v := ?v3z71) rfl (by kernel_rfl) (by kernel_rfl) (by kernel_rfl) (fun _ _ _ h => h) (Or.inl ⟨by rfl, ?hy3z71⟩) (by assumption) ?rest3z71
        case hy3z71 =>
          intro w hSw
          dsimp only [STr] at hSw
          go_simp
          try with_reducible rfl
        simp only [Act.put, List.getElem_toArray, List.getElem_cons_succ, List.getElem_cons_zero, List.setIfInBounds_toArray, List.set_cons_zero, List.set_cons_succ]
        refine wpAnyH_take (i := 4) (v := ?v4z72) rfl (by kernel_rfl) (by kernel_rfl) (by kernel_rfl) (fun _ _ _ h => h) (Or.inl ⟨by rfl, ?hy4z72⟩) (by assumption) ?rest4z72
        case hy4z72 =>
          intro w hSw
          dsimp only [STr] at hSw
          obtain ⟨v1, v1'⟩ := HV.out.1
          go_simp
          try with_reducible rfl
        simp only [Act.put, List.getElem_toArray, List.getElem_cons_succ, List.getElem_cons_zero, List.setIfInBounds_toArray, List.set_cons_zero, List.set_cons_succ]
        refine wpAnyH_take (i := 5) (v := ?v5z73) rfl (by kernel_rfl) (by kernel_rfl) (by kernel_rfl) (fun _ _ _ h => h) (Or.inl ⟨by rfl, ?hy5z73⟩) (by assumption) ?rest5z73
        case hy5z73 =>
          intro w hSw
          dsimp only [STr] at hSw
          go_simp
          try with_reducible rfl
        simp only [Act.put, List.getElem_toArray, List.getElem_cons_succ, List.getElem_cons_zero, List.setIfInBounds_toArray, List.set_cons_zero, List.set_cons_succ]
        refine wpAnyH_take (i := 6) (v := ?v6z74) rfl (by kernel_rfl) (by kernel_rfl) (by kernel_rfl) (fun _ _ _ h => h) (Or.inl ⟨by rfl, ?hy6z74⟩) (by assumption) ?rest6z74
        case hy6z74 =>
          intro w hSw
          dsimp only [STr] at hSw
          obtain ⟨v2, v2'⟩ := HV.out.2.1
          go_simp
          try with_reducible rfl
        simp only [Act.put, List.getElem_toArray, List.getElem_cons_succ, List.getElem_cons_zero, List.setIfInBounds_toArray, List.set_cons_zero, List.set_cons_succ]
        refine wpAnyH_take (i := 7) (v := ?v7z75) rfl (by kernel_rfl) (by kernel_rfl) (by kernel_rfl) (fun _ _ _ h => h) (Or.inl ⟨by rfl, ?hy7z75⟩) (by assumption) ?rest7z75
        case hy7z75 =>
          intro w hSw
          dsimp only [STr] at hSw
          go_simp
          try with_reducible rfl
        simp only [Act.put, List.getElem_toArray, List.getElem_cons_succ, List.getElem_cons_zero, List.setIfInBounds_toArray, List.set_cons_zero, List.set_cons_succ]
        refine wpAnyH_take (i := 8) (v := ?v8z76) rfl (by kernel_rfl) (by kernel_rfl) (by kernel_rfl) (fun _ _ _ h => h) (Or.inl ⟨by rfl, ?hy8z76⟩) (by assumption) ?rest8z76
        case hy8z76 =>
          intro w hSw
          dsimp only [STr] at hSw
          go_simp
          try with_reducible rfl
        simp only [Act.put, List.getElem_toArray, List.getElem_cons_succ, List.getElem_cons_zero, List.setIfInBounds_toArray, List.set_cons_zero, List.set_cons_succ]
        refine wpAnyH_take (i := 9) (v := ?v9z77) rfl (by kernel_rfl) (by kernel_rfl) (by kernel_rfl) (fun _ _ _ h => h) (Or.inl ⟨by rfl, ?hy9z77⟩) (by assumption) ?rest9z77
        case hy9z77 =>
          intro w hSw
          dsimp only [STr] at hSw
          go_simp
          try with_reducible rfl
        simp only [Act.put, List.getElem_toArray, List.getElem_cons_succ, List.getElem_cons_zero, List.setIfInBounds_toArray, List.set_cons_zero, List.set_cons_succ]
        refine wpAnyH_take (i := 10) (v := ?v10z78) rfl (by kernel_rfl) (by kernel_rfl) (by kernel_rfl) (fun _ _ _ h => h) (Or.inl ⟨by rfl, ?hy10z78⟩) (by assumption) ?rest10z78
        case hy10z78 =>
          intro w hSw
          dsimp only [STr] at hSw
          obtain ⟨v3, v3'⟩ := HV.out.2.2
          go_simp
          try with_reducible rfl
        simp only [Act.put, List.getElem_toArray, List.getElem_cons_succ, List.getElem_cons_zero, List.setIfInBounds_toArray, List.set_cons_zero, List.set_cons_succ]
        refine wpAnyH_take (i := 11) (v := ?v11z79) rfl (by kernel_rfl) (by kernel_rfl) (by kernel_rfl) (fun _ _ _ h => h) (Or.inl ⟨by rfl, ?hy11z79⟩) (by assumption) ?rest11z79
        case hy11z79 =>
          intro w hSw
          dsimp only [STr] at hSw
          go_simp
          try with_reducible rfl
        simp only [Act.put, List.getElem_toArray, List.getElem_cons_succ, List.getElem_cons_zero, List.setIfInBounds_toArray, List.set_cons_zero, List.set_cons_succ]
        refine wpAnyH_take (i := 12) (v := ?v12z80) rfl (by kernel_rfl) (by kernel_rfl) (by kernel_rfl) (fun _ _ _ h => h) (Or.inl ⟨by rfl, ?hy12z80⟩) (by assumption) ?rest12z80
        case hy12z80 =>
          intro w hSw
          dsimp only [STr] at hSw
          go_simp
          try with_reducible rfl
        simp only [Act.put, List.getElem_toArray, List.getElem_cons_succ, List.getElem_cons_zero, List.setIfInBounds_toArray, List.set_cons_zero, List.set_cons_succ]
        refine wpAnyH_done (by kernel_rfl) ?_ _
        refine NoPanic.normal ?_
        clear hS
        go_wp2_with fail
        go_ret2
        exact ⟨by rw [RS.out]; rfl, B9.out⟩
  · go_enter Tryz.func19, Tryz.ntmps19
    go_wp2_with fail
    clear hW0 x0 x1
    (refine (HC.out _).mono ?_)
    rintro e w1 ⟨tb, ta, tk, tc, rfl, b1, hz0⟩
    obtain ⟨WA, hWA⟩ : ∃ WA, (w1.alloc (.cells #[.string ⟨#[]⟩, .string ⟨#[]⟩] 23)).alloc (.cells #[.bool false, .slice none 0 0] 44) = WA := ⟨_, rfl⟩
    have s1 : (w1.alloc (.cells #[.string ⟨#[]⟩, .string ⟨#[]⟩] 23)).heap.size = w1.heap.size + 1 := by simp
    have D1 : B2 WA w1.heap.size (.string ⟨#[]⟩) (.string ⟨#[]⟩) := by rw [← hWA]; exact (B2.made _ _ _ _).keep (bel_one _ _)
    have D2 : B2 WA (w1.heap.size + 1) (.bool false) (.slice none 0 0) := by rw [← hWA, ← s1]; exact B2.made _ _ _ _
    obtain ⟨WB, hWB⟩ : ∃ W, two (two WA w1.heap.size (.string o1) (.string o2)) (w1.heap.size + 1) (.bool tb) (.slice ta tk tc) = W := ⟨_, rfl⟩
    have hb : Below w1.heap.size w1 WB := by
      rw [← hWB]
      exact below_two (below_two (by rw [← hWA]; exact ((Below.refl _ _).alloc (Nat.le_refl _) _).alloc (by simp) _) (Nat.le_refl _) _ _) (by omega) _ _
    have G1 : Hid (B2 WB w1.heap.size (.string o1) (.string o2)) := by rw [← hWB]; exact (D1.set _ _).other (by omega) _ _
    have G2 : Hid (B2 WB (w1.heap.size + 1) (.bool tb) (.slice ta tk tc)) := by rw [← hWB]; exact (D2.other (by omega) _ _).set _ _
    have a0 := D1.c0
    have a1 := D1.c1
    have af0 := D1.fr 0
    have af1 := D1.fr 1
    have b0 := D2.c0
    have b1' := D2.c1
    have bf0 := D2.fr 0
    have bf1 := D2.fr 1
    unfold two at hWB
    clear D1 D2 s1
    have hc := b1.trans (hb.mono b1.size)
    have B2' := Lib.hid (B0.out.trans (hc.mono B0.out.size))
    clear hb hc b1 B0 HC hz0
    have hne : (o3 == 0) = false := by rw [beq_eq_false_iff_ne]; exact hz
    have hne2 : (o3 != 0) = true := by simp [hz]
    have RS : Hid (dcS s.data.toList t.data.toList p = (⟨#[]⟩, o3)) := by
      unfold Hid
      rw [dc_no (by rw [HRN.out]; exact hz), HRN.out]
    clear hz HRN
    go_wp2_with fail
    go_ret2
    exact ⟨by rw [RS.out]; rfl, B2'.out⟩
end Go.Proofs.YtfijhkaalpinhaaGreatDoor
namespace Go.Proofs.YtfijhkaalpinhaaGreatDoor
open Go.RowKit

/-- Check's answer at a number. -/
def chk2 (n : Int) (s : List UInt8) (k : Nat) : Int := if s ≠ [] ∨ 0 < k then 3 else if n < -999999999999999 ∨ 999999999999999 < n then 1 else 0
/-- A box of four cells of a value. -/
structure Bv (W : World) (g : Nat) (kd n : Int) (s : ByteArray) (a : Option Addr) (k c : Nat) : Prop where
  c0 : W.cell? ⟨g, 0, none⟩ = some (.int .i64 kd)
  c1 : W.cell? ⟨g, 1, none⟩ = some (.int .i64 n)
  c2 : W.cell? ⟨g, 2, none⟩ = some (.string s)
  c3 : W.cell? ⟨g, 3, none⟩ = some (.slice a k c)
  lt : g < W.heap.size
theorem Bv.keep {W W' : World} {g : Nat} {kd n : Int} {s : ByteArray} {a : Option Addr} {k c : Nat} (h : Bv W g kd n s a k c) (hb : Below W.heap.size W W') : Bv W' g kd n s a k c := by
  have q := fun (o : Nat) => hb.cell (p := ⟨g, o, none⟩) h.lt
  exact ⟨(q 0).trans h.c0, (q 1).trans h.c1, (q 2).trans h.c2, (q 3).trans h.c3, Nat.lt_of_lt_of_le h.lt hb.size⟩
theorem Bv.made (W : World) (kd n : Int) (s : ByteArray) (a : Option Addr) (k c : Nat) (T : TypeId) : Bv (W.alloc (.cells #[.int .i64 kd, .int .i64 n, .string s, .slice a k c] T)) W.heap.size kd n s a k c := by
  refine ⟨?_, ?_, ?_, ?_, by simp⟩
  all_goals (rw [World.cell?_alloc_new]; rfl)
theorem bounds_c (w : World) : Calls Tryz.prog 80 #[.int .i64 2] w fun e w' => e = .returned (.tuple #[.int .i64 (-999999999999999), .int .i64 999999999999999, .bool true]) ∧ w = w' := by
  go_enter Tryz.func80, Tryz.ntmps80
  go_wp2
  exact bodyPost_ret (v := .tuple #[.int .i64 (-999999999999999), .int .i64 999999999999999, .bool true]) (by simp [results, Tryz.results80, go_sem]) rfl ⟨rfl, rfl⟩
theorem within_c (n lo hi : Int) (w : World) : Calls Tryz.prog 83 #[.int .i64 n, .int .i64 lo, .int .i64 hi] w fun e w' => e = .returned (.bool (decide (lo ≤ n) && decide (n ≤ hi))) ∧ w = w' := by
  by_cases h1 : lo ≤ n
  · by_cases h2 : n ≤ hi
    · have E : Hid ((decide (lo ≤ n) && decide (n ≤ hi)) = true) := by unfold Hid; rw [decide_eq_true h1, decide_eq_true h2]; rfl
      rw [E.out]
      go_enter Tryz.func83, Tryz.ntmps83
      go_wp2
      go_ret
      exact ⟨rfl, rfl⟩
    · have E : Hid ((decide (lo ≤ n) && decide (n ≤ hi)) = false) := by unfold Hid; rw [decide_eq_false h2, Bool.and_false]
      rw [E.out]
      go_enter Tryz.func83, Tryz.ntmps83
      go_wp2
      go_ret
      exact ⟨rfl, rfl⟩
  · have E : Hid ((decide (lo ≤ n) && decide (n ≤ hi)) = false) := by unfold Hid; rw [decide_eq_false h1, Bool.false_and]
    rw [E.out]
    go_enter Tryz.func83, Tryz.ntmps83
    go_wp2
    go_ret
    exact ⟨rfl, rfl⟩
theorem inRange_c (n : Int) (w : World) : Calls Tryz.prog 84 #[.int .i64 2, .int .i64 n] w fun e w' => e = .returned (.bool (decide (-999999999999999 ≤ n) && decide (n ≤ 999999999999999))) ∧ w = w' := by
  have HW := Lib.hid (within_c n (-999999999999999) 999999999999999 w)
  generalize (decide (-999999999999999 ≤ n) && decide (n ≤ 999999999999999)) = b at *
  go_enter Tryz.func84, Tryz.ntmps84
  go_wp2_with fail
  refine HW.out.mono ?_
  rintro e w' ⟨rfl, rfl⟩
  go_wp2_with fail
  go_ret
  exact ⟨rfl, rfl⟩
set_option maxRecDepth 100000 in
set_option maxHeartbeats 4000000 in
theorem Check_n (n : Int) (s : ByteArray) (a : Option Addr) (k c : Nat) (w : World) :
    Calls Tryz.prog 53 #[.agg #[.int .i64 2, .int .i64 n, .string s, .slice a k c]] w fun e w' => e = .returned (.int .i64 (chk2 n s.data.toList k)) ∧ Below w.heap.size w w' := by
  obtain ⟨W0, hW0⟩ : ∃ W0, w.alloc (.cells #[.int .i64 2, .int .i64 n, .string s, .slice a k c] 35) = W0 := ⟨_, rfl⟩
  have X0 : Bv W0 w.heap.size 2 n s a k c := by rw [← hW0]; exact Bv.made _ _ _ _ _ _ _ _
  have B0 : Hid (Below w.heap.size w W0) := by rw [← hW0]; exact bel_one _ _
  have x0 := X0.c0
  have x1 := X0.c1
  have x2 := X0.c2
  have x3 := X0.c3
  have HCH : Hid (chk2 n s.data.toList k = if s.data.toList ≠ [] ∨ 0 < k then 3 else if n < -999999999999999 ∨ 999999999999999 < n then 1 else 0) := rfl
  have hsz : s.size = s.data.toList.length := by simp
  have htl : s.toList = s.data.toList := Lib.toList_data s
  clear X0
  have HBN := Lib.hid (fun w => bounds_c w)
  by_cases hs : s.data.toList = []
  · have q1 : (s.toList == []) = true := by rw [htl, hs]; rfl
    have q2 : (s.toList != []) = false := by rw [htl, hs]; rfl
    have q3 : s.toList = [] := by rw [htl, hs]
    have q4 : s.size = 0 := by rw [hsz, hs]; rfl
    have q5 : (s.size : Int) = 0 := by omega
    rcases Nat.eq_zero_or_pos k with hk | hk
    · subst hk
      by_cases h0 : n < -999999999999999
      · have RS : Hid (chk2 n s.data.toList 0 = 1) := by unfold Hid; rw [HCH.out, if_neg (by simp [hs]), if_pos (.inl h0)]

        clear HCH hs hsz htl
        go_enter Tryz.func53, Tryz.ntmps53
        go_wp2_with fail
        (with_reducible refine (HBN.out _).mono ?_)
        rintro e w' ⟨rfl, rfl⟩
        go_wp2_with fail
        go_ret
        exact ⟨by rw [RS.out]; rfl, B0.out⟩
      · by_cases h1 : 999999999999999 < n
        · have RS : Hid (chk2 n s.data.toList 0 = 1) := by unfold Hid; rw [HCH.out, if_neg (by simp [hs]), if_pos (.inr h1)]

          clear HCH hs hsz htl
          go_enter Tryz.func53, Tryz.ntmps53
          go_wp2_with fail
          (with_reducible refine (HBN.out _).mono ?_)
          rintro e w' ⟨rfl, rfl⟩
          go_wp2_with fail
          go_ret
          exact ⟨by rw [RS.out]; rfl, B0.out⟩
        · have RS : Hid (chk2 n s.data.toList 0 = 0) := by unfold Hid; rw [HCH.out, if_neg (by simp [hs]), if_neg (fun h => h.elim h0 h1)]

          clear HCH hs hsz htl
          go_enter Tryz.func53, Tryz.ntmps53
          go_wp2_with fail
          (with_reducible refine (HBN.out _).mono ?_)
          rintro e w' ⟨rfl, rfl⟩
          go_wp2_with fail
          go_ret
          exact ⟨by rw [RS.out]; rfl, B0.out⟩
    · have RS : Hid (chk2 n s.data.toList k = 3) := by unfold Hid; rw [HCH.out, if_pos (.inr hk)]
      have hk' : (0 : Int) < (k : Int) := by omega
      clear HCH hs hsz htl q4 q5
      go_enter Tryz.func53, Tryz.ntmps53
      go_wp2_with fail
      (with_reducible refine (HBN.out _).mono ?_)
      rintro e w' ⟨rfl, rfl⟩
      go_wp2_with fail
      go_ret
      exact ⟨by rw [RS.out]; rfl, B0.out⟩
  · have RS : Hid (chk2 n s.data.toList k = 3) := by unfold Hid; rw [HCH.out, if_pos (.inl hs)]
    have q1 : (s.toList == []) = false := by rw [htl, beq_eq_false_iff_ne]; exact hs
    have q2 : (s.toList != []) = true := by rw [bne, q1]; rfl
    have q3 : ¬ s.toList = [] := by rw [htl]; exact hs
    clear HCH hs hsz htl
    go_enter Tryz.func53, Tryz.ntmps53
    go_wp2_with fail
    (with_reducible refine (HBN.out _).mono ?_)
    rintro e w' ⟨rfl, rfl⟩
    go_wp2_with fail
    go_ret
    exact ⟨by rw [RS.out]; rfl, B0.out⟩
set_option maxRecDepth 100000 in
set_option maxHeartbeats 4000000 in
theorem rCheck_n (n : Int) (s : ByteArray) (a : Option Addr) (k c : Nat) (w : World) :
    Calls Tryz.prog 54 #[.agg #[.int .i64 2, .int .i64 n, .string s, .slice a k c]] w fun e w' => e = .returned (.int .i64 (chk2 n s.data.toList k)) ∧ Below w.heap.size w w' := by
  obtain ⟨W0, hW0⟩ : ∃ W0, w.alloc (.cells #[.int .i64 2, .int .i64 n, .string s, .slice a k c] 35) = W0 := ⟨_, rfl⟩
  have X0 : Bv W0 w.heap.size 2 n s a k c := by rw [← hW0]; exact Bv.made _ _ _ _ _ _ _ _
  have B0 : Hid (Below w.heap.size w W0) := by rw [← hW0]; exact bel_one _ _
  have x0 := X0.c0
  have x1 := X0.c1
  have x2 := X0.c2
  have x3 := X0.c3
  have HCH : Hid (chk2 n s.data.toList k = if s.data.toList ≠ [] ∨ 0 < k then 3 else if n < -999999999999999 ∨ 999999999999999 < n then 1 else 0) := rfl
  have hsz : s.size = s.data.toList.length := by simp
  have htl : s.toList = s.data.toList := Lib.toList_data s
  clear X0
  have HWI : Hid (∀ w, Calls Tryz.prog 83 #[.int .i64 2, .int .i64 0, .int .i64 7] w fun e w' => e = .returned (.bool true) ∧ w = w') := fun w => within_c 2 0 7 w
  by_cases hs : s.data.toList = []
  · have q1 : (s.toList == []) = true := by rw [htl, hs]; rfl
    have q2 : (s.toList != []) = false := by rw [htl, hs]; rfl
    have q3 : s.toList = [] := by rw [htl, hs]
    have q4 : s.size = 0 := by rw [hsz, hs]; rfl
    have q5 : (s.size : Int) = 0 := by omega
    rcases Nat.eq_zero_or_pos k with hk | hk
    · subst hk
      by_cases h0 : n < -999999999999999
      · have RS : Hid (chk2 n s.data.toList 0 = 1) := by unfold Hid; rw [HCH.out, if_neg (by simp [hs]), if_pos (.inl h0)]
        have HIR : Hid (∀ w, Calls Tryz.prog 84 #[.int .i64 2, .int .i64 n] w fun e w' => e = .returned (.bool false) ∧ w = w') := fun w => by
          have h := inRange_c n w
          rw [show (decide (-999999999999999 ≤ n) && decide (n ≤ 999999999999999)) = false by simp; omega] at h
          exact h
        clear HCH hs hsz htl
        go_enter Tryz.func54, Tryz.ntmps54
        go_wp2_with fail
        (with_reducible refine (HWI.out _).mono ?_)
        rintro e w' ⟨rfl, rfl⟩
        go_wp2_with fail
        (with_reducible refine (HIR.out _).mono ?_)
        rintro e w' ⟨rfl, rfl⟩
        go_wp2_with fail
        go_ret
        exact ⟨by rw [RS.out]; rfl, B0.out⟩
      · by_cases h1 : 999999999999999 < n
        · have RS : Hid (chk2 n s.data.toList 0 = 1) := by unfold Hid; rw [HCH.out, if_neg (by simp [hs]), if_pos (.inr h1)]
          have HIR : Hid (∀ w, Calls Tryz.prog 84 #[.int .i64 2, .int .i64 n] w fun e w' => e = .returned (.bool false) ∧ w = w') := fun w => by
            have h := inRange_c n w
            rw [show (decide (-999999999999999 ≤ n) && decide (n ≤ 999999999999999)) = false by simp; omega] at h
            exact h
          clear HCH hs hsz htl
          go_enter Tryz.func54, Tryz.ntmps54
          go_wp2_with fail
          (with_reducible refine (HWI.out _).mono ?_)
          rintro e w' ⟨rfl, rfl⟩
          go_wp2_with fail
          (with_reducible refine (HIR.out _).mono ?_)
          rintro e w' ⟨rfl, rfl⟩
          go_wp2_with fail
          go_ret
          exact ⟨by rw [RS.out]; rfl, B0.out⟩
        · have RS : Hid (chk2 n s.data.toList 0 = 0) := by unfold Hid; rw [HCH.out, if_neg (by simp [hs]), if_neg (fun h => h.elim h0 h1)]
          have HIR : Hid (∀ w, Calls Tryz.prog 84 #[.int .i64 2, .int .i64 n] w fun e w' => e = .returned (.bool true) ∧ w = w') := fun w => by
            have h := inRange_c n w
            rw [show (decide (-999999999999999 ≤ n) && decide (n ≤ 999999999999999)) = true by simp; omega] at h
            exact h
          clear HCH hs hsz htl
          go_enter Tryz.func54, Tryz.ntmps54
          go_wp2_with fail
          (with_reducible refine (HWI.out _).mono ?_)
          rintro e w' ⟨rfl, rfl⟩
          go_wp2_with fail
          (with_reducible refine (HIR.out _).mono ?_)
          rintro e w' ⟨rfl, rfl⟩
          go_wp2_with fail
          go_loop [86] (fun i => i = .int .i64 0) (fun _ => 0)
          case atStart => rfl
          case round =>
            obtain rfl := hrel
            go_wp2_with fail
            go_loop [105] (fun i => i = .int .i64 0) (fun _ => 0)
            case atStart => rfl
            case round =>
              obtain rfl := hrel
              go_wp2_with fail
              go_loop [7] (fun i => i = .int .i64 1) (fun _ => 0)
              case atStart => rfl
              case round =>
                obtain rfl := hrel
                go_wp2_with fail
                go_ret
                exact ⟨by rw [RS.out]; rfl, B0.out⟩
    · have RS : Hid (chk2 n s.data.toList k = 3) := by unfold Hid; rw [HCH.out, if_pos (.inr hk)]
      have hk' : (0 : Int) < (k : Int) := by omega
      clear HCH hs hsz htl q4 q5
      go_enter Tryz.func54, Tryz.ntmps54
      go_wp2_with fail
      (with_reducible refine (HWI.out _).mono ?_)
      rintro e w' ⟨rfl, rfl⟩
      go_wp2_with fail
      go_ret
      exact ⟨by rw [RS.out]; rfl, B0.out⟩
  · have RS : Hid (chk2 n s.data.toList k = 3) := by unfold Hid; rw [HCH.out, if_pos (.inl hs)]
    have q1 : (s.toList == []) = false := by rw [htl, beq_eq_false_iff_ne]; exact hs
    have q2 : (s.toList != []) = true := by rw [bne, q1]; rfl
    have q3 : ¬ s.toList = [] := by rw [htl]; exact hs
    clear HCH hs hsz htl
    go_enter Tryz.func54, Tryz.ntmps54
    go_wp2_with fail
    (with_reducible refine (HWI.out _).mono ?_)
    rintro e w' ⟨rfl, rfl⟩
    go_wp2_with fail
    go_ret
    exact ⟨by rw [RS.out]; rfl, B0.out⟩
/-- Exact's answer. -/
def exS (kd n : Int) (s : List UInt8) (k : Nat) : ByteArray × ByteArray × Int := if kd = 2 ∧ chk2 n s k = 0 then roS n 10000 else (⟨#[]⟩, ⟨#[]⟩, 8)
theorem chk2_ok {n : Int} {s : List UInt8} {k : Nat} (h : chk2 n s k = 0) : -999999999999999 ≤ n ∧ n ≤ 999999999999999 := by
  unfold chk2 at h
  split at h
  · cases h
  · split at h
    · cases h
    · omega
set_option maxRecDepth 100000 in
set_option maxHeartbeats 4000000 in
theorem Exact_c (kd n : Int) (s : ByteArray) (a : Option Addr) (k c : Nat) (w : World) :
    Calls Tryz.prog 21 #[.agg #[.int .i64 kd, .int .i64 n, .string s, .slice a k c]] w (OpPost (exS kd n s.data.toList k) w) := by
  by_cases hk : kd = 2
  · subst hk
    obtain ⟨W0, hW0⟩ : ∃ W0, (w.alloc (.cells #[.int .i64 2, .int .i64 n, .string s, .slice a k c] 35)).alloc (.cells #[.string ⟨#[]⟩, .string ⟨#[]⟩] 23) = W0 := ⟨_, rfl⟩
    have s1 : (w.alloc (.cells #[.int .i64 2, .int .i64 n, .string s, .slice a k c] 35)).heap.size = w.heap.size + 1 := by simp
    have X0 : Hid (Bv W0 w.heap.size 2 n s a k c) := by rw [← hW0]; exact (Bv.made w _ _ _ _ _ _ _).keep (bel_one _ _)
    have JR0 : Hid (B2 W0 (w.heap.size + 1) (.string ⟨#[]⟩) (.string ⟨#[]⟩)) := by rw [← hW0, ← s1]; exact B2.made _ _ _ _
    have JB0 : Hid (Below w.heap.size w W0) := by rw [← hW0]; exact ((Below.refl _ _).alloc (Nat.le_refl _) _).alloc (by simp) _
    have x0 := X0.out.c0
    have x1 := X0.out.c1
    have x2 := X0.out.c2
    have x3 := X0.out.c3
    clear s1
    have HC := Lib.hid (fun W => Check_n n s a k c W)
    have HEX : Hid (exS 2 n s.data.toList k = if chk2 n s.data.toList k = 0 then roS n 10000 else (⟨#[]⟩, ⟨#[]⟩, 8)) := by
      unfold Hid exS
      by_cases h : chk2 n s.data.toList k = 0
      · rw [if_pos ⟨rfl, h⟩, if_pos h]
      · rw [if_neg (fun q => h q.2), if_neg h]
    have HOK : Hid (chk2 n s.data.toList k = 0 → -999999999999999 ≤ n ∧ n ≤ 999999999999999) := chk2_ok
    obtain ⟨q, hq⟩ : ∃ q, chk2 n s.data.toList k = q := ⟨_, rfl⟩
    rw [hq] at HC HEX HOK
    clear hq
    by_cases hz : q = 0
    · subst hz
      obtain ⟨g0, g1⟩ := HOK.out rfl
      have h0 : -9223372036854775808 ≤ n := by omega
      have h1 : n ≤ 9223372036854775807 := by omega
      have HRO := fun W (h : Below w.heap.size w W) => RatioOf_c n 10000 W h0 h1 (by decide) (by decide)
      unfold OpPost at HRO
      have RS : Hid (exS 2 n s.data.toList k = roS n 10000) := by unfold Hid; rw [HEX.out, if_pos rfl]
      obtain ⟨rr, hrr⟩ : ∃ rr, roS n 10000 = rr := ⟨_, rfl⟩
      rw [hrr] at HRO
      have RS2 : Hid (exS 2 n s.data.toList k = rr) := by unfold Hid; rw [RS.out, hrr]
      have HR := Lib.hid HRO
      clear HRO hrr RS HEX HOK g0 g1 h0 h1
      go_enter Tryz.func21, Tryz.ntmps21
      go_wp2_with fail
      clear hW0
      (with_reducible refine (HC.out _).mono ?_)
      rintro e w1 ⟨rfl, b1⟩
      have JR1 := Lib.hid (JR0.out.keep b1)
      have JB1 := Lib.hid (JB0.out.trans (b1.mono JB0.out.size))
      have X1 := X0.out.keep b1
      clear x0 x1 x2 x3
      have x1 := X1.c1
      clear b1 X1 X0 JR0 JB0 HC
      go_wp2_with fail
      clear x1
      (with_reducible refine (HR.out _ JB1.out).mono ?_)
      rintro e w2 ⟨rfl, b2⟩
      have JR2 := Lib.hid (JR1.out.keep b2)
      have JB2 := Lib.hid (JB1.out.trans (b2.mono JB1.out.size))
      clear b2 JR1 JB1 HR
      obtain ⟨W9, hW9⟩ : ∃ W9, two w2 (w.heap.size + 1) (.string rr.1) (.string rr.2.1) = W9 := ⟨_, rfl⟩
      have R9 : B2 W9 (w.heap.size + 1) (.string rr.1) (.string rr.2.1) := by rw [← hW9]; exact JR2.out.set _ _
      have PP : Hid (OpPost (exS 2 n s.data.toList k) w (.returned (.tuple #[.agg #[.string rr.1, .string rr.2.1], .int .i64 rr.2.2])) W9) := by
        rw [← hW9]
        exact ⟨by rw [RS2.out], below_two JB2.out (by omega) _ _⟩
      have k0 := JR2.out.c0
      have k1 := JR2.out.c1
      have cf0 := JR2.out.fr 0
      have cf1 := JR2.out.fr 1
      obtain ⟨r0, r1, _, _⟩ := id R9
      unfold two at hW9
      clear R9
      go_wp2_with fail
      exact bodyPost_ret (v := .tuple #[.agg #[.string rr.1, .string rr.2.1], .int .i64 rr.2.2]) (by simp [results, Tryz.results21, go_sem, r0, r1]) rfl PP.out
    · have hne : (q == 0) = false := by rw [beq_eq_false_iff_ne]; exact hz
      have hne2 : (q != 0) = true := by simp [hz]
      have RS : Hid (exS 2 n s.data.toList k = (⟨#[]⟩, ⟨#[]⟩, 8)) := by unfold Hid; rw [HEX.out, if_neg hz]
      clear HEX HOK
      go_enter Tryz.func21, Tryz.ntmps21
      go_wp2_with fail
      clear hW0 x0 x1 x2 x3
      (with_reducible refine (HC.out _).mono ?_)
      rintro e w1 ⟨rfl, b1⟩
      have JR1 := Lib.hid (JR0.out.keep b1)
      have JB1 := Lib.hid (JB0.out.trans (b1.mono JB0.out.size))
      clear b1 X0 JR0 JB0 HC
      obtain ⟨W9, hW9⟩ : ∃ W9, two w1 (w.heap.size + 1) (.string ⟨#[]⟩) (.string ⟨#[]⟩) = W9 := ⟨_, rfl⟩
      have R9 : B2 W9 (w.heap.size + 1) (.string ⟨#[]⟩) (.string ⟨#[]⟩) := by rw [← hW9]; exact JR1.out.set _ _
      have PP : Hid (OpPost (exS 2 n s.data.toList k) w (.returned (.tuple #[.agg #[.string ⟨#[]⟩, .string ⟨#[]⟩], .int .i64 8])) W9) := by
        rw [← hW9]
        exact ⟨by rw [RS.out], below_two JB1.out (by omega) _ _⟩
      have k0 := JR1.out.c0
      have k1 := JR1.out.c1
      have cf0 := JR1.out.fr 0
      have cf1 := JR1.out.fr 1
      obtain ⟨r0, r1, _, _⟩ := id R9
      unfold two at hW9
      clear R9
      go_wp2_with fail
      exact bodyPost_ret (v := .tuple #[.agg #[.string ⟨#[]⟩, .string ⟨#[]⟩], .int .i64 8]) (by simp [results, Tryz.results21, go_sem, r0, r1]) rfl PP.out
  · have hne : (kd == 2) = false := by rw [beq_eq_false_iff_ne]; exact hk
    have hne2 : (kd != 2) = true := by simp [hk]
    have RS : Hid (exS kd n s.data.toList k = (⟨#[]⟩, ⟨#[]⟩, 8)) := by unfold Hid exS; rw [if_neg (fun q => hk q.1)]
    obtain ⟨W0, hW0⟩ : ∃ W0, (w.alloc (.cells #[.int .i64 kd, .int .i64 n, .string s, .slice a k c] 35)).alloc (.cells #[.string ⟨#[]⟩, .string ⟨#[]⟩] 23) = W0 := ⟨_, rfl⟩
    have s1 : (w.alloc (.cells #[.int .i64 kd, .int .i64 n, .string s, .slice a k c] 35)).heap.size = w.heap.size + 1 := by simp
    have X0 : Hid (Bv W0 w.heap.size kd n s a k c) := by rw [← hW0]; exact (Bv.made w _ _ _ _ _ _ _).keep (bel_one _ _)
    have JR0 : Hid (B2 W0 (w.heap.size + 1) (.string ⟨#[]⟩) (.string ⟨#[]⟩)) := by rw [← hW0, ← s1]; exact B2.made _ _ _ _
    have JB0 : Hid (Below w.heap.size w W0) := by rw [← hW0]; exact ((Below.refl _ _).alloc (Nat.le_refl _) _).alloc (by simp) _
    have x0 := X0.out.c0
    have x1 := X0.out.c1
    have x2 := X0.out.c2
    have x3 := X0.out.c3
    clear s1
    go_enter Tryz.func21, Tryz.ntmps21
    obtain ⟨W9, hW9⟩ : ∃ W9, two W0 (w.heap.size + 1) (.string ⟨#[]⟩) (.string ⟨#[]⟩) = W9 := ⟨_, rfl⟩
    have R9 : B2 W9 (w.heap.size + 1) (.string ⟨#[]⟩) (.string ⟨#[]⟩) := by rw [← hW9]; exact JR0.out.set _ _
    have PP : Hid (OpPost (exS kd n s.data.toList k) w (.returned (.tuple #[.agg #[.string ⟨#[]⟩, .string ⟨#[]⟩], .int .i64 8])) W9) := by
      rw [← hW9]
      exact ⟨by rw [RS.out], below_two JB0.out (by omega) _ _⟩
    have k0 := JR0.out.c0
    have k1 := JR0.out.c1
    have cf0 := JR0.out.fr 0
    have cf1 := JR0.out.fr 1
    obtain ⟨r0, r1, _, _⟩ := id R9
    unfold two at hW9
    clear R9
    go_wp2_with fail
    exact bodyPost_ret (v := .tuple #[.agg #[.string ⟨#[]⟩, .string ⟨#[]⟩], .int .i64 8]) (by simp [results, Tryz.results21, go_sem, r0, r1]) rfl PP.out
set_option maxRecDepth 100000 in
set_option maxHeartbeats 4000000 in
theorem rExact_c (kd n : Int) (s : ByteArray) (a : Option Addr) (k c : Nat) (w : World) (hE : Pow w) :
    Calls Tryz.prog 22 #[.agg #[.int .i64 kd, .int .i64 n, .string s, .slice a k c]] w (OpPost (exS kd n s.data.toList k) w) := by
  have HE := Lib.hid (fun W (h : Below w.heap.size w W) => hE.below h)
  clear hE
  by_cases hk : kd = 2
  · subst hk
    obtain ⟨W0, hW0⟩ : ∃ W0, (w.alloc (.cells #[.int .i64 2, .int .i64 n, .string s, .slice a k c] 35)).alloc (.cells #[.string ⟨#[]⟩, .string ⟨#[]⟩] 23) = W0 := ⟨_, rfl⟩
    have s1 : (w.alloc (.cells #[.int .i64 2, .int .i64 n, .string s, .slice a k c] 35)).heap.size = w.heap.size + 1 := by simp
    have X0 : Hid (Bv W0 w.heap.size 2 n s a k c) := by rw [← hW0]; exact (Bv.made w _ _ _ _ _ _ _).keep (bel_one _ _)
    have JR0 : Hid (B2 W0 (w.heap.size + 1) (.string ⟨#[]⟩) (.string ⟨#[]⟩)) := by rw [← hW0, ← s1]; exact B2.made _ _ _ _
    have JB0 : Hid (Below w.heap.size w W0) := by rw [← hW0]; exact ((Below.refl _ _).alloc (Nat.le_refl _) _).alloc (by simp) _
    have x0 := X0.out.c0
    have x1 := X0.out.c1
    have x2 := X0.out.c2
    have x3 := X0.out.c3
    clear s1
    have HC := Lib.hid (fun W => rCheck_n n s a k c W)
    have HEX : Hid (exS 2 n s.data.toList k = if chk2 n s.data.toList k = 0 then roS n 10000 else (⟨#[]⟩, ⟨#[]⟩, 8)) := by
      unfold Hid exS
      by_cases h : chk2 n s.data.toList k = 0
      · rw [if_pos ⟨rfl, h⟩, if_pos h]
      · rw [if_neg (fun q => h q.2), if_neg h]
    have HOK : Hid (chk2 n s.data.toList k = 0 → -999999999999999 ≤ n ∧ n ≤ 999999999999999) := chk2_ok
    obtain ⟨q, hq⟩ : ∃ q, chk2 n s.data.toList k = q := ⟨_, rfl⟩
    rw [hq] at HC HEX HOK
    clear hq
    by_cases hz : q = 0
    · subst hz
      obtain ⟨g0, g1⟩ := HOK.out rfl
      have h0 : -9223372036854775808 ≤ n := by omega
      have h1 : n ≤ 9223372036854775807 := by omega
      have HRO := fun W (h : Below w.heap.size w W) => rRatioOf_c n 10000 W h0 h1 (by decide) (by decide) (HE.out _ h)
      unfold OpPost at HRO
      have RS : Hid (exS 2 n s.data.toList k = roS n 10000) := by unfold Hid; rw [HEX.out, if_pos rfl]
      obtain ⟨rr, hrr⟩ : ∃ rr, roS n 10000 = rr := ⟨_, rfl⟩
      rw [hrr] at HRO
      have RS2 : Hid (exS 2 n s.data.toList k = rr) := by unfold Hid; rw [RS.out, hrr]
      have HR := Lib.hid HRO
      clear HRO hrr RS HEX HOK g0 g1 h0 h1
      go_enter Tryz.func22, Tryz.ntmps22
      go_wp2_with fail
      clear hW0
      (with_reducible refine (HC.out _).mono ?_)
      rintro e w1 ⟨rfl, b1⟩
      have JR1 := Lib.hid (JR0.out.keep b1)
      have JB1 := Lib.hid (JB0.out.trans (b1.mono JB0.out.size))
      have X1 := X0.out.keep b1
      clear x0 x1 x2 x3
      have x1 := X1.c1
      clear b1 X1 X0 JR0 JB0 HC
      go_wp2_with fail
      clear x1
      (with_reducible refine (HR.out _ JB1.out).mono ?_)
      rintro e w2 ⟨rfl, b2⟩
      have JR2 := Lib.hid (JR1.out.keep b2)
      have JB2 := Lib.hid (JB1.out.trans (b2.mono JB1.out.size))
      clear b2 JR1 JB1 HR
      obtain ⟨W9, hW9⟩ : ∃ W9, two w2 (w.heap.size + 1) (.string rr.1) (.string rr.2.1) = W9 := ⟨_, rfl⟩
      have R9 : B2 W9 (w.heap.size + 1) (.string rr.1) (.string rr.2.1) := by rw [← hW9]; exact JR2.out.set _ _
      have PP : Hid (OpPost (exS 2 n s.data.toList k) w (.returned (.tuple #[.agg #[.string rr.1, .string rr.2.1], .int .i64 rr.2.2])) W9) := by
        rw [← hW9]
        exact ⟨by rw [RS2.out], below_two JB2.out (by omega) _ _⟩
      have k0 := JR2.out.c0
      have k1 := JR2.out.c1
      have cf0 := JR2.out.fr 0
      have cf1 := JR2.out.fr 1
      obtain ⟨r0, r1, _, _⟩ := id R9
      unfold two at hW9
      clear R9
      go_wp2_with fail
      exact bodyPost_ret (v := .tuple #[.agg #[.string rr.1, .string rr.2.1], .int .i64 rr.2.2]) (by simp [results, Tryz.results22, go_sem, r0, r1]) rfl PP.out
    · have hne : (q == 0) = false := by rw [beq_eq_false_iff_ne]; exact hz
      have hne2 : (q != 0) = true := by simp [hz]
      have RS : Hid (exS 2 n s.data.toList k = (⟨#[]⟩, ⟨#[]⟩, 8)) := by unfold Hid; rw [HEX.out, if_neg hz]
      clear HEX HOK
      go_enter Tryz.func22, Tryz.ntmps22
      go_wp2_with fail
      clear hW0 x0 x1 x2 x3
      (with_reducible refine (HC.out _).mono ?_)
      rintro e w1 ⟨rfl, b1⟩
      have JR1 := Lib.hid (JR0.out.keep b1)
      have JB1 := Lib.hid (JB0.out.trans (b1.mono JB0.out.size))
      clear b1 X0 JR0 JB0 HC
      obtain ⟨W9, hW9⟩ : ∃ W9, two w1 (w.heap.size + 1) (.string ⟨#[]⟩) (.string ⟨#[]⟩) = W9 := ⟨_, rfl⟩
      have R9 : B2 W9 (w.heap.size + 1) (.string ⟨#[]⟩) (.string ⟨#[]⟩) := by rw [← hW9]; exact JR1.out.set _ _
      have PP : Hid (OpPost (exS 2 n s.data.toList k) w (.returned (.tuple #[.agg #[.string ⟨#[]⟩, .string ⟨#[]⟩], .int .i64 8])) W9) := by
        rw [← hW9]
        exact ⟨by rw [RS.out], below_two JB1.out (by omega) _ _⟩
      have k0 := JR1.out.c0
      have k1 := JR1.out.c1
      have cf0 := JR1.out.fr 0
      have cf1 := JR1.out.fr 1
      obtain ⟨r0, r1, _, _⟩ := id R9
      unfold two at hW9
      clear R9
      go_wp2_with fail
      exact bodyPost_ret (v := .tuple #[.agg #[.string ⟨#[]⟩, .string ⟨#[]⟩], .int .i64 8]) (by simp [results, Tryz.results22, go_sem, r0, r1]) rfl PP.out
  · have hne : (kd == 2) = false := by rw [beq_eq_false_iff_ne]; exact hk
    have hne2 : (kd != 2) = true := by simp [hk]
    have RS : Hid (exS kd n s.data.toList k = (⟨#[]⟩, ⟨#[]⟩, 8)) := by unfold Hid exS; rw [if_neg (fun q => hk q.1)]
    obtain ⟨W0, hW0⟩ : ∃ W0, (w.alloc (.cells #[.int .i64 kd, .int .i64 n, .string s, .slice a k c] 35)).alloc (.cells #[.string ⟨#[]⟩, .string ⟨#[]⟩] 23) = W0 := ⟨_, rfl⟩
    have s1 : (w.alloc (.cells #[.int .i64 kd, .int .i64 n, .string s, .slice a k c] 35)).heap.size = w.heap.size + 1 := by simp
    have X0 : Hid (Bv W0 w.heap.size kd n s a k c) := by rw [← hW0]; exact (Bv.made w _ _ _ _ _ _ _).keep (bel_one _ _)
    have JR0 : Hid (B2 W0 (w.heap.size + 1) (.string ⟨#[]⟩) (.string ⟨#[]⟩)) := by rw [← hW0, ← s1]; exact B2.made _ _ _ _
    have JB0 : Hid (Below w.heap.size w W0) := by rw [← hW0]; exact ((Below.refl _ _).alloc (Nat.le_refl _) _).alloc (by simp) _
    have x0 := X0.out.c0
    have x1 := X0.out.c1
    have x2 := X0.out.c2
    have x3 := X0.out.c3
    clear s1
    go_enter Tryz.func22, Tryz.ntmps22
    obtain ⟨W9, hW9⟩ : ∃ W9, two W0 (w.heap.size + 1) (.string ⟨#[]⟩) (.string ⟨#[]⟩) = W9 := ⟨_, rfl⟩
    have R9 : B2 W9 (w.heap.size + 1) (.string ⟨#[]⟩) (.string ⟨#[]⟩) := by rw [← hW9]; exact JR0.out.set _ _
    have PP : Hid (OpPost (exS kd n s.data.toList k) w (.returned (.tuple #[.agg #[.string ⟨#[]⟩, .string ⟨#[]⟩], .int .i64 8])) W9) := by
      rw [← hW9]
      exact ⟨by rw [RS.out], below_two JB0.out (by omega) _ _⟩
    have k0 := JR0.out.c0
    have k1 := JR0.out.c1
    have cf0 := JR0.out.fr 0
    have cf1 := JR0.out.fr 1
    obtain ⟨r0, r1, _, _⟩ := id R9
    unfold two at hW9
    clear R9
    go_wp2_with fail
    exact bodyPost_ret (v := .tuple #[.agg #[.string ⟨#[]⟩, .string ⟨#[]⟩], .int .i64 8]) (by simp [results, Tryz.results22, go_sem, r0, r1]) rfl PP.out
end Go.Proofs.YtfijhkaalpinhaaGreatDoor
namespace Go.Proofs.YtfijhkaalpinhaaGreatDoor
open Go.RowKit

abbrev Rp := ByteArray × ByteArray
abbrev pv (a : Rp) : Value := .agg #[.string a.1, .string a.2]
set_option maxRecDepth 100000 in
set_option maxHeartbeats 4000000 in
theorem law_rounding (r1 r2 : ByteArray) (p kd n : Int) (s : ByteArray) (a : Option Addr) (k c : Nat) (w : World) (hE : Pow w) :
    Calls Tryz.prog 4 #[.agg #[.string r1, .string r2], .int .i64 p, .agg #[.int .i64 kd, .int .i64 n, .string s, .slice a k c]] w fun e w' => e = .returned (.bool true) ∧ Below w.heap.size w w' := by
  obtain ⟨ro, hro⟩ : ∃ r, rnS r1.data.toList r2.data.toList p = r := ⟨_, rfl⟩
  obtain ⟨de, hde⟩ : ∃ r, dcS r1.data.toList r2.data.toList p = r := ⟨_, rfl⟩
  obtain ⟨ex, hex⟩ : ∃ r, exS kd n s.data.toList k = r := ⟨_, rfl⟩
  have K1 := fun W => Rounded_c r1 r2 p W
  have K2 := fun W (h : Below w.heap.size w W) => rRounded_c r1 r2 p W (hE.below h)
  have K3 := fun W => Decimal_c r1 r2 p W
  have K4 := fun W (h : Below w.heap.size w W) => rDecimal_c r1 r2 p W (hE.below h)
  have K5 := fun W => Exact_c kd n s a k c W
  have K6 := fun W (h : Below w.heap.size w W) => rExact_c kd n s a k c W (hE.below h)
  unfold OpPost at K1 K2 K5 K6
  rw [hro] at K1 K2
  rw [hde] at K3 K4
  rw [hex] at K5 K6
  clear hro hde hex hE
  obtain ⟨o1, o2, f1⟩ := ro
  obtain ⟨d0, f2⟩ := de
  obtain ⟨x1, x2, f3⟩ := ex
  have C1 : Hid (∀ W, Calls Tryz.prog 17 #[.agg #[.string r1, .string r2], .int .i64 p] W fun e w' => e = .returned (.tuple #[.agg #[.string o1, .string o2], .int .i64 f1]) ∧ Below W.heap.size W w') := K1
  have C2 : Hid (∀ W, Below w.heap.size w W → Calls Tryz.prog 18 #[.agg #[.string r1, .string r2], .int .i64 p] W fun e w' => e = .returned (.tuple #[.agg #[.string o1, .string o2], .int .i64 f1]) ∧ Below W.heap.size W w') := K2
  have C3 : Hid (∀ W, Calls Tryz.prog 19 #[.agg #[.string r1, .string r2], .int .i64 p] W fun e w' => e = .returned (.tuple #[.string d0, .int .i64 f2]) ∧ Below W.heap.size W w') := K3
  have C4 : Hid (∀ W, Below w.heap.size w W → Calls Tryz.prog 20 #[.agg #[.string r1, .string r2], .int .i64 p] W fun e w' => e = .returned (.tuple #[.string d0, .int .i64 f2]) ∧ Below W.heap.size W w') := K4
  have C5 : Hid (∀ W, Calls Tryz.prog 21 #[.agg #[.int .i64 kd, .int .i64 n, .string s, .slice a k c]] W fun e w' => e = .returned (.tuple #[.agg #[.string x1, .string x2], .int .i64 f3]) ∧ Below W.heap.size W w') := K5
  have C6 : Hid (∀ W, Below w.heap.size w W → Calls Tryz.prog 22 #[.agg #[.int .i64 kd, .int .i64 n, .string s, .slice a k c]] W fun e w' => e = .returned (.tuple #[.agg #[.string x1, .string x2], .int .i64 f3]) ∧ Below W.heap.size W w') := K6
  clear K1 K2 K3 K4 K5 K6
  obtain ⟨W0, hW0⟩ : ∃ W, (w.alloc (.cells #[.string r1, .string r2] 23)).alloc (.cells #[.int .i64 kd, .int .i64 n, .string s, .slice a k c] 35) = W := ⟨_, rfl⟩
  have s1 : (w.alloc (.cells #[.string r1, .string r2] 23)).heap.size = w.heap.size + 1 := by simp
  have XA_0 : Hid (B2 W0 w.heap.size (.string r1) (.string r2)) := by rw [← hW0]; exact (B2.made w _ _ _).keep (bel_one _ _)
  have XV_0 : Hid (Bv W0 (w.heap.size + 1) kd n s a k c) := by rw [← hW0, ← s1]; exact Bv.made _ _ _ _ _ _ _ _
  have KB_0 : Hid (Below w.heap.size w W0) := by rw [← hW0]; exact ((Below.refl _ _).alloc (Nat.le_refl _) _).alloc (by simp) _
  clear s1
  have la0 := XA_0.out.c0
  have la1 := XA_0.out.c1
  go_enter Tryz.func4, Tryz.ntmps4
  go_wp2_with fail
  clear hW0 la0 la1
  (with_reducible refine (C1.out _).mono ?_)
  rintro e w1 ⟨rfl, b1⟩
  obtain ⟨WA1, hWA⟩ : ∃ W, w1.alloc (.cells #[.string ⟨#[]⟩, .string ⟨#[]⟩] 23) = W := ⟨_, rfl⟩
  have D1 : B2 WA1 w1.heap.size (.string ⟨#[]⟩) (.string ⟨#[]⟩) := by rw [← hWA]; exact B2.made _ _ _ _
  obtain ⟨WB1, hWB⟩ : ∃ W, two WA1 w1.heap.size (.string o1) (.string o2) = W := ⟨_, rfl⟩
  have hb : Below w1.heap.size w1 WB1 := by rw [← hWB]; exact below_two (by rw [← hWA]; exact bel_one _ _) (Nat.le_refl _) _ _
  have hc := b1.trans (hb.mono b1.size)
  have XA_1 := Lib.hid (XA_0.out.keep hc)
  have XV_1 := Lib.hid (XV_0.out.keep hc)
  have KB_1 := Lib.hid (KB_0.out.trans (hc.mono KB_0.out.size))
  clear XA_0 XV_0 KB_0
  have X7_1 : Hid (B2 WB1 w1.heap.size (.string o1) (.string o2)) := by rw [← hWB]; exact D1.set _ _
  have a0 := D1.c0
  have a1' := D1.c1
  have af0 := D1.fr 0
  have af1 := D1.fr 1
  unfold two at hWB
  clear D1 hb hc b1
  have la0 := XA_1.out.c0
  have la1 := XA_1.out.c1
  go_wp2_with fail
  clear hWA hWB a0 a1' af0 af1 la0 la1
  generalize w1.heap.size = g7 at *
  (with_reducible refine (C2.out _ KB_1.out).mono ?_)
  rintro e w2 ⟨rfl, b2⟩
  obtain ⟨WA2, hWA⟩ : ∃ W, w2.alloc (.cells #[.string ⟨#[]⟩, .string ⟨#[]⟩] 23) = W := ⟨_, rfl⟩
  have D1 : B2 WA2 w2.heap.size (.string ⟨#[]⟩) (.string ⟨#[]⟩) := by rw [← hWA]; exact B2.made _ _ _ _
  obtain ⟨WB2, hWB⟩ : ∃ W, two WA2 w2.heap.size (.string o1) (.string o2) = W := ⟨_, rfl⟩
  have hb : Below w2.heap.size w2 WB2 := by rw [← hWB]; exact below_two (by rw [← hWA]; exact bel_one _ _) (Nat.le_refl _) _ _
  have hc := b2.trans (hb.mono b2.size)
  have XA_2 := Lib.hid (XA_1.out.keep hc)
  have XV_2 := Lib.hid (XV_1.out.keep hc)
  have X7_2 := Lib.hid (X7_1.out.keep hc)
  have KB_2 := Lib.hid (KB_1.out.trans (hc.mono KB_1.out.size))
  clear XA_1 XV_1 X7_1 KB_1
  have X9_2 : Hid (B2 WB2 w2.heap.size (.string o1) (.string o2)) := by rw [← hWB]; exact D1.set _ _
  have a0 := D1.c0
  have a1' := D1.c1
  have af0 := D1.fr 0
  have af1 := D1.fr 1
  unfold two at hWB
  clear D1 hb hc b2
  have la0 := XA_2.out.c0
  have la1 := XA_2.out.c1
  go_wp2_with fail
  clear hWA hWB a0 a1' af0 af1 la0 la1
  generalize w2.heap.size = g9 at *
  (with_reducible refine (C3.out _).mono ?_)
  rintro e w3 ⟨rfl, b3⟩
  have XA_3 := Lib.hid (XA_2.out.keep b3)
  have XV_3 := Lib.hid (XV_2.out.keep b3)
  have X7_3 := Lib.hid (X7_2.out.keep b3)
  have X9_3 := Lib.hid (X9_2.out.keep b3)
  have KB_3 := Lib.hid (KB_2.out.trans (b3.mono KB_2.out.size))
  clear XA_2 XV_2 X7_2 X9_2 KB_2
  clear b3
  have la0 := XA_3.out.c0
  have la1 := XA_3.out.c1
  go_wp2_with fail
  clear la0 la1
  (with_reducible refine (C4.out _ KB_3.out).mono ?_)
  rintro e w4 ⟨rfl, b4⟩
  have XA_4 := Lib.hid (XA_3.out.keep b4)
  have XV_4 := Lib.hid (XV_3.out.keep b4)
  have X7_4 := Lib.hid (X7_3.out.keep b4)
  have X9_4 := Lib.hid (X9_3.out.keep b4)
  have KB_4 := Lib.hid (KB_3.out.trans (b4.mono KB_3.out.size))
  clear XA_3 XV_3 X7_3 X9_3 KB_3
  clear b4
  have lv0 := XV_4.out.c0
  have lv1 := XV_4.out.c1
  have lv2 := XV_4.out.c2
  have lv3 := XV_4.out.c3
  go_wp2_with fail
  clear lv0 lv1 lv2 lv3
  (with_reducible refine (C5.out _).mono ?_)
  rintro e w5 ⟨rfl, b5⟩
  obtain ⟨WA5, hWA⟩ : ∃ W, w5.alloc (.cells #[.string ⟨#[]⟩, .string ⟨#[]⟩] 23) = W := ⟨_, rfl⟩
  have D1 : B2 WA5 w5.heap.size (.string ⟨#[]⟩) (.string ⟨#[]⟩) := by rw [← hWA]; exact B2.made _ _ _ _
  obtain ⟨WB5, hWB⟩ : ∃ W, two WA5 w5.heap.size (.string x1) (.string x2) = W := ⟨_, rfl⟩
  have hb : Below w5.heap.size w5 WB5 := by rw [← hWB]; exact below_two (by rw [← hWA]; exact bel_one _ _) (Nat.le_refl _) _ _
  have hc := b5.trans (hb.mono b5.size)
  have XA_5 := Lib.hid (XA_4.out.keep hc)
  have XV_5 := Lib.hid (XV_4.out.keep hc)
  have X7_5 := Lib.hid (X7_4.out.keep hc)
  have X9_5 := Lib.hid (X9_4.out.keep hc)
  have KB_5 := Lib.hid (KB_4.out.trans (hc.mono KB_4.out.size))
  clear XA_4 XV_4 X7_4 X9_4 KB_4
  have X15_5 : Hid (B2 WB5 w5.heap.size (.string x1) (.string x2)) := by rw [← hWB]; exact D1.set _ _
  have a0 := D1.c0
  have a1' := D1.c1
  have af0 := D1.fr 0
  have af1 := D1.fr 1
  unfold two at hWB
  clear D1 hb hc b5
  have lv0 := XV_5.out.c0
  have lv1 := XV_5.out.c1
  have lv2 := XV_5.out.c2
  have lv3 := XV_5.out.c3
  go_wp2_with fail
  clear hWA hWB a0 a1' af0 af1 lv0 lv1 lv2 lv3
  generalize w5.heap.size = g15 at *
  (with_reducible refine (C6.out _ KB_5.out).mono ?_)
  rintro e w6 ⟨rfl, b6⟩
  obtain ⟨WA6, hWA⟩ : ∃ W, w6.alloc (.cells #[.string ⟨#[]⟩, .string ⟨#[]⟩] 23) = W := ⟨_, rfl⟩
  have D1 : B2 WA6 w6.heap.size (.string ⟨#[]⟩) (.string ⟨#[]⟩) := by rw [← hWA]; exact B2.made _ _ _ _
  obtain ⟨WB6, hWB⟩ : ∃ W, two WA6 w6.heap.size (.string x1) (.string x2) = W := ⟨_, rfl⟩
  have hb : Below w6.heap.size w6 WB6 := by rw [← hWB]; exact below_two (by rw [← hWA]; exact bel_one _ _) (Nat.le_refl _) _ _
  have hc := b6.trans (hb.mono b6.size)
  have XA_6 := Lib.hid (XA_5.out.keep hc)
  have XV_6 := Lib.hid (XV_5.out.keep hc)
  have X7_6 := Lib.hid (X7_5.out.keep hc)
  have X9_6 := Lib.hid (X9_5.out.keep hc)
  have X15_6 := Lib.hid (X15_5.out.keep hc)
  have KB_6 := Lib.hid (KB_5.out.trans (hc.mono KB_5.out.size))
  clear XA_5 XV_5 X7_5 X9_5 X15_5 KB_5
  have X17_6 : Hid (B2 WB6 w6.heap.size (.string x1) (.string x2)) := by rw [← hWB]; exact D1.set _ _
  have a0 := D1.c0
  have a1' := D1.c1
  have af0 := D1.fr 0
  have af1 := D1.fr 1
  unfold two at hWB
  clear D1 hb hc b6
  have lq70 := X7_6.out.c0
  have lq71 := X7_6.out.c1
  have lq90 := X9_6.out.c0
  have lq91 := X9_6.out.c1
  have lq150 := X15_6.out.c0
  have lq151 := X15_6.out.c1
  have lq170 := X17_6.out.c0
  have lq171 := X17_6.out.c1
  go_wp2_with fail
  go_ret
  exact ⟨rfl, KB_6.out⟩
end Go.Proofs.YtfijhkaalpinhaaGreatDoor
