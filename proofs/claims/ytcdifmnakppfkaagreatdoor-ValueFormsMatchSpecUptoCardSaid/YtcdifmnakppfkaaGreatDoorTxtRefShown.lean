/-
  Show of the reference, for values of any parts.
-/
import Derived.Test.YtcdifmnakppfkaaGreatDoorTxtRefShow
namespace Go.Proofs.YtcdifmnakppfkaaGreatDoor
open Go.RowKit

theorem show_ret {k n : Int} {s : ByteArray} {l : List Int} {w w' : World} {t : ByteArray} (hc : cChk k n s l = 0) (ht : t = bs (showT k n s l)) (hb : Below w.heap.size w w') : ShowPost k n s l w (.returned (.tuple #[.string t, .int .i64 0])) w' :=
  ⟨t, by rw [hc], by rw [ht, bs_size]; have := showT_len (good_of hc); omega, fun _ => ht, fun h => absurd hc h, hb⟩

set_option maxRecDepth 100000 in
set_option maxHeartbeats 8000000 in
theorem RShow_c (k n : Int) (s : ByteArray) (v : Value) (l : List Int) (w : World) (hv : IsL w v l) (hE : Env w) (hz : s.size ≤ 9223372036854775807) :
    Calls Tryz.prog 22 #[.agg #[.int .i64 k, .int .i64 n, .string s, v]] w (ShowPost k n s l w) := by
  have hC := Lib.hid (fun w (hv : IsL w v l) => refCheck_c k n s v l w hv hz)
  have HE := Lib.hid hE; clear hE
  have HV := Lib.hid hv
  obtain ⟨a, len, c, rfl⟩ := hv.form
  clear hv
  by_cases h0 : cChk k n s l = 0
  · have HC0 := Lib.hid h0
    have hg := good_of h0
    rw [h0] at hC
    clear h0
    cases hg with
    | none =>
      go_enter Tryz.func22, Tryz.ntmps22
      go_wp2_with fail
      refine (hC.out _ (HV.out.alloc _)).mono ?_
      rintro e w1 ⟨rfl, hb⟩
      have HB := Lib.hid hb
      obtain ⟨bc, bf⟩ := bcell hb
      have HE1 := Lib.hid ((HE.out.alloc _).below hb)
      have B1 := Lib.hid ((box_bel _ _).trans (hb.mono (by simp)))
      clear hb
      go_wp2
      go_ret2
      exact show_ret HC0.out (by simp [showT]; rfl) B1.out
    | special n h1 h2 =>
      clear h1 h2
      go_enter Tryz.func22, Tryz.ntmps22
      go_wp2_with fail
      refine (hC.out _ (HV.out.alloc _)).mono ?_
      rintro e w1 ⟨rfl, hb⟩
      have HB := Lib.hid hb
      obtain ⟨bc, bf⟩ := bcell hb
      have HE1 := Lib.hid ((HE.out.alloc _).below hb)
      have B1 := Lib.hid ((box_bel _ _).trans (hb.mono (by simp)))
      clear hb
      go_wp2_with fail
      refine (reason_c n _).mono ?_
      rintro e w2 ⟨rfl, rfl⟩
      clear bc bf
      go_wp2
      go_ret2
      exact show_ret HC0.out (by simp [showT]) B1.out
    | number n h1 h2 =>
      go_enter Tryz.func22, Tryz.ntmps22
      go_wp2_with fail
      refine (hC.out _ (HV.out.alloc _)).mono ?_
      rintro e w1 ⟨rfl, hb⟩
      have HB := Lib.hid hb
      obtain ⟨bc, bf⟩ := bcell hb
      have HE1 := Lib.hid ((HE.out.alloc _).below hb)
      have B1 := Lib.hid ((box_bel _ _).trans (hb.mono (by simp)))
      clear hb
      go_wp2_with fail
      refine (decimal_c n _ HE1.out h1 h2).mono ?_
      rintro e w2 ⟨t, rfl, hs, ht, HB2⟩
      clear bc bf
      go_wp2
      go_ret2
      exact show_ret HC0.out (by rw [ht.out]; simp [showT]) (B1.out.trans (HB2.out.mono B1.out.size))
    | text s h hb =>
      clear hb
      have hR := Lib.hid (fun w (hE : Env w) => replaceAll_c s ⟨#[39]⟩ ⟨#[39, 39]⟩ w hE (by omega) (by decide) (by decide) (by
        show (Lib.replaceAll s.data.toList [39] [39, 39]).length ≤ _
        rw [Txt.dbl_eq]
        have := Txt.dbl_len s.data.toList
        rw [← Lib.size_eq] at this; omega))
      go_enter Tryz.func22, Tryz.ntmps22
      go_wp2_with fail
      refine (hC.out _ (HV.out.alloc _)).mono ?_
      rintro e w1 ⟨rfl, hb⟩
      have HB := Lib.hid hb
      obtain ⟨bc, bf⟩ := bcell hb
      have HE1 := Lib.hid ((HE.out.alloc _).below hb)
      have B1 := Lib.hid ((box_bel _ _).trans (hb.mono (by simp)))
      clear hb
      go_wp2_with fail
      refine (hR.out _ HE1.out).mono ?_
      rintro e w2 ⟨t, rfl, hs, ht, HB2⟩
      have ht' : Hid (t = bs (Txt.dbl s.data.toList)) := by unfold Hid; rw [← Txt.dbl_eq]; exact ht.out
      clear bc bf
      go_wp2
      go_ret2
      refine show_ret HC0.out ?_ (B1.out.trans (HB2.out.mono B1.out.size))
      show bs [39] ++ t ++ bs [39] = _
      rw [ht'.out, bs_app, bs_app]
      simp [showT]
    | choice n h1 h2 =>
      go_enter Tryz.func22, Tryz.ntmps22
      go_wp2_with fail
      refine (hC.out _ (HV.out.alloc _)).mono ?_
      rintro e w1 ⟨rfl, hb⟩
      have HB := Lib.hid hb
      obtain ⟨bc, bf⟩ := bcell hb
      have HE1 := Lib.hid ((HE.out.alloc _).below hb)
      have B1 := Lib.hid ((box_bel _ _).trans (hb.mono (by simp)))
      clear hb
      go_wp2_with fail
      refine (itoa_c _ _ HE1.out (by omega) (by omega)).mono ?_
      rintro e w2 ⟨t, rfl, hs, ht, HB2⟩
      clear bc bf
      go_wp2
      go_ret2
      refine show_ret HC0.out ?_ (B1.out.trans (HB2.out.mono B1.out.size))
      show bs [35] ++ t = _
      rw [ht.out, bs_app]
      simp [showT, Txt.codeT]
    | choices l h hx =>
      have HX := Lib.hid hx; clear hx
      have hP := Lib.hid (preT_len l HX.out)
      have HL := Lib.hid h
      go_enter Tryz.func22, Tryz.ntmps22
      go_wp2_with fail
      refine (hC.out _ (HV.out.alloc _)).mono ?_
      rintro e w1 ⟨rfl, hb⟩
      have HB := Lib.hid hb
      obtain ⟨bc, bf⟩ := bcell hb
      have HE1 := Lib.hid ((HE.out.alloc _).below hb)
      have B1 := Lib.hid ((box_bel _ _).trans (hb.mono (by simp)))
      clear hb
      have HV1 := Lib.hid ((HV.out.alloc (.cells #[.int .i64 5, .int .i64 0, .string ⟨#[]⟩, .slice a len c] 24)).below HB.out)
      go_wp2_with fail
      clear bc bf
      rcases HV1.out with ⟨a', c', e1, rfl⟩ | ⟨b, off, cap, e1, g2, g3, g4, g5⟩
      · obtain ⟨rfl, rfl, rfl⟩ : a = a' ∧ len = 0 ∧ c = c' := by simpa using e1
        clear e1
        go_loop [5, 6, 7, 47] (fun sv _ _ i => sv = .string ⟨#[123]⟩ ∧ i = .int .i64 0) (fun _ _ _ _ => 0)
        case atStart => exact ⟨rfl, rfl⟩
        case round =>
          obtain ⟨rfl, rfl⟩ := hrel
          go_wp2
          go_ret2
          exact show_ret HC0.out (by simp [showT, Txt.setT, Lib.join_nil]; rfl) B1.out
      · have G5 := Lib.hid g5; clear g5
        obtain ⟨rfl, rfl, rfl⟩ : a = some ⟨b, off, none⟩ ∧ len = l.length ∧ c = cap := by simpa using e1
        clear e1
        have G4 := Lib.hid g4; clear g4
        go_loopw [5, 6, 7, 47] (fun sv _ _ i wr => ∃ k : Nat, k ≤ l.length ∧ i = .int .i64 k ∧ ∃ t : ByteArray, sv = .string t ∧ t.size ≤ 1000 ∧ Hid (t = bs (preT l k)) ∧ Hid (Below w1.heap.size w1 wr)) (fun _ _ _ i _ => l.length - (intOf i).toNat)
        case atStart => exact ⟨0, Nat.zero_le _, rfl, ⟨#[123]⟩, rfl, by simp [ByteArray.size], rfl, Below.refl _ _⟩
        case round =>
          obtain ⟨k, hk, rfl, t, rfl, hts, ht, hR⟩ := hrel
          by_cases hlt : k < l.length
          · have c1 : wr.cell? ⟨b, off + k, none⟩ = some (.int .i64 (l.getD k 0)) := by rw [hR.out.cell (p := ⟨b, off + k, none⟩) G4.out]; exact G5.out k hlt
            have hlt' : (k : Int) < (l.length : Int) := by omega
            obtain ⟨x1, x2⟩ := HX.out k hlt
            obtain ⟨x, hxx⟩ : ∃ x, x = l.getD k 0 := ⟨_, rfl⟩
            rw [← hxx] at c1 x1 x2
            have HXX := Lib.hid hxx; clear hxx
            have hlen := hP.out (k + 1) (by omega)
            have HLL := Lib.hid hlen; clear hlen
            by_cases hk0 : k = 0
            · have hkn : decide ((0 : Int) < (k : Int)) = false := by simp; omega
              have hkn2 : decide (0 < k) = false := by simp; omega
              have HK := Lib.hid hk0; clear hk0
              have hI := Lib.hid (itoa_c x wr (HE1.out.below hR.out) (by omega) (by omega))
              have i1 := Lib.itoa_length_le x (by omega) (by omega)
              go_wp2_with fail
              refine hI.out.mono ?_
              rintro e w3 ⟨u, rfl, hs, hu, HB3⟩
              have us : u.size ≤ 21 := by rw [hu.out, bs_size]; exact i1
              go_wp2
              go_roundw
              case rel =>
                have hq : (t ++ (bs [35] ++ u)) = bs (preT l (k + 1)) := by
                  have := HK.out
                  rw [ht.out, hu.out, bs_app, bs_app, HXX.out]; simp [preT, Txt.codeT, show ¬ 0 < k by omega]
                refine ⟨k + 1, by omega, by go_num, _, rfl, ?_, ?_, hR.out.trans (HB3.out.mono hR.out.size)⟩
                · show (t ++ (bs [35] ++ u)).size ≤ _
                  rw [hq, bs_size]; have := HLL.out; omega
                · exact hq
              case measure => simp [intOf]; omega
            · have hkp : (0 : Int) < (k : Int) := by omega
              have hkp2 : 0 < k := by omega
              have hI := Lib.hid (itoa_c x wr (HE1.out.below hR.out) (by omega) (by omega))
              have i1 := Lib.itoa_length_le x (by omega) (by omega)
              have HK := Lib.hid hk0; clear hk0
              go_wp2_with fail
              refine hI.out.mono ?_
              rintro e w3 ⟨u, rfl, hs, hu, HB3⟩
              have us : u.size ≤ 21 := by rw [hu.out, bs_size]; exact i1
              go_wp2
              go_roundw
              case rel =>
                have hq : (t ++ bs [44] ++ (bs [35] ++ u)) = bs (preT l (k + 1)) := by
                  have := HK.out
                  rw [ht.out, hu.out, bs_app, bs_app, bs_app, HXX.out]; simp [preT, Txt.codeT, show 0 < k by omega]
                refine ⟨k + 1, by omega, by go_num, _, rfl, ?_, ?_, hR.out.trans (HB3.out.mono hR.out.size)⟩
                · show (t ++ bs [44] ++ (bs [35] ++ u)).size ≤ _
                  rw [hq, bs_size]; have := HLL.out; omega
                · exact hq
              case measure => simp [intOf]; omega
          · obtain rfl : k = l.length := by omega
            have B2 := Lib.hid (B1.out.trans (hR.out.mono B1.out.size)); clear hR
            go_wp2
            go_ret2
            refine show_ret HC0.out ?_ B2.out
            show t ++ bs [125] = _
            rw [ht.out, bs_app, preT_full]
            simp [showT]
    | day n h1 h2 =>
      obtain ⟨y, m, d, hd⟩ := has_date n h1 h2
      have hCi := Lib.hid (fun w => RCivil_at n w h1 h2 y m d hd)
      have hb := Cal.dim_bd (y : Int) (m : Int)
      have e0 : Hid (showT 6 n ⟨#[]⟩ [] = Txt.dayT y m d) := by unfold Hid showT; simp [dayOf_eq hd]
      obtain ⟨⟨v1, v2, v3, v4⟩, v5, v6, _⟩ := hd
      have hy := Lib.hid (fun w (hE : Env w) => digits_c y 4 w hE (by omega) (by omega) (Txt.nDigits_le (k := 3) (by omega)))
      have hm := Lib.hid (fun w (hE : Env w) => digits_c m 2 w hE (by omega) (by omega) (Txt.nDigits_le (k := 1) (by omega)))
      have hdd := Lib.hid (fun w (hE : Env w) => digits_c d 2 w hE (by omega) (by omega) (Txt.nDigits_le (k := 1) (by omega)))
      clear hb v1 v2 v3 v4 v5 v6
      go_enter Tryz.func22, Tryz.ntmps22
      go_wp2_with fail
      refine (hC.out _ (HV.out.alloc _)).mono ?_
      rintro e w1 ⟨rfl, hb⟩
      have HB := Lib.hid hb
      obtain ⟨bc, bf⟩ := bcell hb
      have HE1 := Lib.hid ((HE.out.alloc _).below hb)
      have B1 := Lib.hid ((box_bel _ _).trans (hb.mono (by simp)))
      clear hb
      go_wp2_with fail
      refine (hCi.out _).mono ?_
      rintro e w2 ⟨rfl, rfl⟩
      clear bc bf
      go_wp2_with fail
      refine (hy.out _ HE1.out).mono ?_
      rintro e w2 ⟨t1, rfl, hs1, ht1, HB2⟩
      go_wp2_with fail
      refine (hm.out _ (HE1.out.below HB2.out)).mono ?_
      rintro e w3 ⟨t2, rfl, hs2, ht2, HB'⟩
      have HB3 := Lib.hid (HB2.out.trans (HB'.out.mono HB2.out.size)); clear HB'
      go_wp2_with fail
      refine (hdd.out _ (HE1.out.below HB3.out)).mono ?_
      rintro e w4 ⟨t3, rfl, hs3, ht3, HB'⟩
      have HB4 := Lib.hid (HB3.out.trans (HB'.out.mono HB3.out.size)); clear HB'
      go_wp2
      go_ret2
      refine show_ret HC0.out ?_ (B1.out.trans (HB4.out.mono B1.out.size))
      show bs [64] ++ t1 ++ bs [45] ++ t2 ++ bs [45] ++ t3 = _
      rw [ht1.out, ht2.out, ht3.out, bs_app, bs_app, bs_app, bs_app, bs_app, e0.out]
      simp [Txt.dayT]
    | bool n h1 h2 =>
      have hn : n = 0 ∨ n = 1 := by omega
      clear h1 h2
      have hF : Hid (∀ b w, Calls Tryz.prog 42 #[.bool b] w fun e w' => e = .returned (.string (bs (boolT b))) ∧ w' = w) := fun b w => by
        have := Tryz.strconv_FormatBool b w
        rw [formatBool_eq] at this; exact this
      rcases hn with rfl | rfl
      · go_enter Tryz.func22, Tryz.ntmps22
        go_wp2_with fail
        refine (hC.out _ (HV.out.alloc _)).mono ?_
        rintro e w1 ⟨rfl, hb⟩
        have HB := Lib.hid hb
        obtain ⟨bc, bf⟩ := bcell hb
        have HE1 := Lib.hid ((HE.out.alloc _).below hb)
        have B1 := Lib.hid ((box_bel _ _).trans (hb.mono (by simp)))
        clear hb
        go_wp2_with fail
        refine (hF.out false _).mono ?_
        rintro e w2 ⟨rfl, rfl⟩
        clear bc bf
        go_wp2
        go_ret2
        exact show_ret HC0.out (by simp [showT]) B1.out
      · go_enter Tryz.func22, Tryz.ntmps22
        go_wp2_with fail
        refine (hC.out _ (HV.out.alloc _)).mono ?_
        rintro e w1 ⟨rfl, hb⟩
        have HB := Lib.hid hb
        obtain ⟨bc, bf⟩ := bcell hb
        have HE1 := Lib.hid ((HE.out.alloc _).below hb)
        have B1 := Lib.hid ((box_bel _ _).trans (hb.mono (by simp)))
        clear hb
        go_wp2_with fail
        refine (hF.out true _).mono ?_
        rintro e w2 ⟨rfl, rfl⟩
        clear bc bf
        go_wp2
        go_ret2
        exact show_ret HC0.out (by simp [showT]) B1.out
  · have HN := Lib.hid h0
    obtain ⟨c0, hc0⟩ : ∃ c, c = cChk k n s l := ⟨_, rfl⟩
    rw [← hc0] at hC h0
    have h1 : (c0 != 0) = true := by simp [h0]
    have HC0 := Lib.hid hc0
    clear hc0 h0
    go_enter Tryz.func22, Tryz.ntmps22
    go_wp2_with fail
    refine (hC.out _ (HV.out.alloc _)).mono ?_
    rintro e w1 ⟨rfl, hb⟩
    have HB := Lib.hid hb
    obtain ⟨bc, bf⟩ := bcell hb
    have HE1 := Lib.hid ((HE.out.alloc _).below hb)
    have B1 := Lib.hid ((box_bel _ _).trans (hb.mono (by simp)))
    clear hb
    clear bc bf
    go_wp2
    go_ret2
    exact ⟨⟨#[]⟩, by rw [← HC0.out]; rfl, by simp [ByteArray.size], fun h => absurd h HN.out, fun _ => rfl, B1.out⟩
end Go.Proofs.YtcdifmnakppfkaaGreatDoor
