/-
  What Read of the reference makes of a text.
-/
import Derived.Test.YtcohkmpjendhnaaGreatDoorTxtRefMeantA
import Derived.Test.YtcohkmpjendhnaaGreatDoorTxtMeant
import Derived.Test.YtcohkmpjendhnaaGreatDoorTxtRefShown
namespace Go.Proofs.YtcohkmpjendhnaaGreatDoor
open Go.RowKit

set_option maxRecDepth 100000 in
set_option maxHeartbeats 1000000 in
theorem rmeant_reason (i : Int) (w : World) (h1 : 1 ≤ i) (h2 : i ≤ 3) :
    Calls Tryz.prog 21 #[.string (bs (reasonT i))] w (MeantPost (bs (reasonT i)) w) := by
  have hM := Lib.hid (means_reason i h1 h2)
  have hi : i = 1 ∨ i = 2 ∨ i = 3 := by omega
  have hR := Lib.hid (fun n w => reason_c n w)
  clear h1 h2
  rcases hi with rfl | rfl | rfl
  · have e1 : ((bs (reasonT 1)).toList == (bs (reasonT 1)).toList) = true := by decide +kernel
    go_enter Tryz.func21, Tryz.ntmps21
    go_wp2
    go_loop [3] (fun i => i = .int .i64 1) (fun i => 1 - (intOf i).toNat)
    case atStart => rfl
    case round =>
      obtain rfl := hrel
      go_wp2_with fail
      refine (hR.out _ _).mono ?_
      rintro e w1 ⟨rfl, rfl⟩
      go_wp2
      refine bodyPost_ret (v := kn 1 1) (by simp [results, Tryz.results21, go_sem]) rfl ?_
      exact meant_kn rfl (by rw [bs_list]; exact hM.out) ((Below.refl _ _).alloc (Nat.le_refl _) _)
  · have e1 : ((bs (reasonT 2)).toList == (bs (reasonT 1)).toList) = false := by decide +kernel
    have e2 : ((bs (reasonT 2)).toList == (bs (reasonT 2)).toList) = true := by decide +kernel
    go_enter Tryz.func21, Tryz.ntmps21
    go_wp2
    go_loop [3] (fun i => i = .int .i64 1 ∨ i = .int .i64 2) (fun i => 2 - (intOf i).toNat)
    case atStart => exact .inl rfl
    case round =>
      rcases hrel with rfl | rfl
      · go_wp2_with fail
        refine (hR.out _ _).mono ?_
        rintro e w1 ⟨rfl, rfl⟩
        go_wp2
        go_round
        case rel => exact .inr rfl
        case measure => simp [intOf]
      · go_wp2_with fail
        refine (hR.out _ _).mono ?_
        rintro e w1 ⟨rfl, rfl⟩
        go_wp2
        refine bodyPost_ret (v := kn 1 2) (by simp [results, Tryz.results21, go_sem]) rfl ?_
        exact meant_kn rfl (by rw [bs_list]; exact hM.out) ((Below.refl _ _).alloc (Nat.le_refl _) _)
  · have e1 : ((bs (reasonT 3)).toList == (bs (reasonT 1)).toList) = false := by decide +kernel
    have e2 : ((bs (reasonT 3)).toList == (bs (reasonT 2)).toList) = false := by decide +kernel
    have e3 : ((bs (reasonT 3)).toList == (bs (reasonT 3)).toList) = true := by decide +kernel
    go_enter Tryz.func21, Tryz.ntmps21
    go_wp2
    go_loop [3] (fun i => i = .int .i64 1 ∨ i = .int .i64 2 ∨ i = .int .i64 3) (fun i => 3 - (intOf i).toNat)
    case atStart => exact .inl rfl
    case round =>
      rcases hrel with rfl | rfl | rfl
      · go_wp2_with fail
        refine (hR.out _ _).mono ?_
        rintro e w1 ⟨rfl, rfl⟩
        go_wp2
        go_round
        case rel => exact .inr (.inl rfl)
        case measure => simp [intOf]
      · go_wp2_with fail
        refine (hR.out _ _).mono ?_
        rintro e w1 ⟨rfl, rfl⟩
        go_wp2
        go_round
        case rel => exact .inr (.inr rfl)
        case measure => simp [intOf]
      · go_wp2_with fail
        refine (hR.out _ _).mono ?_
        rintro e w1 ⟨rfl, rfl⟩
        go_wp2
        refine bodyPost_ret (v := kn 1 3) (by simp [results, Tryz.results21, go_sem]) rfl ?_
        exact meant_kn rfl (by rw [bs_list]; exact hM.out) ((Below.refl _ _).alloc (Nat.le_refl _) _)

theorem beq_bs {t : ByteArray} {l : List UInt8} (h : t.data.toList ≠ l) : (t.toList == (bs l).toList) = false := by
  rw [Lib.toList_data, Lib.toList_data, bs_list]; simpa using h
theorem pref_head (l : List UInt8) (c : UInt8) : Lib.hasPrefix l [c] = (l.head? == some c) := by
  cases l with
  | nil => rfl
  | cons a r =>
    simp only [Lib.hasPrefix, List.isPrefixOf, List.head?_cons, Bool.and_true]
    by_cases h : c = a
    · subst h; simp
    · have h2 : ¬ a = c := fun e => h e.symm
      rw [beq_eq_false_iff_ne.2 h]; simp [h2]
theorem pre_c (t : ByteArray) (c : UInt8) (b : Bool) (h : (t.data.toList.head? == some c) = b) (w : World) :
    Calls Tryz.prog 44 #[.string t, .string ⟨#[c]⟩] w fun e w' => e = .returned (.bool b) ∧ w' = w := by
  have := hasPrefix_c t ⟨#[c]⟩ w
  have e : Lib.hasPrefix t.data.toList (⟨#[c]⟩ : ByteArray).data.toList = b := by rw [← h]; exact pref_head _ c
  rw [e] at this; exact this

set_option maxRecDepth 100000 in
set_option maxHeartbeats 8000000 in
theorem rmeant_flat (t : ByteArray) (w : World) (hE : Env w) (hs : t.size ≤ 2000000) (hr : ∀ i, 1 ≤ i → i ≤ 3 → t.data.toList ≠ reasonT i) (hh : t.data.toList.head? ≠ some 123) :
    Calls Tryz.prog 21 #[.string t] w (MeantPost t w) := by
  have hR := Lib.hid (fun n w => reason_c n w)
  have n1 : (t.toList == (bs (reasonT 1)).toList) = false := beq_bs (hr 1 (by omega) (by omega))
  have n2 : (t.toList == (bs (reasonT 2)).toList) = false := beq_bs (hr 2 (by omega) (by omega))
  have n3 : (t.toList == (bs (reasonT 3)).toList) = false := beq_bs (hr 3 (by omega) (by omega))
  have HR := Lib.hid hr
  have HH := Lib.hid hh
  have HE := Lib.hid hE
  have HB0 := Lib.hid (box_bel w (.cells #[.int .i64 0, .int .i64 0, .string ⟨#[]⟩, .slice none 0 0] 24))
  have p123 := Lib.hid (pre_c t 123 false (by simpa using hh))
  clear hr hE hh
  go_enter Tryz.func21, Tryz.ntmps21
  go_wp2
  go_loop [3] (fun i => i = .int .i64 1 ∨ i = .int .i64 2 ∨ i = .int .i64 3 ∨ i = .int .i64 4) (fun i => 4 - (intOf i).toNat)
  case atStart => exact .inl rfl
  case round =>
    rcases hrel with rfl | rfl | rfl | rfl
    · go_wp2_with fail
      refine (hR.out _ _).mono ?_
      rintro e w1 ⟨rfl, rfl⟩
      go_wp2
      go_round
      case rel => exact .inr (.inl rfl)
      case measure => simp [intOf]
    · go_wp2_with fail
      refine (hR.out _ _).mono ?_
      rintro e w1 ⟨rfl, rfl⟩
      go_wp2
      go_round
      case rel => exact .inr (.inr (.inl rfl))
      case measure => simp [intOf]
    · go_wp2_with fail
      refine (hR.out _ _).mono ?_
      rintro e w1 ⟨rfl, rfl⟩
      go_wp2
      go_round
      case rel => exact .inr (.inr (.inr rfl))
      case measure => simp [intOf]
    · clear n1 n2 n3 hR
      by_cases q1 : t.data.toList = [45]
      · obtain rfl := bytes_eq q1
        have hM := Lib.hid (means_none)
        have q2 : ((bs [45]).toList == [45]) = true := by decide +kernel
        clear q1
        go_wp2
        refine bodyPost_ret (v := kn 0 0) (by simp [results, Tryz.results21, go_sem]) rfl ?_
        exact meant_kn rfl (by rw [bs_list]; exact hM.out) HB0.out
      · have q2 := beq_ne q1
        have Q1 := Lib.hid q1; clear q1
        by_cases q3 : ∃ b, t.data.toList = boolT b
        · obtain ⟨b, q3⟩ := q3
          obtain rfl := bytes_eq q3
          have hM := Lib.hid (means_bool b)
          clear q3
          cases b
          · have q4 : ((bs (boolT false)).toList == [116, 114, 117, 101]) = false := by decide +kernel
            have q5 : ((bs (boolT false)).toList == [102, 97, 108, 115, 101]) = true := by decide +kernel
            go_wp2
            refine bodyPost_ret (v := kn 7 0) (by simp [results, Tryz.results21, go_sem]) rfl ?_
            exact meant_kn rfl (by rw [bs_list]; exact hM.out) ((Below.refl _ _).alloc (Nat.le_refl _) _)
          · have q4 : ((bs (boolT true)).toList == [116, 114, 117, 101]) = true := by decide +kernel
            go_wp2
            refine bodyPost_ret (v := kn 7 1) (by simp [results, Tryz.results21, go_sem]) rfl ?_
            exact meant_kn rfl (by rw [bs_list]; exact hM.out) ((Below.refl _ _).alloc (Nat.le_refl _) _)
        · have q4 : (t.toList == [116, 114, 117, 101]) = false := beq_ne (fun h => q3 ⟨true, h⟩)
          have q5 : (t.toList == [102, 97, 108, 115, 101]) = false := beq_ne (fun h => q3 ⟨false, h⟩)
          have Q3 : Hid (∀ b, t.data.toList ≠ boolT b) := fun b h => q3 ⟨b, h⟩
          clear q3
          by_cases z1 : 1 < t.size
          · have hp : 0 < t.size := by omega
            have hpi : (0 : Int) < t.size := by omega
            have h1i : (1 : Int) < t.size := by omega
            have h1j : (1 : Int) ≤ t.size := by omega
            obtain ⟨r, hr⟩ := list_cons hp
            have H1 := Lib.hid hr; clear hr
            by_cases c1 : t[0] = 39
            · have d1 : ((t[0].toNat : Int) == 39) = true := by rw [c1]; rfl
              have hT : Hid (t.data.toList = 39 :: r) := by unfold Hid; rw [H1.out, c1]
              clear c1
              obtain ⟨u, hu⟩ : ∃ u, u = t.extract 1 (t.size - 1) := ⟨_, rfl⟩
              have ul : u.data.toList = insideT t.data.toList := by
                rw [hu, extract_bs, bs_list, ← inside_cut _ (by rw [← Lib.size_eq]; omega), ← Lib.size_eq]
              have uz : u.size ≤ 2000000 := by
                have := inside_le t.data.toList
                rw [← ul, ← Lib.size_eq, ← Lib.size_eq] at this; omega
              have rl := Txt.replaceAll_le u.data.toList [39, 39] [39] (by simp) (by simp) (by decide)
              rw [← Lib.size_eq] at rl
              have hRA := Lib.hid (fun w (hE : Env w) => replaceAll_c u ⟨#[39, 39]⟩ ⟨#[39]⟩ w hE (by omega) (by decide) (by decide) (Nat.le_trans rl (by omega)))
              have UL := Lib.hid ul
              have h2i : (1 : Int) ≤ (t.size : Int) - 1 := by omega
              have h3i : (t.size : Int) - 1 ≤ t.size := by omega
              clear ul rl
              go_wp2_with fail
              rw [← hu]
              refine (hRA.out _ (HE.out.below HB0.out)).mono ?_
              rintro e w2 ⟨x, rfl, xs, hx, B2⟩
              obtain ⟨bc, bf⟩ := bcell B2.out
              go_wp2
              refine bodyPost_ret (v := .agg #[.int .i64 3, .int .i64 0, .string x, .slice none 0 0]) (by simp [results, Tryz.results21, go_sem, bc]) rfl ?_
              refine ⟨3, 0, x, _, [], rfl, xs, .inl ⟨none, 0, rfl, rfl⟩, ?_, below4 (HB0.out.trans (B2.out.mono (by simp))) (Nat.le_refl _) _ _ _ _, _, _, _, rfl, .inl rfl⟩
              rw [hx.out, hT.out]
              show Means _ 3 0 (bs (Lib.replaceAll u.data.toList [39, 39] [39])) []
              rw [UL.out, hT.out]
              exact means_text r
            · have d1 : ((t[0].toNat : Int) == 39) = false := by
                rw [beq_eq_false_iff_ne]; intro e; apply c1; apply UInt8.toNat_inj.1; simp; omega
              have D1 : Hid (t[0] ≠ 39) := c1
              clear c1
              by_cases c2 : t.data.toList.head? = some 35
              · have p35 := Lib.hid (pre_c t 35 true (by simpa using c2))
                have hT : Hid (t.data.toList = 35 :: r) := by unfold Hid; rw [H1.out] at c2 ⊢; rw [Option.some.inj c2]
                clear c2
                have a1 : Hid (∀ w, Env w → Calls Tryz.prog 45 #[.string (t.extract 1 t.size)] w fun e w' => ∃ x, e = .returned (.tuple #[.int .i64 (atoiV r), x]) ∧ Hid (x = .nilIface ∨ ∃ t p, x = .iface t p) ∧ Below w.heap.size w w') := fun w hE => by
                  have := ratoi_c (t.extract 1 t.size) w hE (by rw [ByteArray.size_extract]; omega)
                  have e : (t.extract 1 t.size).data.toList = r := by rw [extract_end, bs_list, hT.out]; rfl
                  rw [e] at this; exact this
                go_wp2_with fail
                refine (p35.out _).mono ?_
                rintro e w1 ⟨rfl, rfl⟩
                go_wp2_with fail
                refine (a1.out _ (HE.out.below HB0.out)).mono ?_
                rintro e w1 ⟨x1, rfl, _, hB⟩
                obtain ⟨bc, bf⟩ := bcell hB
                have HB := Lib.hid hB; clear hB
                go_wp2
                refine bodyPost_ret (v := kn 4 (atoiV r)) (by simp [results, Tryz.results21, go_sem, bc]) rfl ?_
                exact meant_kn rfl (by rw [hT.out]; exact means_choiceR r) (below4 (HB0.out.trans (HB.out.mono (by simp))) (Nat.le_refl _) _ _ _ _)
              · have p35 := Lib.hid (pre_c t 35 false (by simpa using c2))
                have D2 := Lib.hid c2; clear c2
                by_cases z11 : t.size = 11
                · have e11 : ((t.size : Int) == 11) = true := by simp; omega
                  by_cases c4 : t[0] = 64
                  · have d4 : ((t[0].toNat : Int) == 64) = true := by rw [c4]; rfl
                    have hT : Hid (t.data.toList = 64 :: r) := by unfold Hid; rw [H1.out, c4]
                    clear c4
                    have a1 : Hid (∀ w, Env w → Calls Tryz.prog 45 #[.string (t.extract 1 5)] w fun e w' => ∃ x, e = .returned (.tuple #[.int .i64 (atoiV (r.take 4)), x]) ∧ Hid (x = .nilIface ∨ ∃ t p, x = .iface t p) ∧ Below w.heap.size w w') := fun w hE => by
                      have := ratoi_c (t.extract 1 5) w hE (by rw [ByteArray.size_extract]; omega)
                      have e : (t.extract 1 5).data.toList = r.take 4 := by rw [extract_bs, bs_list, hT.out]; rfl
                      rw [e] at this; exact this
                    have a2 : Hid (∀ w, Env w → Calls Tryz.prog 45 #[.string (t.extract 6 8)] w fun e w' => ∃ x, e = .returned (.tuple #[.int .i64 (atoiV ((r.drop 5).take 2)), x]) ∧ Hid (x = .nilIface ∨ ∃ t p, x = .iface t p) ∧ Below w.heap.size w w') := fun w hE => by
                      have := ratoi_c (t.extract 6 8) w hE (by rw [ByteArray.size_extract]; omega)
                      have e : (t.extract 6 8).data.toList = (r.drop 5).take 2 := by rw [extract_bs, bs_list, hT.out]; rfl
                      rw [e] at this; exact this
                    have a3 : Hid (∀ w, Env w → Calls Tryz.prog 45 #[.string (t.extract 9 t.size)] w fun e w' => ∃ x, e = .returned (.tuple #[.int .i64 (atoiV (r.drop 8)), x]) ∧ Hid (x = .nilIface ∨ ∃ t p, x = .iface t p) ∧ Below w.heap.size w w') := fun w hE => by
                      have := ratoi_c (t.extract 9 t.size) w hE (by rw [ByteArray.size_extract]; omega)
                      have e : (t.extract 9 t.size).data.toList = r.drop 8 := by rw [extract_end, bs_list, hT.out]; rfl
                      rw [e] at this; exact this
                    have l1 : (5 : Int) ≤ t.size := by omega
                    have l2 : (8 : Int) ≤ t.size := by omega
                    have l3 : (9 : Int) ≤ t.size := by omega
                    have hdk : Hid (dayKR r = dk (atoiV (r.take 4)) (atoiV ((r.drop 5).take 2)) (atoiV (r.drop 8))) := rfl
                    have hdn : Hid (dayNR r = dn (atoiV (r.take 4)) (atoiV ((r.drop 5).take 2)) (atoiV (r.drop 8))) := rfl
                    have hM := Lib.hid (means_dayR r)
                    generalize atoiV (r.take 4) = y at a1 hdk hdn
                    generalize atoiV ((r.drop 5).take 2) = mo at a2 hdk hdn
                    generalize atoiV (r.drop 8) = d at a3 hdk hdn
                    clear z11
                    go_wp2_with fail
                    refine (p35.out _).mono ?_
                    rintro e w1 ⟨rfl, rfl⟩
                    go_wp2_with fail
                    refine (p123.out _).mono ?_
                    rintro e w1 ⟨rfl, rfl⟩
                    go_wp2_with fail
                    refine (a1.out _ (HE.out.below HB0.out)).mono ?_
                    rintro e w1 ⟨x1, rfl, _, hB⟩
                    have B1 := Lib.hid (HB0.out.trans (hB.mono HB0.out.size))
                    have C1 := Lib.hid hB; clear hB
                    go_wp2_with fail
                    refine (a2.out _ (HE.out.below B1.out)).mono ?_
                    rintro e w2 ⟨x2, rfl, _, hB⟩
                    have B2 := Lib.hid (B1.out.trans (hB.mono B1.out.size))
                    have C2 := Lib.hid (C1.out.trans (hB.mono C1.out.size)); clear hB
                    go_wp2_with fail
                    refine (a3.out _ (HE.out.below B2.out)).mono ?_
                    rintro e w3 ⟨x3, rfl, _, hB⟩
                    have B3 := Lib.hid (B2.out.trans (hB.mono B2.out.size))
                    have C3 := Lib.hid (C2.out.trans (hB.mono C2.out.size)); clear hB
                    go_wp2_with fail
                    refine (RDate_any _ _ _ _).mono ?_
                    rintro e w4 ⟨rfl, hB⟩
                    have B4 := Lib.hid (B3.out.trans (hB.mono B3.out.size))
                    have C4 := C3.out.trans (hB.mono C3.out.size); clear hB
                    obtain ⟨bc, bf⟩ := bcell C4
                    clear C4
                    go_wp2
                    refine bodyPost_ret (v := kn (dk y mo d) (dn y mo d)) (by simp [results, Tryz.results21, go_sem, bc]) rfl ?_
                    exact meant_kn rfl (by rw [hT.out, ← hdk.out, ← hdn.out]; exact hM.out) (below4 B4.out (Nat.le_refl _) _ _ _ _)
                  · have d4 : ((t[0].toNat : Int) == 64) = false := by
                      rw [beq_eq_false_iff_ne]; intro e; apply c4; apply UInt8.toNat_inj.1; simp; omega
                    have hM : Hid (Means t.data.toList 2 (decV t.data.toList) ⟨#[]⟩ []) :=
                      means_numberR _ Q1.out HR.out Q3.out (by rw [H1.out]; intro e; exact absurd (Option.some.inj e) D1.out) D2.out HH.out (by rw [H1.out]; intro e; exact absurd (Option.some.inj e) c4)
                    clear c4 z11
                    go_wp2_with fail
                    refine (p35.out _).mono ?_
                    rintro e w1 ⟨rfl, rfl⟩
                    go_wp2_with fail
                    refine (p123.out _).mono ?_
                    rintro e w1 ⟨rfl, rfl⟩
                    go_wp2_with fail
                    refine (readDecimal_c t _ (HE.out.below HB0.out) hs).mono ?_
                    rintro e w1 ⟨rfl, hB⟩
                    obtain ⟨bc, bf⟩ := bcell hB
                    have HB := Lib.hid hB; clear hB
                    go_wp2
                    refine bodyPost_ret (v := kn 2 (decV t.data.toList)) (by simp [results, Tryz.results21, go_sem, bc]) rfl ?_
                    exact meant_kn rfl hM.out (below4 (HB0.out.trans (HB.out.mono (by simp))) (Nat.le_refl _) _ _ _ _)
                · have e11 : ((t.size : Int) == 11) = false := by simp; omega
                  have hM : Hid (Means t.data.toList 2 (decV t.data.toList) ⟨#[]⟩ []) :=
                    means_numberR _ Q1.out HR.out Q3.out (by rw [H1.out]; intro e; exact absurd (Option.some.inj e) D1.out) D2.out HH.out (fun _ e => z11 (by rw [Lib.size_eq]; exact e))
                  clear z11
                  go_wp2_with fail
                  refine (p35.out _).mono ?_
                  rintro e w1 ⟨rfl, rfl⟩
                  go_wp2_with fail
                  refine (p123.out _).mono ?_
                  rintro e w1 ⟨rfl, rfl⟩
                  go_wp2_with fail
                  refine (readDecimal_c t _ (HE.out.below HB0.out) hs).mono ?_
                  rintro e w1 ⟨rfl, hB⟩
                  obtain ⟨bc, bf⟩ := bcell hB
                  have HB := Lib.hid hB; clear hB
                  go_wp2
                  refine bodyPost_ret (v := kn 2 (decV t.data.toList)) (by simp [results, Tryz.results21, go_sem, bc]) rfl ?_
                  exact meant_kn rfl hM.out (below4 (HB0.out.trans (HB.out.mono (by simp))) (Nat.le_refl _) _ _ _ _)
          · have z1' : decide ((1 : Int) < t.size) = false := by simp; omega
            by_cases c2 : t.data.toList.head? = some 35
            · have p35 := Lib.hid (pre_c t 35 true (by simpa using c2))
              obtain ⟨r, H1⟩ : ∃ r, Hid (t.data.toList = 35 :: r) := by
                cases e : t.data.toList with
                | nil => rw [e] at c2; cases c2
                | cons a r => rw [e] at c2; injection c2 with c2; exact ⟨r, by rw [c2]; rfl⟩
              have h1j : (1 : Int) ≤ t.size := by
                have := congrArg List.length H1.out
                rw [← Lib.size_eq] at this
                simp at this; omega
              clear z1
              have hT : Hid (t.data.toList = 35 :: r) := H1
              clear c2
              have a1 : Hid (∀ w, Env w → Calls Tryz.prog 45 #[.string (t.extract 1 t.size)] w fun e w' => ∃ x, e = .returned (.tuple #[.int .i64 (atoiV r), x]) ∧ Hid (x = .nilIface ∨ ∃ t p, x = .iface t p) ∧ Below w.heap.size w w') := fun w hE => by
                have := ratoi_c (t.extract 1 t.size) w hE (by rw [ByteArray.size_extract]; omega)
                have e : (t.extract 1 t.size).data.toList = r := by rw [extract_end, bs_list, hT.out]; rfl
                rw [e] at this; exact this
              go_wp2_with fail
              refine (p35.out _).mono ?_
              rintro e w1 ⟨rfl, rfl⟩
              go_wp2_with fail
              refine (a1.out _ (HE.out.below HB0.out)).mono ?_
              rintro e w1 ⟨x1, rfl, _, hB⟩
              obtain ⟨bc, bf⟩ := bcell hB
              have HB := Lib.hid hB; clear hB
              go_wp2
              refine bodyPost_ret (v := kn 4 (atoiV r)) (by simp [results, Tryz.results21, go_sem, bc]) rfl ?_
              exact meant_kn rfl (by rw [hT.out]; exact means_choiceR r) (below4 (HB0.out.trans (HB.out.mono (by simp))) (Nat.le_refl _) _ _ _ _)
            · have p35 := Lib.hid (pre_c t 35 false (by simpa using c2))
              have e11 : ((t.size : Int) == 11) = false := by simp; omega
              have hM : Hid (Means t.data.toList 2 (decV t.data.toList) ⟨#[]⟩ []) :=
                means_numberR _ Q1.out HR.out Q3.out (fun _ => by rw [← Lib.size_eq]; omega) c2 HH.out (fun _ e => by rw [← Lib.size_eq] at e; omega)
              clear c2 z1
              go_wp2_with fail
              refine (p35.out _).mono ?_
              rintro e w1 ⟨rfl, rfl⟩
              go_wp2_with fail
              refine (p123.out _).mono ?_
              rintro e w1 ⟨rfl, rfl⟩
              go_wp2_with fail
              refine (readDecimal_c t _ (HE.out.below HB0.out) hs).mono ?_
              rintro e w1 ⟨rfl, hB⟩
              obtain ⟨bc, bf⟩ := bcell hB
              have HB := Lib.hid hB; clear hB
              go_wp2
              refine bodyPost_ret (v := kn 2 (decV t.data.toList)) (by simp [results, Tryz.results21, go_sem, bc]) rfl ?_
              exact meant_kn rfl hM.out (below4 (HB0.out.trans (HB.out.mono (by simp))) (Nat.le_refl _) _ _ _ _)
end Go.Proofs.YtcohkmpjendhnaaGreatDoor
