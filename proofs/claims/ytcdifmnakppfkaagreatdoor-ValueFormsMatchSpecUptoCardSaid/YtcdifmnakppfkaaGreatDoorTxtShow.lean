/-
  Show of package value: the texts of values.
-/
import Derived.Test.YtcdifmnakppfkaaGreatDoorTxtLib
import Derived.Deep.OwnRows
namespace Go.Proofs.YtcdifmnakppfkaaGreatDoor
open Go.RowKit

theorem ret_text {a b : List UInt8} (h : a = b) : Ending.returned (.string (bs a)) = .returned (.string (bs b)) := by rw [h]
theorem itoa_nat (u : Nat) : Lib.itoa (u : Int) = Lib.decDigits u := by
  unfold Lib.itoa; rw [if_neg (by omega)]; simp
theorem rep48 (k : Nat) : Lib.repeatL [48] k = List.replicate k 48 := by
  have := Lib.repeatL_replicate 48 1 k
  simpa using this

theorem pad_le {k u : Nat} (h : u < 10 ^ (k + 1)) (hk : k ≤ 9) : (Txt.pad (k + 1) u).length ≤ 10000000 := by rw [Txt.pad_len h]; omega
set_option maxHeartbeats 400000 in
theorem padded_c (u size : Nat) (w : World) (hE : Env w) (hs : size ≤ 4) (hu : u < 10000) (hn : Lib.nDigits u ≤ size) :
    Calls Tryz.prog 98 #[.int .i64 u, .int .i64 size] w (TP (Txt.pad size u) w) := by
  have hI := Lib.hid (fun w (hE : Env w) => itoa_c (u : Int) w hE (by omega) (by omega))
  have hx : Hid (Lib.itoa (u : Int) = Lib.decDigits u) := itoa_nat u
  have HE := Lib.hid hE; clear hE
  go_enter Tryz.func98, Tryz.ntmps98
  go_wp2_with fail
  refine (hI.out _ HE.out).mono ?_
  rintro e w1 ⟨t, rfl, hs1, ht, HB⟩
  have hlen : t.size = Lib.nDigits u := by rw [ht.out, bs_size, hx.out, Lib.decDigits_length]
  have hk : (t.size : Int) ≤ size := by omega
  have hk2 : t.size ≤ 4 := by omega
  have HL := Lib.hid hlen; clear hlen hn
  go_wp2_with fail
  rw [show (max 0 ((size : Int) - (t.size : Int))) = ((size - t.size : Nat) : Int) by omega]
  refine (repeat_c _ _ _ (by decide) (by omega)).mono ?_
  rintro e w2 ⟨t2, rfl, hs2, ht2, HB2⟩
  go_wp2
  go_ret
  refine tp_ret ?_ ?_ (HB.out.trans (HB2.out.mono HB.out.size))
  · show t2 ++ t = _
    rw [ht2.out, ht.out, bs_app, hx.out]
    unfold Txt.pad
    show bs (Lib.repeatL [48] _ ++ _) = _
    rw [bs_size, rep48]
  · unfold Txt.pad
    rw [List.length_append, List.length_replicate, Lib.decDigits_length]
    have := HL.out; omega

theorem trimZeros_c (l : List UInt8) (t : ByteArray) (w : World) (ht : t = bs l) (hl : l.length ≤ 1000) :
    Calls Tryz.prog 70 #[.string t, .string ⟨#[48]⟩] w (TP (Lib.trimRightB l 48) w) := by
  subst ht
  have h := Tryz.strings_TrimRight_one (bs l) 48 (by decide) w (by rw [bs_size]; omega)
  rw [bs_list] at h
  exact h.mono fun _ _ ⟨he, hw⟩ => tp_of he (by have := Txt.trim_le l 48; omega) (by rw [hw]; exact Below.refl _ _)

theorem frac_len (r : Nat) (h : r < 10000) : (Txt.fracT r).length ≤ 5 := by
  unfold Txt.fracT
  split
  · simp
  · have h1 := Txt.trim_le (Txt.pad 4 r) 48
    rw [Txt.pad_len (k := 3) (by omega)] at h1
    simp; omega
theorem dec_len {u : Nat} (h : u < 10 ^ 19) : (Lib.decDigits u).length ≤ 19 := by
  rw [Lib.decDigits_length]; exact Txt.nDigits_le (k := 18) h
set_option maxHeartbeats 1000000 in
theorem shownNumber_c (n : Int) (w : World) (hE : Env w) (h0 : -999999999999999 ≤ n) (h1 : n ≤ 999999999999999) :
    Calls Tryz.prog 66 #[.int .i64 n] w (TP (Txt.numT n) w) := by
  obtain ⟨m, hm⟩ : ∃ m : Nat, n = m ∨ n = -(m : Int) := ⟨n.natAbs, by omega⟩
  have hI := Lib.hid (fun w (hE : Env w) => itoa_c ((m / 10000 : Nat) : Int) w hE (by omega) (by omega))
  have hP := Lib.hid (fun w (hE : Env w) => padded_c (m % 10000) 4 w hE (by omega) (by omega) (Txt.nDigits_le (k := 3) (by omega)))
  have hT := Lib.hid (fun w (t : ByteArray) (ht : t = bs (Txt.pad 4 (m % 10000))) => trimZeros_c (Txt.pad 4 (m % 10000)) t w ht (by rw [Txt.pad_len (by omega)]; omega))
  have eI : Hid (Lib.itoa ((m / 10000 : Nat) : Int) = Lib.decDigits (m / 10000)) := itoa_nat _
  have hL : Hid (∀ s : List UInt8, s.length ≤ 1 → (s ++ (Lib.decDigits (m / 10000) ++ Txt.fracT (m % 10000))).length ≤ 10000000) := by
    intro s hs
    have a := frac_len (m % 10000) (by omega)
    have b := dec_len (u := m / 10000) (by omega)
    simp only [List.length_append]; omega
  have HE := Lib.hid hE; clear hE
  by_cases hneg : n < 0
  · obtain rfl : n = -(m : Int) := by omega
    have e0 : Hid (Txt.numT (-(m : Int)) = [45] ++ (Lib.decDigits (m / 10000) ++ Txt.fracT (m % 10000))) := by
      unfold Hid Txt.numT Txt.magT; rw [if_pos hneg]; simp
    have hm1 : (0 : Int) < m := by omega
    clear hm
    by_cases hr : m % 10000 = 0
    · have e1 : Hid (Txt.fracT (m % 10000) = []) := by unfold Hid Txt.fracT; rw [if_pos hr]
      have r1 : ((m : Int) % 10000 == 0) = true := by simp; omega
      clear hr
      go_enter Tryz.func66, Tryz.ntmps66
      go_wp2_with fail
      rw [show (m : Int) / 10000 = ((m / 10000 : Nat) : Int) by omega]
      refine (hI.out _ HE.out).mono ?_
      rintro e w1 ⟨t1, rfl, hs1, ht1, HB⟩
      go_wp2
      go_ret
      rw [e0.out]
      refine tp_ret ?_ (hL.out _ (by simp)) HB.out
      show bs [45] ++ t1 = _
      rw [ht1.out, bs_app, e1.out, eI.out]; simp
    · have e1 : Hid (Txt.fracT (m % 10000) = [46] ++ Lib.trimRightB (Txt.pad 4 (m % 10000)) 48) := by unfold Hid Txt.fracT; rw [if_neg hr]; rfl
      have r1 : ((m : Int) % 10000 == 0) = false := by simp; omega
      clear hr
      go_enter Tryz.func66, Tryz.ntmps66
      go_wp2_with fail
      rw [show (m : Int) / 10000 = ((m / 10000 : Nat) : Int) by omega]
      refine (hI.out _ HE.out).mono ?_
      rintro e w1 ⟨t1, rfl, hs1, ht1, HB⟩
      go_wp2_with fail
      rw [show (m : Int) % 10000 = ((m % 10000 : Nat) : Int) by omega]
      refine (hP.out _ (HE.out.below HB.out)).mono ?_
      rintro e w2 ⟨t2, rfl, hs2, ht2, HB2⟩
      go_wp2_with fail
      refine (hT.out _ _ ht2.out).mono ?_
      rintro e w3 ⟨t3, rfl, hs3, ht3, HB3⟩
      go_wp2
      go_ret
      rw [e0.out]
      refine tp_ret ?_ (hL.out _ (by simp)) ((HB.out.trans (HB2.out.mono HB.out.size)).trans (HB3.out.mono (Nat.le_trans HB.out.size HB2.out.size)))
      show bs [45] ++ t1 ++ bs [46] ++ t3 = _
      rw [ht1.out, ht3.out, bs_app, bs_app, bs_app, e1.out, eI.out]; simp
  · obtain rfl : n = (m : Int) := by omega
    have e0 : Hid (Txt.numT (m : Int) = [] ++ (Lib.decDigits (m / 10000) ++ Txt.fracT (m % 10000))) := by
      unfold Hid Txt.numT Txt.magT; rw [if_neg hneg]; simp
    clear hm
    by_cases hr : m % 10000 = 0
    · have e1 : Hid (Txt.fracT (m % 10000) = []) := by unfold Hid Txt.fracT; rw [if_pos hr]
      have r1 : ((m : Int) % 10000 == 0) = true := by simp; omega
      clear hr
      go_enter Tryz.func66, Tryz.ntmps66
      go_wp2_with fail
      rw [show (m : Int) / 10000 = ((m / 10000 : Nat) : Int) by omega]
      refine (hI.out _ HE.out).mono ?_
      rintro e w1 ⟨t1, rfl, hs1, ht1, HB⟩
      go_wp2
      go_ret
      rw [e0.out]
      refine tp_ret ?_ (hL.out _ (by simp)) HB.out
      show bs [] ++ t1 = _
      rw [ht1.out, bs_app, e1.out, eI.out]; simp
    · have e1 : Hid (Txt.fracT (m % 10000) = [46] ++ Lib.trimRightB (Txt.pad 4 (m % 10000)) 48) := by unfold Hid Txt.fracT; rw [if_neg hr]; rfl
      have r1 : ((m : Int) % 10000 == 0) = false := by simp; omega
      clear hr
      go_enter Tryz.func66, Tryz.ntmps66
      go_wp2_with fail
      rw [show (m : Int) / 10000 = ((m / 10000 : Nat) : Int) by omega]
      refine (hI.out _ HE.out).mono ?_
      rintro e w1 ⟨t1, rfl, hs1, ht1, HB⟩
      go_wp2_with fail
      rw [show (m : Int) % 10000 = ((m % 10000 : Nat) : Int) by omega]
      refine (hP.out _ (HE.out.below HB.out)).mono ?_
      rintro e w2 ⟨t2, rfl, hs2, ht2, HB2⟩
      go_wp2_with fail
      refine (hT.out _ _ ht2.out).mono ?_
      rintro e w3 ⟨t3, rfl, hs3, ht3, HB3⟩
      go_wp2
      go_ret
      rw [e0.out]
      refine tp_ret ?_ (hL.out _ (by simp)) ((HB.out.trans (HB2.out.mono HB.out.size)).trans (HB3.out.mono (Nat.le_trans HB.out.size HB2.out.size)))
      show bs [] ++ t1 ++ bs [46] ++ t3 = _
      rw [ht1.out, ht3.out, bs_app, bs_app, bs_app, e1.out, eI.out]; simp

set_option maxHeartbeats 1000000 in
theorem shownDay_c (n : Int) (y m d : Nat) (w : World) (hE : Env w) (h1 : -25567 ≤ n) (h2 : n ≤ 84005) (hd : DateOf n y m d) :
    Calls Tryz.prog 68 #[.int .i64 n] w (TP (Txt.dayT y m d) w) := by
  have hC : Hid (∀ w, Env w → Calls Tryz.prog 99 #[.int .i64 n] w fun e w' => e = .returned (.tuple #[.int .i64 y, .int .i64 m, .int .i64 d]) ∧ w = w') := fun w hE =>
    (civil_any n w hE.tab h1 h2).mono fun e w' ⟨y', m', d', he, hd', hw⟩ => ⟨by
      obtain ⟨rfl, rfl, rfl⟩ := Cal.num_inj _ _ _ _ _ _ hd'.1 hd.1 (hd'.2.2.2.trans hd.2.2.2.symm)
      exact he, hw⟩
  have hb := Cal.dim_bd (y : Int) (m : Int)
  obtain ⟨⟨v1, v2, v3, v4⟩, v5, v6, _⟩ := hd
  have hy := Lib.hid (fun w (hE : Env w) => padded_c y 4 w hE (by omega) (by omega) (Txt.nDigits_le (k := 3) (by omega)))
  have hm := Lib.hid (fun w (hE : Env w) => padded_c m 2 w hE (by omega) (by omega) (Txt.nDigits_le (k := 1) (by omega)))
  have hdd := Lib.hid (fun w (hE : Env w) => padded_c d 2 w hE (by omega) (by omega) (Txt.nDigits_le (k := 1) (by omega)))
  have hL : Hid ((Txt.dayT y m d).length ≤ 10000000) := by
    unfold Hid Txt.dayT
    have a := Txt.pad_len (k := 3) (u := y) (by omega)
    have b := Txt.pad_len (k := 1) (u := m) (by omega)
    have c := Txt.pad_len (k := 1) (u := d) (by omega)
    simp [a, b, c]
  have HE := Lib.hid hE; clear hE hb v1 v2 v3 v4 v5 v6
  go_enter Tryz.func68, Tryz.ntmps68
  go_wp2_with fail
  refine (hC.out _ HE.out).mono ?_
  rintro e w1 ⟨rfl, rfl⟩
  go_wp2_with fail
  refine (hy.out _ HE.out).mono ?_
  rintro e w1 ⟨t1, rfl, hs1, ht1, HB⟩
  go_wp2_with fail
  refine (hm.out _ (HE.out.below HB.out)).mono ?_
  rintro e w2 ⟨t2, rfl, hs2, ht2, HB'⟩
  have HB2 := Lib.hid (HB.out.trans (HB'.out.mono HB.out.size)); clear HB'
  go_wp2_with fail
  refine (hdd.out _ (HE.out.below HB2.out)).mono ?_
  rintro e w3 ⟨t3, rfl, hs3, ht3, HB'⟩
  have HB3 := Lib.hid (HB2.out.trans (HB'.out.mono HB2.out.size)); clear HB'
  go_wp2
  go_ret
  refine tp_ret ?_ hL.out HB3.out
  show bs [64] ++ t1 ++ bs [45] ++ t2 ++ bs [45] ++ t3 = _
  rw [ht1.out, ht2.out, ht3.out, bs_app, bs_app, bs_app, bs_app, bs_app]
  simp [Txt.dayT]
end Go.Proofs.YtcdifmnakppfkaaGreatDoor
