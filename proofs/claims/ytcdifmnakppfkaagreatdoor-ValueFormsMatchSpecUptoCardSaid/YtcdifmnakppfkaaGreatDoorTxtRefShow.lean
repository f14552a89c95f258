/-
  Show of the reference: the texts of values.
-/
import Derived.Test.YtcdifmnakppfkaaGreatDoorTxtLaw
import Derived.Test.YtcdifmnakppfkaaGreatDoorTxtRefChkB
import Derived.Test.YtcdifmnakppfkaaGreatDoorTxtRefDays
namespace Go.Proofs.YtcdifmnakppfkaaGreatDoor
open Go.RowKit

set_option maxHeartbeats 400000 in
theorem digits_c (u size : Nat) (w : World) (hE : Env w) (hs : size ≤ 4) (hu : u < 10000) (hn : Lib.nDigits u ≤ size) :
    Calls Tryz.prog 41 #[.int .i64 u, .int .i64 size] w (TP (Txt.pad size u) w) := by
  have hI := Lib.hid (fun w (hE : Env w) => itoa_c (u : Int) w hE (by omega) (by omega))
  have hx : Hid (Lib.itoa (u : Int) = Lib.decDigits u) := itoa_nat u
  have HE := Lib.hid hE; clear hE
  go_enter Tryz.func41, Tryz.ntmps41
  go_wp2_with fail
  refine (hI.out _ HE.out).mono ?_
  rintro e w1 ⟨t, rfl, hs1, ht, HB⟩
  have hlen : t.size = Lib.nDigits u := by rw [ht.out, bs_size, hx.out, Lib.decDigits_length]
  have hk : (t.size : Int) ≤ size := by omega
  have hk2 : t.size ≤ 4 := by omega
  have HL := Lib.hid hlen; clear hlen hn
  go_wp2_with fail
  rw [show (max ((size : Int) - (t.size : Int)) 0) = ((size - t.size : Nat) : Int) by omega]
  refine (repeat_c _ _ _ (by decide) (by omega)).mono ?_
  rintro e w2 ⟨t2, rfl, hs2, ht2, HB2⟩
  go_wp2
  go_ret
  refine tp_ret ?_ ?_ (HB.out.trans (HB2.out.mono HB.out.size))
  · show t2 ++ t = _
    rw [ht2.out, ht.out, bs_app, hx.out]
    unfold Txt.pad
    show bs (Lib.repeatL [48] _ ++ _) = _
    rw [bs_size, rep48]
  · unfold Txt.pad
    rw [List.length_append, List.length_replicate, Lib.decDigits_length]
    have := HL.out; omega

set_option maxHeartbeats 1000000 in
theorem decimal_c (n : Int) (w : World) (hE : Env w) (h0 : -999999999999999 ≤ n) (h1 : n ≤ 999999999999999) :
    Calls Tryz.prog 37 #[.int .i64 n] w (TP (Txt.numT n) w) := by
  obtain ⟨m, hm⟩ : ∃ m : Nat, n = m ∨ n = -(m : Int) := ⟨n.natAbs, by omega⟩
  have hI := Lib.hid (fun w (hE : Env w) => itoa_c ((m / 10000 : Nat) : Int) w hE (by omega) (by omega))
  have hP := Lib.hid (fun w (hE : Env w) => digits_c (m % 10000) 4 w hE (by omega) (by omega) (Txt.nDigits_le (k := 3) (by omega)))
  have hT := Lib.hid (fun w (t : ByteArray) (ht : t = bs (Txt.pad 4 (m % 10000))) => trimZeros_c (Txt.pad 4 (m % 10000)) t w ht (by rw [Txt.pad_len (by omega)]; omega))
  have eI : Hid (Lib.itoa ((m / 10000 : Nat) : Int) = Lib.decDigits (m / 10000)) := itoa_nat _
  have hL : Hid (∀ s : List UInt8, s.length ≤ 1 → (s ++ (Lib.decDigits (m / 10000) ++ Txt.fracT (m % 10000))).length ≤ 10000000) := by
    intro s hs
    have a := frac_len (m % 10000) (by omega)
    have b := dec_len (u := m / 10000) (by omega)
    simp only [List.length_append]; omega
  have HE := Lib.hid hE; clear hE
  by_cases hneg : n < 0
  · obtain rfl : n = -(m : Int) := by omega
    have e0 : Hid (Txt.numT (-(m : Int)) = [45] ++ (Lib.decDigits (m / 10000) ++ Txt.fracT (m % 10000))) := by
      unfold Hid Txt.numT Txt.magT; rw [if_pos hneg]; simp
    have hm1 : (0 : Int) < m := by omega
    clear hm
    by_cases hr : m % 10000 = 0
    · have e1 : Hid (Txt.fracT (m % 10000) = []) := by unfold Hid Txt.fracT; rw [if_pos hr]
      have r1 : ((m : Int) % 10000 != 0) = false := by simp; omega
      clear hr
      go_enter Tryz.func37, Tryz.ntmps37
      go_wp2_with fail
      rw [show (m : Int) / 10000 = ((m / 10000 : Nat) : Int) by omega]
      refine (hI.out _ HE.out).mono ?_
      rintro e w1 ⟨t1, rfl, hs1, ht1, HB⟩
      go_wp2
      go_ret
      rw [e0.out]
      refine tp_ret ?_ (hL.out _ (by simp)) HB.out
      show bs [45] ++ t1 = _
      rw [ht1.out, bs_app, e1.out, eI.out]; simp
    · have e1 : Hid (Txt.fracT (m % 10000) = [46] ++ Lib.trimRightB (Txt.pad 4 (m % 10000)) 48) := by unfold Hid Txt.fracT; rw [if_neg hr]; rfl
      have r1 : ((m : Int) % 10000 != 0) = true := by simp; omega
      clear hr
      go_enter Tryz.func37, Tryz.ntmps37
      go_wp2_with fail
      rw [show (m : Int) / 10000 = ((m / 10000 : Nat) : Int) by omega]
      refine (hI.out _ HE.out).mono ?_
      rintro e w1 ⟨t1, rfl, hs1, ht1, HB⟩
      go_wp2_with fail
      rw [show (m : Int) % 10000 = ((m % 10000 : Nat) : Int) by omega]
      refine (hP.out _ (HE.out.below HB.out)).mono ?_
      rintro e w2 ⟨t2, rfl, hs2, ht2, HB2⟩
      go_wp2_with fail
      refine (hT.out _ _ ht2.out).mono ?_
      rintro e w3 ⟨t3, rfl, hs3, ht3, HB3⟩
      go_wp2
      go_ret
      rw [e0.out]
      refine tp_ret ?_ (hL.out _ (by simp)) ((HB.out.trans (HB2.out.mono HB.out.size)).trans (HB3.out.mono (Nat.le_trans HB.out.size HB2.out.size)))
      show bs [45] ++ t1 ++ (bs [46] ++ t3) = _
      rw [ht1.out, ht3.out, bs_app, bs_app, bs_app, e1.out, eI.out]; simp
  · obtain rfl : n = (m : Int) := by omega
    have e0 : Hid (Txt.numT (m : Int) = [] ++ (Lib.decDigits (m / 10000) ++ Txt.fracT (m % 10000))) := by
      unfold Hid Txt.numT Txt.magT; rw [if_neg hneg]; simp
    clear hm
    by_cases hr : m % 10000 = 0
    · have e1 : Hid (Txt.fracT (m % 10000) = []) := by unfold Hid Txt.fracT; rw [if_pos hr]
      have r1 : ((m : Int) % 10000 != 0) = false := by simp; omega
      clear hr
      go_enter Tryz.func37, Tryz.ntmps37
      go_wp2_with fail
      rw [show (m : Int) / 10000 = ((m / 10000 : Nat) : Int) by omega]
      refine (hI.out _ HE.out).mono ?_
      rintro e w1 ⟨t1, rfl, hs1, ht1, HB⟩
      go_wp2
      go_ret
      rw [e0.out]
      refine tp_ret ?_ (hL.out _ (by simp)) HB.out
      show bs [] ++ t1 = _
      rw [ht1.out, bs_app, e1.out, eI.out]; simp
    · have e1 : Hid (Txt.fracT (m % 10000) = [46] ++ Lib.trimRightB (Txt.pad 4 (m % 10000)) 48) := by unfold Hid Txt.fracT; rw [if_neg hr]; rfl
      have r1 : ((m : Int) % 10000 != 0) = true := by simp; omega
      clear hr
      go_enter Tryz.func37, Tryz.ntmps37
      go_wp2_with fail
      rw [show (m : Int) / 10000 = ((m / 10000 : Nat) : Int) by omega]
      refine (hI.out _ HE.out).mono ?_
      rintro e w1 ⟨t1, rfl, hs1, ht1, HB⟩
      go_wp2_with fail
      rw [show (m : Int) % 10000 = ((m % 10000 : Nat) : Int) by omega]
      refine (hP.out _ (HE.out.below HB.out)).mono ?_
      rintro e w2 ⟨t2, rfl, hs2, ht2, HB2⟩
      go_wp2_with fail
      refine (hT.out _ _ ht2.out).mono ?_
      rintro e w3 ⟨t3, rfl, hs3, ht3, HB3⟩
      go_wp2
      go_ret
      rw [e0.out]
      refine tp_ret ?_ (hL.out _ (by simp)) ((HB.out.trans (HB2.out.mono HB.out.size)).trans (HB3.out.mono (Nat.le_trans HB.out.size HB2.out.size)))
      show bs [] ++ t1 ++ (bs [46] ++ t3) = _
      rw [ht1.out, ht3.out, bs_app, bs_app, bs_app, e1.out, eI.out]; simp


theorem reason_c (n : Int) (w : World) : Calls Tryz.prog 36 #[.int .i64 n] w fun e w' => e = .returned (.string (bs (reasonT n))) ∧ w' = w := by
  by_cases h1 : n = 1
  · subst h1
    go_enter Tryz.func36, Tryz.ntmps36
    go_wp2
    go_ret
    exact ⟨rfl, rfl⟩
  · have e1 : (n == 1) = false := by simpa using h1
    by_cases h2 : n = 2
    · subst h2
      go_enter Tryz.func36, Tryz.ntmps36
      go_wp2
      go_ret
      exact ⟨rfl, rfl⟩
    · have e2 : (n == 2) = false := by simpa using h2
      have e : Hid (reasonT n = [110, 111, 97, 110, 115, 119, 101, 114]) := by unfold Hid reasonT; rw [if_neg h1, if_neg h2]
      clear h1 h2
      go_enter Tryz.func36, Tryz.ntmps36
      go_wp2
      go_ret
      exact ⟨by rw [e.out]; rfl, rfl⟩

/-- The text of the first k elements of a set. -/
def preT (l : List Int) : Nat → List UInt8
  | 0 => [123]
  | k + 1 => preT l k ++ ((if 0 < k then [44] else []) ++ Txt.codeT (l.getD k 0))
theorem join_snoc (xs : List (List UInt8)) (y : List UInt8) (h : xs ≠ []) : Lib.join (xs ++ [y]) [44] = Lib.join xs [44] ++ ([44] ++ y) := by
  cases xs with
  | nil => exact absurd rfl h
  | cons x r =>
    rw [List.cons_append, Lib.join_cons, Lib.join_cons]
    simp [Lib.joinTail]
theorem preT_eq (l : List Int) : ∀ k, k ≤ l.length → preT l k = 123 :: Lib.join ((l.take k).map Txt.codeT) [44]
  | 0, _ => by simp [preT, Lib.join_nil]
  | k + 1, h => by
    have ih := preT_eq l k (by omega)
    have e : l.take (k + 1) = l.take k ++ [l.getD k 0] := by
      rw [List.take_succ_eq_append_getElem (by omega)]
      simp [List.getD_eq_getElem?_getD, show k < l.length by omega]
    rw [preT, ih, e, List.map_append, List.map_cons, List.map_nil]
    by_cases h0 : k = 0
    · subst h0; simp [Lib.join_nil, Lib.join_one]
    · rw [if_pos (by omega), join_snoc _ _ (by
        intro hn
        have h1 := congrArg List.length hn
        rw [List.length_map, List.length_take, List.length_nil] at h1; omega)]
      simp
theorem preT_full (l : List Int) : preT l l.length ++ [125] = Txt.setT l := by
  rw [preT_eq l l.length (Nat.le_refl _), List.take_length]; rfl
theorem preT_len (l : List Int) (hx : ∀ j, j < l.length → 1 ≤ l.getD j 0 ∧ l.getD j 0 ≤ 999) : ∀ k, k ≤ l.length → (preT l k).length ≤ 1 + 23 * k
  | 0, _ => by simp [preT]
  | k + 1, h => by
    have ih := preT_len l hx k (by omega)
    have h1 := hx k (by omega)
    have h2 := code_len (l.getD k 0) (by omega) (by omega)
    simp only [preT, List.length_append]
    generalize Txt.codeT (l.getD k 0) = z at h2
    by_cases h0 : 0 < k
    · rw [if_pos h0]; simp only [List.length_cons, List.length_nil]; omega
    · rw [if_neg h0]; simp only [List.length_nil]; omega
end Go.Proofs.YtcdifmnakppfkaaGreatDoor
