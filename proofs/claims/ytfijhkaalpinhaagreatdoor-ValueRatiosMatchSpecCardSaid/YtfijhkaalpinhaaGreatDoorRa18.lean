/-
  Ratios of package value: RatioOf.
  Ratios: Inverse, amountOf and RatioOf of the reference; RatioOf and CheckRatio of package value.
-/
import Derived.Test.YtfijhkaalpinhaaGreatDoorRa17
import Derived.Test.YtfijhkaalpinhaaGreatDoorRa15
import Derived.Test.YtfijhkaalpinhaaGreatDoorRa16
namespace Go.Proofs.YtfijhkaalpinhaaGreatDoor
open Go.RowKit

/-- RatioOf's answer. -/
def roS (n d : Int) : ByteArray × ByteArray × Int := if d = 0 then (⟨#[]⟩, ⟨#[]⟩, 19) else raR n d
set_option maxRecDepth 100000 in
set_option maxHeartbeats 4000000 in
theorem RatioOf_c (n d : Int) (w : World) (n0 : -9223372036854775808 ≤ n) (n1 : n ≤ 9223372036854775807) (d0 : -9223372036854775808 ≤ d) (d1 : d ≤ 9223372036854775807) :
    Calls Tryz.prog 5 #[.int .i64 n, .int .i64 d] w (OpPost (roS n d) w) := by
  obtain ⟨W0, hW0⟩ : ∃ W0, w.alloc (.cells #[.string ⟨#[]⟩, .string ⟨#[]⟩] 23) = W0 := ⟨_, rfl⟩
  have JR0 : Hid (B2 W0 w.heap.size (.string ⟨#[]⟩) (.string ⟨#[]⟩)) := by rw [← hW0]; exact B2.made _ _ _ _
  have JB0 : Hid (Below w.heap.size w W0) := by rw [← hW0]; exact bel_one _ _
  by_cases hz : d = 0
  · subst hz
    have RS : Hid (roS n 0 = (⟨#[]⟩, ⟨#[]⟩, 19)) := rfl
    go_enter Tryz.func5, Tryz.ntmps5
    obtain ⟨W9, hW9⟩ : ∃ W9, two W0 (w.heap.size) (.string ⟨#[]⟩) (.string ⟨#[]⟩) = W9 := ⟨_, rfl⟩
    have R9 : B2 W9 (w.heap.size) (.string ⟨#[]⟩) (.string ⟨#[]⟩) := by rw [← hW9]; exact JR0.out.set _ _
    have PP : Hid (OpPost (roS n 0) w (.returned (.tuple #[.agg #[.string ⟨#[]⟩, .string ⟨#[]⟩], .int .i64 19])) W9) := by
      rw [← hW9]
      exact ⟨by rw [RS.out], below_two JB0.out (by omega) _ _⟩
    have c0 := JR0.out.c0
    have c1 := JR0.out.c1
    have cf0 := JR0.out.fr 0
    have cf1 := JR0.out.fr 1
    obtain ⟨r0, r1, _, _⟩ := id R9
    unfold two at hW9
    clear R9
    go_wp2_with fail
    exact bodyPost_ret (v := .tuple #[.agg #[.string ⟨#[]⟩, .string ⟨#[]⟩], .int .i64 19]) (by simp [results, Tryz.results5, go_sem, r0, r1]) rfl PP.out
  · have hne : (d == 0) = false := by rw [beq_eq_false_iff_ne]; exact hz
    have RS : Hid (roS n d = raR n d) := by unfold Hid roS; rw [if_neg hz]
    have bn : n.natAbs < bp 2000 := Nat.lt_of_lt_of_le (show n.natAbs < bp 1 by rw [bp_one]; omega) (bp_mono (by decide))
    have bd : d.natAbs < bp 2000 := Nat.lt_of_lt_of_le (show d.natAbs < bp 1 by rw [bp_one]; omega) (bp_mono (by decide))
    have O1 := Lib.hid (fun w => Of_c n w n0 n1)
    have O2 := Lib.hid (fun w => Of_c d w d0 d1)
    have BN := Lib.hid bn
    have BD := Lib.hid bd
    have HZ := Lib.hid hz
    clear hz bn bd
    go_enter Tryz.func5, Tryz.ntmps5
    go_wp2_with fail
    clear hW0
    (with_reducible refine (O1.out _).mono ?_)
    rintro e w1 ⟨ba, a, k, c, rfl, hn, b1⟩
    have N1 := Lib.hid hn
    have JR1 := Lib.hid (JR0.out.keep b1)
    have JB1 := Lib.hid (JB0.out.trans (b1.mono JB0.out.size))
    clear hn b1 O1 JR0 JB0
    go_wp2_with fail
    (with_reducible refine (O2.out _).mono ?_)
    rintro e w2 ⟨bb, a', k', c', rfl, hd, b2⟩
    have N2 := Lib.hid (N1.out.below b2)
    have D2 := Lib.hid hd
    have JR2 := Lib.hid (JR1.out.keep b2)
    have JB2 := Lib.hid (JB1.out.trans (b2.mono JB1.out.size))
    have HV := Lib.hid (Over_c ba bb a a' k k' c c' n d w2 N2.out D2.out HZ.out BN.out BD.out)
    clear hd b2 O2 JR1 JB1 N1
    go_wp2_with fail
    refine HV.out.mono ?_
    rintro e w6 ⟨ob, oa, ok, oc, ob', oa', ok', oc', rfl, hn, hd, b6⟩
    have JR6 := Lib.hid (JR2.out.keep b6)
    have JB6 := Lib.hid (JB2.out.trans (b6.mono JB2.out.size))
    have HRO := Lib.hid (ratioOf_c ob oa ok oc ob' oa' ok' oc' _ _ w6 hn hd (Nat.lt_of_le_of_lt (tdiv_abs_le _ _) BN.out) (Nat.lt_of_le_of_lt (tdiv_abs_le _ _) BD.out) (red_pos (n := n) (d := d) HZ.out))
    obtain ⟨rr, hrr⟩ : ∃ rr, raR n d = rr := ⟨_, rfl⟩
    have RS2 : Hid (roS n d = rr) := by rw [← hrr]; exact RS.out
    have HRO2 : Hid (Calls Tryz.prog 23 #[.agg #[.bool ob, .slice oa ok oc, .bool ob', .slice oa' ok' oc']] w6 (OpPost rr w6)) := by rw [← hrr]; exact HRO.out
    clear hn hd b6 hrr HRO RS HV JR2 JB2
    go_wp2_with fail
    refine HRO2.out.mono ?_
    rintro e w8 ⟨rfl, b8⟩
    have JR8 := Lib.hid (JR6.out.keep b8)
    have JB8 := Lib.hid (JB6.out.trans (b8.mono JB6.out.size))
    clear b8 HRO2 JR6 JB6
    obtain ⟨W9, hW9⟩ : ∃ W9, two w8 (w.heap.size) (.string rr.1) (.string rr.2.1) = W9 := ⟨_, rfl⟩
    have R9 : B2 W9 (w.heap.size) (.string rr.1) (.string rr.2.1) := by rw [← hW9]; exact JR8.out.set _ _
    have PP : Hid (OpPost (roS n d) w (.returned (.tuple #[.agg #[.string rr.1, .string rr.2.1], .int .i64 rr.2.2])) W9) := by
      rw [← hW9]
      exact ⟨by rw [RS2.out], below_two JB8.out (by omega) _ _⟩
    have c0 := JR8.out.c0
    have c1 := JR8.out.c1
    have cf0 := JR8.out.fr 0
    have cf1 := JR8.out.fr 1
    obtain ⟨r0, r1, _, _⟩ := id R9
    unfold two at hW9
    clear R9
    go_wp2_with fail
    exact bodyPost_ret (v := .tuple #[.agg #[.string rr.1, .string rr.2.1], .int .i64 rr.2.2]) (by simp [results, Tryz.results5, go_sem, r0, r1]) rfl PP.out
end Go.Proofs.YtfijhkaalpinhaaGreatDoor
namespace Go.Proofs.YtfijhkaalpinhaaGreatDoor
open Go.RowKit

theorem raR_abs (n d : Int) (hd : d ≠ 0) : raR n d = raR (zv (decide (n < 0) != decide (d < 0)) n.natAbs) (d.natAbs : Int) := by
  have hg : ovG (zv (decide (n < 0) != decide (d < 0)) n.natAbs) (d.natAbs : Int) = ((Int.gcd n d : Nat) : Int) := by
    unfold ovG
    rw [if_neg (by omega)]
    unfold Int.gcd
    rw [zv_abs, Int.natAbs_natCast]
  have h2 : (d.natAbs : Int).tdiv ((Int.gcd n d : Nat) : Int) = ((d.natAbs / Int.gcd n d : Nat) : Int) := tdiv_zv false d.natAbs _
  have hn : n = zv (decide (n < 0)) n.natAbs := (zv_dec n).symm
  have hdd : d = zv (decide (d < 0)) d.natAbs := (zv_dec d).symm
  have k1 : n.tdiv ((Int.gcd n d : Nat) : Int) = zv (decide (n < 0)) (n.natAbs / Int.gcd n d) := by
    have := tdiv_zv (decide (n < 0)) n.natAbs (Int.gcd n d)
    rw [← hn] at this
    exact this
  have k2 : d.tdiv ((Int.gcd n d : Nat) : Int) = zv (decide (d < 0)) (d.natAbs / Int.gcd n d) := by
    have := tdiv_zv (decide (d < 0)) d.natAbs (Int.gcd n d)
    rw [← hdd] at this
    exact this
  have e : red n d = (zv (decide (n < 0) != decide (d < 0)) (n.natAbs / Int.gcd n d), ((d.natAbs / Int.gcd n d : Nat) : Int)) := by
    unfold red ovG
    by_cases h : d < 0
    · rw [if_pos h, Int.tdiv_neg, Int.tdiv_neg, k1, k2, decide_eq_true h, zv_true, ← zv_minus, Int.neg_neg]
      congr 2
      cases decide (n < 0) <;> rfl
    · rw [if_neg h, k1, k2, decide_eq_false h, zv_false]
      congr 2
      cases decide (n < 0) <;> rfl
  unfold raR
  rw [e]
  unfold red
  rw [hg, tdiv_zv, h2]
theorem amountOf_c (z : Int) (w : World) (h0 : -9223372036854775808 ≤ z) (h1 : z ≤ 9223372036854775807) :
    Calls Tryz.prog 27 #[.int .i64 z] w (NtPost z.natAbs w) := by
  by_cases hz : 0 ≤ z
  · obtain ⟨n, rfl⟩ : ∃ n : Nat, z = n := ⟨z.natAbs, by omega⟩
    have HS := Lib.hid (nsmall_c n w (by omega))
    have e : ((n : Int)).natAbs = n := by omega
    rw [e]
    clear e h0 h1
    go_enter Tryz.func27, Tryz.ntmps27
    go_wp2_with fail
    refine HS.out.mono ?_
    rintro e w1 ⟨a, k, c, rfl, hn, b⟩
    have RR : Hid (NtPost n w (.returned (.slice a k c)) w1) := ⟨a, k, c, rfl, hn, b⟩
    clear hn b HS
    go_wp2_with fail
    go_ret
    exact RR.out
  · obtain ⟨m, rfl⟩ : ∃ m : Nat, z = -((m : Int) + 1) := ⟨z.natAbs - 1, by omega⟩
    have HS := Lib.hid (fun w => nsmall_c m w (by omega))
    have H1 := Lib.hid (fun w => nsmall_c 1 w (by omega))
    have e : (-((m : Int) + 1)).natAbs = m + 1 := by omega
    have x1 : ¬ (0 : Int) ≤ -((m : Int) + 1) := by omega
    have e1 : -((m : Int) + 1) + 1 = -(m : Int) := by omega
    have e2 : IntKind.i64.wrap (-(m : Int)) = -(m : Int) := by rw [IntKind.wrap_i64]; omega
    have e3 : - -(m : Int) = (m : Int) := by omega
    have e4 : IntKind.i64.wrap (m : Int) = (m : Int) := by rw [IntKind.wrap_i64]; omega
    have HM : Hid (m < 9223372036854775808) := by unfold Hid; omega
    rw [e]
    clear e hz
    generalize -((m : Int) + 1) = z at *
    go_enter Tryz.func27, Tryz.ntmps27
    go_wp2_with fail
    refine (HS.out _).mono ?_
    rintro e w1 ⟨a, k, c, rfl, hn, b⟩
    have N1 := Lib.hid hn
    have B1 := Lib.hid b
    clear hn b HS
    go_wp2_with fail
    refine (H1.out _).mono ?_
    rintro e w2 ⟨a2, k2, c2, rfl, hn, b⟩
    have N2 := Lib.hid (N1.out.below b)
    have O2 := Lib.hid hn
    have B2 := Lib.hid (B1.out.trans (b.mono B1.out.size))
    have HP := Lib.hid (nplus_c a a2 k k2 c c2 m 1 w2 N2.out O2.out (by have := N2.out.len (K := 3) (by rw [tp_three]; have := HM.out; omega); omega) (by have := O2.out.len (K := 1) (by rw [tp_one]; decide); omega))
    clear hn b H1 N1 B1
    go_wp2_with fail
    refine HP.out.mono ?_
    rintro e w3 ⟨a3, k3, c3, rfl, hn, b⟩
    have RR : Hid (NtPost (m + 1) w (.returned (.slice a3 k3 c3)) w3) := ⟨a3, k3, c3, rfl, hn, B2.out.trans (b.mono B2.out.size)⟩
    clear hn b HP
    go_wp2_with fail
    go_ret
    exact RR.out
set_option maxRecDepth 100000 in
set_option maxHeartbeats 4000000 in
theorem rInverse_c (s t : ByteArray) (w : World) (hE : Pow w) :
    Calls Tryz.prog 14 #[.agg #[.string s, .string t]] w (OpPost (ivS s.data.toList t.data.toList) w) := by
  obtain ⟨W0, hW0⟩ : ∃ W0, (w.alloc (.cells #[.string s, .string t] 23)).alloc (.cells #[.string ⟨#[]⟩, .string ⟨#[]⟩] 23) = W0 := ⟨_, rfl⟩
  have s1 : (w.alloc (.cells #[.string s, .string t] 23)).heap.size = w.heap.size + 1 := by simp
  have X0 : Hid (B2 W0 w.heap.size (.string s) (.string t)) := by rw [← hW0]; exact (B2.made w _ _ _).keep (bel_one _ _)
  have JR0 : Hid (B2 W0 (w.heap.size + 1) (.string ⟨#[]⟩) (.string ⟨#[]⟩)) := by rw [← hW0, ← s1]; exact B2.made _ _ _ _
  have JB0 : Hid (Below w.heap.size w W0) := by rw [← hW0]; exact ((Below.refl _ _).alloc (Nat.le_refl _) _).alloc (by simp) _
  have HE := Lib.hid (fun W (h : Below w.heap.size w W) => hE.below h)
  have HC := Lib.hid (rCheckRatio_c s t W0 (HE.out _ JB0.out))
  unfold CkPost at HC
  obtain ⟨flt, hflt⟩ : ∃ flt, ck s.data.toList t.data.toList = flt := ⟨_, rfl⟩
  rw [hflt] at HC
  have HF := Lib.hid hflt
  have x0 := X0.out.c0
  have x1 := X0.out.c1
  clear hflt hE s1
  go_enter Tryz.func14, Tryz.ntmps14
  go_wp2_with fail
  clear hW0 x0 x1
  (with_reducible refine HC.out.mono ?_)
  rintro e w1 ⟨rfl, b1⟩
  have X1 := Lib.hid (X0.out.keep b1)
  have JR1 := Lib.hid (JR0.out.keep b1)
  have JB1 := Lib.hid (JB0.out.trans (b1.mono JB0.out.size))
  clear b1 X0 JR0 JB0 HC
  by_cases hz : flt = 0
  · subst hz
    obtain ⟨x, y, e1⟩ : ∃ x y, rread s.data.toList t.data.toList = some (x, y) := by
      have h := HF.out
      unfold ck at h
      cases e : rread s.data.toList t.data.toList with
      | some p => exact ⟨p.1, p.2, rfl⟩
      | none => rw [e, if_neg (by simp)] at h; exact absurd h (rflt_ne _ _)
    have HO := Lib.hid (fun w => open_c s t x y w e1)
    have P1 := Lib.hid (rread_pos' e1)
    have V1 := Lib.hid (val_pos_den e1)
    have E1 := Lib.hid e1
    obtain ⟨b, hb⟩ : ∃ b, decide (x < 0) = b := ⟨_, rfl⟩
    rw [hb] at HO
    have FB : Hid (b = decide (x < 0)) := hb.symm
    have x0 := X1.out.c0
    have x1 := X1.out.c1
    clear e1 HF hb
    go_wp2_with fail
    clear x0 x1 X1
    (with_reducible refine (HO.out _).mono ?_)
    rintro e w5 ⟨a, k, c, a', k', c', rfl, hn, hd, b5⟩
    have JR5 := JR1.out.keep b5
    have JB5 := JB1.out.trans (b5.mono JB1.out.size)
    obtain ⟨WA, hWA⟩ : ∃ W, w5.alloc (.cells #[.bool false, .slice none 0 0, .slice none 0 0] 53) = W := ⟨_, rfl⟩
    have D1 : B3 WA w5.heap.size (.bool false) (.slice none 0 0) (.slice none 0 0) := by rw [← hWA]; exact B3.made _ _ _ _ _
    obtain ⟨WB, hWB⟩ : ∃ W, three WA w5.heap.size (.bool b) (.slice a k c) (.slice a' k' c') = W := ⟨_, rfl⟩
    have hb : Below w5.heap.size w5 WB := by rw [← hWB]; exact below_three (by rw [← hWA]; exact bel_one _ _) (Nat.le_refl _) _ _ _
    have JR6 := Lib.hid (JR5.keep hb)
    have JB6 := Lib.hid (JB5.trans (hb.mono JB5.size))
    have N6 := Lib.hid (hn.below hb)
    have D6 := Lib.hid (hd.below hb)
    have D2 : Hid (B3 WB w5.heap.size (.bool b) (.slice a k c) (.slice a' k' c')) := by rw [← hWB]; exact D1.set _ _ _
    have a0 := D1.c0
    have a1 := D1.c1
    have a2 := D1.c2
    have af0 := D1.fr 0
    have af1 := D1.fr 1
    have af2 := D1.fr 2
    have p0 := D2.out.c0
    have p1 := D2.out.c1
    have p2 := D2.out.c2
    unfold three at hWB
    clear D1 hb hn hd b5 JR5 JB5 JR1 JB1 HO
    rcases Nat.eq_zero_or_pos k with e0 | e0
    · subst e0
      have RS : Hid (ivS s.data.toList t.data.toList = (⟨#[]⟩, ⟨#[]⟩, 19)) := by
        unfold Hid ivS
        rw [E1.out]
        have hx : x = 0 := by have := N6.out.lt; rw [tp_zero] at this; omega
        exact if_pos hx
      obtain ⟨W9, hW9⟩ : ∃ W9, two WB (w.heap.size + 1) (.string ⟨#[]⟩) (.string ⟨#[]⟩) = W9 := ⟨_, rfl⟩
      have R9 : B2 W9 (w.heap.size + 1) (.string ⟨#[]⟩) (.string ⟨#[]⟩) := by rw [← hW9]; exact JR6.out.set _ _
      have PP : Hid (OpPost (ivS s.data.toList t.data.toList) w (.returned (.tuple #[.agg #[.string ⟨#[]⟩, .string ⟨#[]⟩], .int .i64 19])) W9) := by
        rw [← hW9]
        exact ⟨by rw [RS.out], below_two JB6.out (by omega) _ _⟩
      have c0 := JR6.out.c0
      have c1 := JR6.out.c1
      have cf0 := JR6.out.fr 0
      have cf1 := JR6.out.fr 1
      obtain ⟨r0, r1, _, _⟩ := id R9
      unfold two at hW9
      clear R9
      go_wp2_with fail
      exact bodyPost_ret (v := .tuple #[.agg #[.string ⟨#[]⟩, .string ⟨#[]⟩], .int .i64 19]) (by simp [results, Tryz.results14, go_sem, r0, r1]) rfl PP.out
    · have e0' : ((k : Int) == 0) = false := by rw [beq_eq_false_iff_ne]; omega
      have e0'' : (k == 0) = false := by rw [beq_eq_false_iff_ne]; omega
      have hx : 0 < x.natAbs := by have h1 := N6.out.pos e0; have := tp_pos (k - 1); omega
      have HSH := shut_c b a' a k' k c' c _ _ WB D6.out N6.out hx (by have := D6.out.len V1.out.2.1; omega) (by have := N6.out.len V1.out.2.2; omega) (HE.out _ JB6.out)
      have ey : zv b y.natAbs = zv (decide (y < 0) != decide (x < 0)) y.natAbs := by
        have := P1.out
        rw [decide_eq_false (show ¬ y < 0 by omega), FB.out]
        cases decide (x < 0) <;> rfl
      rw [ey, ← raR_abs y x (by omega)] at HSH
      have RS : ivS s.data.toList t.data.toList = raR y x := by
        unfold ivS
        rw [E1.out]
        exact if_neg (by omega)
      obtain ⟨rr, hrr⟩ : ∃ rr, raR y x = rr := ⟨_, rfl⟩
      rw [hrr] at HSH RS
      have RS2 := Lib.hid RS
      have HSH := Lib.hid HSH
      clear ey hx RS hrr N6 D6
      go_wp2_with fail
      clear hWA hWB a0 a1 a2 af0 af1 af2 p0 p1 p2
      (with_reducible refine HSH.out.mono ?_)
      rintro e w8 ⟨rfl, b8⟩
      have JR8 := Lib.hid (JR6.out.keep b8)
      have JB8 := Lib.hid (JB6.out.trans (b8.mono JB6.out.size))
      clear b8 HSH
      obtain ⟨W9, hW9⟩ : ∃ W9, two w8 (w.heap.size + 1) (.string rr.1) (.string rr.2.1) = W9 := ⟨_, rfl⟩
      have R9 : B2 W9 (w.heap.size + 1) (.string rr.1) (.string rr.2.1) := by rw [← hW9]; exact JR8.out.set _ _
      have PP : Hid (OpPost (ivS s.data.toList t.data.toList) w (.returned (.tuple #[.agg #[.string rr.1, .string rr.2.1], .int .i64 rr.2.2])) W9) := by
        rw [← hW9]
        exact ⟨by rw [RS2.out], below_two JB8.out (by omega) _ _⟩
      have c0 := JR8.out.c0
      have c1 := JR8.out.c1
      have cf0 := JR8.out.fr 0
      have cf1 := JR8.out.fr 1
      obtain ⟨r0, r1, _, _⟩ := id R9
      unfold two at hW9
      clear R9
      go_wp2_with fail
      exact bodyPost_ret (v := .tuple #[.agg #[.string rr.1, .string rr.2.1], .int .i64 rr.2.2]) (by simp [results, Tryz.results14, go_sem, r0, r1]) rfl PP.out
  · have hne : (flt == 0) = false := by rw [beq_eq_false_iff_ne]; exact hz
    have hne2 : (flt != 0) = true := by simp [hz]
    have RS2 : Hid (ivS s.data.toList t.data.toList = (⟨#[]⟩, ⟨#[]⟩, flt)) := by
      unfold Hid ivS
      have h := HF.out
      cases e : rread s.data.toList t.data.toList with
      | some p => rw [ck_some e] at h; exact absurd h.symm hz
      | none => rw [ck_none e] at h; rw [h]
    clear hz HF
    obtain ⟨W9, hW9⟩ : ∃ W9, two w1 (w.heap.size + 1) (.string ⟨#[]⟩) (.string ⟨#[]⟩) = W9 := ⟨_, rfl⟩
    have R9 : B2 W9 (w.heap.size + 1) (.string ⟨#[]⟩) (.string ⟨#[]⟩) := by rw [← hW9]; exact JR1.out.set _ _
    have PP : Hid (OpPost (ivS s.data.toList t.data.toList) w (.returned (.tuple #[.agg #[.string ⟨#[]⟩, .string ⟨#[]⟩], .int .i64 flt])) W9) := by
      rw [← hW9]
      exact ⟨by rw [RS2.out], below_two JB1.out (by omega) _ _⟩
    have c0 := JR1.out.c0
    have c1 := JR1.out.c1
    have cf0 := JR1.out.fr 0
    have cf1 := JR1.out.fr 1
    obtain ⟨r0, r1, _, _⟩ := id R9
    unfold two at hW9
    clear R9
    go_wp2_with fail
    exact bodyPost_ret (v := .tuple #[.agg #[.string ⟨#[]⟩, .string ⟨#[]⟩], .int .i64 flt]) (by simp [results, Tryz.results14, go_sem, r0, r1]) rfl PP.out
set_option maxRecDepth 100000 in
set_option maxHeartbeats 4000000 in
theorem rRatioOf_c (n d : Int) (w : World) (n0 : -9223372036854775808 ≤ n) (n1 : n ≤ 9223372036854775807) (d0 : -9223372036854775808 ≤ d) (d1 : d ≤ 9223372036854775807) (hE : Pow w) :
    Calls Tryz.prog 6 #[.int .i64 n, .int .i64 d] w (OpPost (roS n d) w) := by
  obtain ⟨W0, hW0⟩ : ∃ W0, w.alloc (.cells #[.string ⟨#[]⟩, .string ⟨#[]⟩] 23) = W0 := ⟨_, rfl⟩
  have JR0 : Hid (B2 W0 w.heap.size (.string ⟨#[]⟩) (.string ⟨#[]⟩)) := by rw [← hW0]; exact B2.made _ _ _ _
  have JB0 : Hid (Below w.heap.size w W0) := by rw [← hW0]; exact bel_one _ _
  have HE := Lib.hid (fun W (h : Below w.heap.size w W) => hE.below h)
  clear hE
  by_cases hz : d = 0
  · subst hz
    have RS : Hid (roS n 0 = (⟨#[]⟩, ⟨#[]⟩, 19)) := rfl
    go_enter Tryz.func6, Tryz.ntmps6
    obtain ⟨W9, hW9⟩ : ∃ W9, two W0 (w.heap.size) (.string ⟨#[]⟩) (.string ⟨#[]⟩) = W9 := ⟨_, rfl⟩
    have R9 : B2 W9 (w.heap.size) (.string ⟨#[]⟩) (.string ⟨#[]⟩) := by rw [← hW9]; exact JR0.out.set _ _
    have PP : Hid (OpPost (roS n 0) w (.returned (.tuple #[.agg #[.string ⟨#[]⟩, .string ⟨#[]⟩], .int .i64 19])) W9) := by
      rw [← hW9]
      exact ⟨by rw [RS.out], below_two JB0.out (by omega) _ _⟩
    have c0 := JR0.out.c0
    have c1 := JR0.out.c1
    have cf0 := JR0.out.fr 0
    have cf1 := JR0.out.fr 1
    obtain ⟨r0, r1, _, _⟩ := id R9
    unfold two at hW9
    clear R9
    go_wp2_with fail
    exact bodyPost_ret (v := .tuple #[.agg #[.string ⟨#[]⟩, .string ⟨#[]⟩], .int .i64 19]) (by simp [results, Tryz.results6, go_sem, r0, r1]) rfl PP.out
  · have hne : (d == 0) = false := by rw [beq_eq_false_iff_ne]; exact hz
    have RS : Hid (roS n d = raR n d) := by unfold Hid roS; rw [if_neg hz]
    have O1 := Lib.hid (fun w => amountOf_c n w n0 n1)
    have O2 := Lib.hid (fun w => amountOf_c d w d0 d1)
    have BN : Hid (n.natAbs < tp 3) := by unfold Hid; rw [tp_three]; omega
    have BD : Hid (d.natAbs < tp 3 ∧ 0 < d.natAbs) := ⟨by rw [tp_three]; omega, by omega⟩
    have HZ := Lib.hid hz
    obtain ⟨bn, hbn⟩ : ∃ b, decide (n < 0) = b := ⟨_, rfl⟩
    obtain ⟨bd, hbd⟩ : ∃ b, decide (d < 0) = b := ⟨_, rfl⟩
    have HRA : Hid (raR (zv (bn != bd) n.natAbs) (d.natAbs : Int) = raR n d) := by unfold Hid; rw [← hbn, ← hbd, ← raR_abs n d hz]
    clear hz
    go_enter Tryz.func6, Tryz.ntmps6
    go_wp2_with fail
    clear hW0
    (with_reducible refine (O1.out _).mono ?_)
    rintro e w1 ⟨a, k, c, rfl, hn, b1⟩
    have N1 := Lib.hid hn
    have JR1 := Lib.hid (JR0.out.keep b1)
    have JB1 := Lib.hid (JB0.out.trans (b1.mono JB0.out.size))
    clear hn b1 O1 JR0 JB0
    go_wp2_with fail
    (with_reducible refine (O2.out _).mono ?_)
    rintro e w2 ⟨a', k', c', rfl, hd, b2⟩
    have N2 := Lib.hid (N1.out.below b2)
    have D2 := Lib.hid hd
    have JR6 := Lib.hid (JR1.out.keep b2)
    have JB6 := Lib.hid (JB1.out.trans (b2.mono JB1.out.size))
    have HSH := shut_c (bn != bd) a a' k k' c c' n.natAbs d.natAbs w2 N2.out D2.out BD.out.2 (by have := N2.out.len BN.out; omega) (by have := D2.out.len BD.out.1; omega) (HE.out _ JB6.out)
    rw [HRA.out] at HSH
    obtain ⟨rr, hrr⟩ : ∃ rr, raR n d = rr := ⟨_, rfl⟩
    have RS2 : Hid (roS n d = rr) := by rw [← hrr]; exact RS.out
    rw [hrr] at HSH
    have HSH := Lib.hid HSH
    clear hd b2 O2 JR1 JB1 N1 hrr HRA RS
    go_wp2_with fail
    (refine HSH.out.mono ?_)
    rintro e w8 ⟨rfl, b8⟩
    have JR8 := Lib.hid (JR6.out.keep b8)
    have JB8 := Lib.hid (JB6.out.trans (b8.mono JB6.out.size))
    clear b8 HSH JR6 JB6
    obtain ⟨W9, hW9⟩ : ∃ W9, two w8 (w.heap.size) (.string rr.1) (.string rr.2.1) = W9 := ⟨_, rfl⟩
    have R9 : B2 W9 (w.heap.size) (.string rr.1) (.string rr.2.1) := by rw [← hW9]; exact JR8.out.set _ _
    have PP : Hid (OpPost (roS n d) w (.returned (.tuple #[.agg #[.string rr.1, .string rr.2.1], .int .i64 rr.2.2])) W9) := by
      rw [← hW9]
      exact ⟨by rw [RS2.out], below_two JB8.out (by omega) _ _⟩
    have c0 := JR8.out.c0
    have c1 := JR8.out.c1
    have cf0 := JR8.out.fr 0
    have cf1 := JR8.out.fr 1
    obtain ⟨r0, r1, _, _⟩ := id R9
    unfold two at hW9
    clear R9
    go_wp2_with fail
    exact bodyPost_ret (v := .tuple #[.agg #[.string rr.1, .string rr.2.1], .int .i64 rr.2.2]) (by simp [results, Tryz.results6, go_sem, r0, r1]) rfl PP.out
end Go.Proofs.YtfijhkaalpinhaaGreatDoor
