/-
  ValueTextsComeBack: the walk of the law.
-/
import Derived.Test.YtcohkmpjendhnaaGreatDoorTxtRead
namespace Go.Proofs.YtcohkmpjendhnaaGreatDoor
open Go.RowKit

theorem means_ex (t : List UInt8) : ∃ k n s l, Means t k n s l := by
  by_cases h : ∃ i, 1 ≤ i ∧ i ≤ 3 ∧ t = reasonT i
  · obtain ⟨i, h1, h2, rfl⟩ := h; exact ⟨_, _, _, _, means_reason i h1 h2⟩
  by_cases h1 : t = [45]
  · subst h1; exact ⟨_, _, _, _, means_none⟩
  by_cases h2 : ∃ b, t = boolT b
  · obtain ⟨b, rfl⟩ := h2; exact ⟨_, _, _, _, means_bool b⟩
  cases t with
  | nil => exact ⟨0, 0, ⟨#[]⟩, [], means_nil _ _ _ _⟩
  | cons c r =>
    by_cases c1 : c = 39
    · subst c1; exact ⟨_, _, _, _, means_text r⟩
    by_cases c2 : c = 35
    · subst c2; exact ⟨_, _, _, _, means_choice r⟩
    by_cases c3 : c = 123
    · subst c3; exact ⟨_, _, _, _, means_set r⟩
    by_cases c4 : c = 64
    · subst c4; exact ⟨_, _, _, _, means_day r⟩
    exact ⟨_, _, _, _, means_number _ h1 (fun i a b e => h ⟨i, a, b, e⟩) (fun b e => h2 ⟨b, e⟩) (by simpa using c1) (by simpa using c2) (by simpa using c3) (by simpa using c4)⟩
theorem text_inj {t : List UInt8} {k n k' n' : Int} {s s' : ByteArray} {l l' : List Int} (h : IsText t k n s l) (h' : IsText t k' n' s' l') : k' = k ∧ n' = n ∧ s' = s ∧ l' = l := by
  obtain ⟨a, b, c, d, hm⟩ := means_ex t
  obtain ⟨e1, e2, e3, e4⟩ := hm k n s l (good_of h.1) h.2
  obtain ⟨f1, f2, f3, f4⟩ := hm k' n' s' l' (good_of h'.1) h'.2
  exact ⟨f1.symm.trans e1, f2.symm.trans e2, f3.symm.trans e3, f4.symm.trans e4⟩
theorem showT_len {k n : Int} {s : ByteArray} {l : List Int} (h : Good k n s l) : (showT k n s l).length ≤ 10000 := by
  cases h with
  | none => simp [showT]
  | special n a b =>
    simp only [showT, if_true, reasonT]
    split
    · simp
    · split <;> simp
  | number n a b =>
    have h1 := frac_len (n.natAbs % 10000) (by omega)
    have h2 := dec_len (u := n.natAbs / 10000) (by omega)
    simp only [showT, show ¬ ((2 : Int) = 1) by omega, if_false, if_true, Txt.numT, Txt.magT]
    split <;> simp only [List.length_cons, List.length_append] <;> omega
  | text s a b =>
    have h1 := Txt.dbl_len s.data.toList
    rw [← Lib.size_eq] at h1
    simp [showT]; omega
  | choice n a b =>
    have h1 := code_len n (by omega) (by omega)
    simp [showT]; omega
  | choices l a b =>
    have h1 := join_le (l.map Txt.codeT) 100 (by
      intro x hx
      obtain ⟨n, hn, rfl⟩ := List.mem_map.1 hx
      obtain ⟨j, hj, e⟩ := List.getElem_of_mem hn
      have := b j hj
      simp only [List.getD_eq_getElem?_getD, List.getElem?_eq_getElem hj, Option.getD_some, e] at this
      have := code_len n (by omega) (by omega)
      omega)
    rw [List.length_map] at h1
    simp [showT, Txt.setT]; omega
  | day n a b =>
    obtain ⟨y, m, d, hd⟩ := has_date n a b
    have hb := Cal.dim_bd (y : Int) (m : Int)
    have hd' := hd
    obtain ⟨⟨v1, v2, v3, v4⟩, v5, v6, _⟩ := hd'
    have p1 := Txt.pad_len (k := 3) (u := y) (by omega)
    have p2 := Txt.pad_len (k := 1) (u := m) (by omega)
    have p3 := Txt.pad_len (k := 1) (u := d) (by omega)
    simp [showT, dayOf_eq hd, Txt.dayT, p1, p2, p3]
  | bool n a b =>
    simp [showT, boolT]
    split <;> simp

set_option maxHeartbeats 1000000 in
theorem same_eq (k n : Int) (s : ByteArray) (v v' : Value) (l : List Int) (w : World) (h : IsL w v l) (h' : IsL w v' l) :
    Calls Tryz.prog 9 #[.agg #[.int .i64 k, .int .i64 n, .string s, v], .agg #[.int .i64 k, .int .i64 n, .string s, v']] w fun e w' => e = .returned (.bool true) ∧ Below w.heap.size w w' := by
  have H := Lib.hid h; clear h
  have H' := Lib.hid h'; clear h'
  go_enter Tryz.func9, Tryz.ntmps9
  go_wp2_with fail
  refine (equal_self _ _ l _ ((H.out.alloc _).alloc _) ((H'.out.alloc _).alloc _)).mono ?_
  rintro e w' ⟨rfl, m, rfl⟩
  go_wp2
  go_ret
  exact ⟨rfl, below_drewN (((Below.refl _ _).alloc (Nat.le_refl _) _).alloc (by simp) _) m⟩

/-- Read finds the value of a text. -/
theorem Read_at (t : ByteArray) (k n : Int) (s : ByteArray) (l : List Int) (w : World) (hE : Env w) (hs : t.size ≤ 2000000) (h : IsText t.data.toList k n s l) :
    Calls Tryz.prog 7 #[.string t] w fun e w' => ∃ v, e = .returned (.tuple #[.agg #[.int .i64 k, .int .i64 n, .string s, v], .int .i64 0]) ∧ Hid (IsL w' v l) ∧ Hid (Below w.heap.size w w') :=
  (Read_c t w hE hs).mono fun e w' hp => by
    rcases hp with ⟨k', n', s', v, l', h', he, _, hI, hB⟩ | ⟨hN, _⟩
    · obtain ⟨rfl, rfl, rfl, rfl⟩ := text_inj h h'
      exact ⟨v, he, hI, hB⟩
    · exact absurd h (hN _ _ _ _)
theorem Read_not (t : ByteArray) (w : World) (hE : Env w) (hs : t.size ≤ 2000000) (h : ∀ k n s l, ¬ IsText t.data.toList k n s l) :
    Calls Tryz.prog 7 #[.string t] w fun e w' => e = .returned (.tuple #[kn 0 0, .int .i64 10]) ∧ Below w.heap.size w w' :=
  (Read_c t w hE hs).mono fun e w' hp => by
    rcases hp with ⟨k', n', s', v, l', h', _⟩ | ⟨_, he, hB⟩
    · exact absurd h' (h _ _ _ _)
    · exact ⟨he, hB⟩
/-- Show of a sound value. -/
theorem Show_at (k n : Int) (s : ByteArray) (v : Value) (l : List Int) (w : World) (hv : IsL w v l) (hE : Env w) (hz : s.size ≤ 9223372036854775807) (h : cChk k n s l = 0) :
    Calls Tryz.prog 5 #[.agg #[.int .i64 k, .int .i64 n, .string s, v]] w fun e w' => e = .returned (.tuple #[.string (bs (showT k n s l)), .int .i64 0]) ∧ Below w.heap.size w w' :=
  (Show_c k n s v l w hv hE hz).mono fun e w' ⟨t, he, _, ht, _, hB⟩ => ⟨by rw [he, ht.out h, h], hB.out⟩

set_option maxHeartbeats 4000000 in
theorem law_back (k n : Int) (s : ByteArray) (v : Value) (l : List Int) (t : ByteArray) (w : World) (hv : IsL w v l) (hE : Env w) (hz : s.size ≤ 9223372036854775807) (hs : t.size ≤ 2000000) :
    Calls Tryz.prog 4 #[.agg #[.int .i64 k, .int .i64 n, .string s, v], .string t] w fun e w' => e = .returned (.bool true) ∧ Below w.heap.size w w' := by
  have HE := Lib.hid hE; clear hE
  have HV := Lib.hid hv
  obtain ⟨a, m, c, rfl⟩ := hv.form
  clear hv
  have HB0 := Lib.hid (box_bel w (.cells #[.int .i64 k, .int .i64 n, .string s, .slice a m c] 24))
  by_cases h0 : cChk k n s l = 0
  · have hS := Lib.hid (fun w (hv : IsL w (.slice a m c) l) (hE : Env w) => Show_at k n s _ l w hv hE hz h0)
    have hl := showT_len (good_of h0)
    obtain ⟨T, hT⟩ : ∃ T, T = bs (showT k n s l) := ⟨_, rfl⟩
    have hTs : T.size ≤ 2000000 := by rw [hT, bs_size]; omega
    have hTt : Hid (IsText T.data.toList k n s l) := ⟨h0, by rw [hT, bs_list]⟩
    rw [← hT] at hS
    have hR := Lib.hid (fun w (hE : Env w) => Read_at T k n s l w hE hTs hTt.out)
    clear hT hTt h0 hl
    go_enter Tryz.func4, Tryz.ntmps4
    go_wp2_with fail
    refine (hS.out _ (HV.out.alloc _) (HE.out.alloc _)).mono ?_
    rintro e w1 ⟨rfl, hB⟩
    have B1 := Lib.hid (HB0.out.trans (hB.mono (by simp)))
    have C1 := Lib.hid hB; clear hB
    go_wp2_with fail
    refine (hR.out _ (HE.out.below B1.out)).mono ?_
    rintro e w2 ⟨v2, rfl, hI2, hB⟩
    obtain ⟨a2, m2, c2, rfl⟩ := hI2.out.form
    have hC := C1.out.trans (hB.out.mono C1.out.size)
    have C2 := Lib.hid hC
    have hb2 := hB.out.size
    have hb1 := C1.out.size
    obtain ⟨bc, bf⟩ := bcell hC
    have B2 := Lib.hid (B1.out.trans (hB.out.mono B1.out.size))
    have hz2 : w.heap.size < w2.heap.size := by simp at hb1; omega
    clear hC hB hb1 hb2
    go_wp2_with fail
    refine (same_eq k n s _ _ l _ (hI2.out.alloc _) (((HV.out.alloc _).below C2.out).alloc _)).mono ?_
    rintro e w3 ⟨rfl, hB⟩
    have B3 := Lib.hid (B2.out.trans ((box_bel _ _).trans (hB.mono (by simp)) |>.mono B2.out.size))
    clear hB bc bf hz2
    by_cases hx : ∃ k n s l, IsText t.data.toList k n s l
    · obtain ⟨k', n', s', l', hx⟩ := hx
      have hR2 := Lib.hid (fun w (hE : Env w) => Read_at t k' n' s' l' w hE hs hx)
      have hg := good_of hx.1
      have hzz : s'.size ≤ 9223372036854775807 := by
        cases hg <;> first | omega | simp [ByteArray.size]
      have hS2 := Lib.hid (fun w v (hv : IsL w v l') (hE : Env w) => Show_at k' n' s' v l' w hv hE hzz hx.1)
      have eT : bs (showT k' n' s' l') = t := by rw [hx.2, bs_of]
      rw [eT] at hS2
      clear hg hzz eT hx
      go_wp2_with fail
      refine (hR2.out _ (HE.out.below B3.out)).mono ?_
      rintro e w4 ⟨v4, rfl, hI4, hB⟩
      obtain ⟨a4, m4, c4, rfl⟩ := hI4.out.form
      have B4 := Lib.hid (B3.out.trans (hB.out.mono B3.out.size))
      clear hB
      go_wp2_with fail
      refine (hS2.out _ _ (hI4.out.alloc _) ((HE.out.below B4.out).alloc _)).mono ?_
      rintro e w5 ⟨rfl, hB⟩
      have B5 := Lib.hid (B4.out.trans ((box_bel _ _).trans (hB.mono (by simp)) |>.mono B4.out.size))
      clear hB
      go_wp2
      go_ret
      exact ⟨ret_bool (by simp), B5.out⟩
    · have hR2 := Lib.hid (fun w (hE : Env w) => Read_not t w hE hs (fun k n s l h => hx ⟨k, n, s, l, h⟩))
      clear hx
      go_wp2_with fail
      refine (hR2.out _ (HE.out.below B3.out)).mono ?_
      rintro e w4 ⟨rfl, hB⟩
      have B4 := Lib.hid (B3.out.trans (hB.mono B3.out.size))
      clear hB
      go_wp2
      go_ret
      exact ⟨rfl, B4.out.alloc B4.out.size _⟩
  · obtain ⟨f, hf⟩ : ∃ f, f = cChk k n s l := ⟨_, rfl⟩
    have hS := Lib.hid (fun w (hv : IsL w (.slice a m c) l) (hE : Env w) => Show_c k n s _ l w hv hE hz)
    have f1 : (f == 0) = false := by rw [beq_eq_false_iff_ne, hf]; exact h0
    have HF := Lib.hid hf
    clear h0 hf
    go_enter Tryz.func4, Tryz.ntmps4
    go_wp2_with fail
    refine (hS.out _ (HV.out.alloc _) (HE.out.alloc _)).mono ?_
    rintro e w3 ⟨o, rfl, _, _, _, hB⟩
    have B3 := Lib.hid (HB0.out.trans (hB.out.mono (by simp)))
    clear hB
    rw [← HF.out]
    by_cases hx : ∃ k n s l, IsText t.data.toList k n s l
    · obtain ⟨k', n', s', l', hx⟩ := hx
      have hR2 := Lib.hid (fun w (hE : Env w) => Read_at t k' n' s' l' w hE hs hx)
      have hg := good_of hx.1
      have hzz : s'.size ≤ 9223372036854775807 := by
        cases hg <;> first | omega | simp [ByteArray.size]
      have hS2 := Lib.hid (fun w v (hv : IsL w v l') (hE : Env w) => Show_at k' n' s' v l' w hv hE hzz hx.1)
      have eT : bs (showT k' n' s' l') = t := by rw [hx.2, bs_of]
      rw [eT] at hS2
      clear hg hzz eT hx
      go_wp2_with fail
      refine (hR2.out _ (HE.out.below B3.out)).mono ?_
      rintro e w4 ⟨v4, rfl, hI4, hB⟩
      obtain ⟨a4, m4, c4, rfl⟩ := hI4.out.form
      have B4 := Lib.hid (B3.out.trans (hB.out.mono B3.out.size))
      clear hB
      go_wp2_with fail
      refine (hS2.out _ _ (hI4.out.alloc _) ((HE.out.below B4.out).alloc _)).mono ?_
      rintro e w5 ⟨rfl, hB⟩
      have B5 := Lib.hid (B4.out.trans ((box_bel _ _).trans (hB.mono (by simp)) |>.mono B4.out.size))
      clear hB
      go_wp2
      go_ret
      exact ⟨ret_bool (by simp), B5.out⟩
    · have hR2 := Lib.hid (fun w (hE : Env w) => Read_not t w hE hs (fun k n s l h => hx ⟨k, n, s, l, h⟩))
      clear hx
      go_wp2_with fail
      refine (hR2.out _ (HE.out.below B3.out)).mono ?_
      rintro e w4 ⟨rfl, hB⟩
      have B4 := Lib.hid (B3.out.trans (hB.mono B3.out.size))
      clear hB
      go_wp2
      go_ret
      exact ⟨rfl, B4.out.alloc B4.out.size _⟩
end Go.Proofs.YtcohkmpjendhnaaGreatDoor
