/-
  Ratios in the reference: which texts they are.
  Ratios in the reference: CheckRatio.
  Ratios of package value: CheckRatio.
  The reference's exact fractions: a number times a limb, and divided by one.
-/
import Derived.Test.YtchdfekajjeflaaGreatDoorM14
import Derived.Test.YtchdfekajjeflaaGreatDoorM10
import Derived.Test.YtchdfekajjeflaaGreatDoorM13
namespace Go.Proofs.YtchdfekajjeflaaGreatDoor
open Go.RowKit

theorem trim_cases (l : List UInt8) : (∃ r, l = 45 :: r ∧ Lib.trimPrefix l [45] = r ∧ Lib.hasPrefix l [45] = true) ∨ (Lib.trimPrefix l [45] = l ∧ Lib.hasPrefix l [45] = false ∧ ∀ r, l ≠ 45 :: r) := by
  cases l with
  | nil => exact .inr ⟨rfl, rfl, fun r h => by cases h⟩
  | cons c r =>
    by_cases h : c = 45
    · subst h
      exact .inl ⟨r, rfl, trim_minus r, by simp [Lib.hasPrefix]⟩
    · have h' : ¬ (45 : UInt8) = c := fun e => h e.symm
      have e : Lib.hasPrefix (c :: r) [45] = false := by simp [Lib.hasPrefix, List.isPrefixOf, h, h']
      exact .inr ⟨trim_plain (fun e => h (UInt8.toNat_inj.1 (by rw [e]; rfl))), e, fun q e => h (by injection e)⟩
theorem numB_iff {l : List UInt8} : numB l = true ↔ l ≠ [] ∧ ¬ (l.head? = some 48 ∧ 1 < l.length) ∧ digs l = true := by unfold numB; exact decide_eq_true_iff
theorem zread_num {l : List UInt8} (h : numB (Lib.trimPrefix l [45]) = true) (h2 : l ≠ [45, 48]) : zread l = some (zv (Lib.hasPrefix l [45]) (val (Lib.trimPrefix l [45]))) := by
  obtain ⟨g1, g2, g3⟩ := numB_iff.1 h
  unfold zread
  rcases trim_cases l with ⟨r, e1, e2, e3⟩ | ⟨e2, e3, _⟩
  · rw [e2] at g1 g2 g3 ⊢
    rw [e3]
    have hlen : decide (r.length < l.length) = true := by rw [e1]; simp
    simp only [hlen]
    rw [if_neg]
    · rfl
    · rintro (k | ⟨k1, _⟩ | k)
      · exact g1 k
      · cases r with
        | nil => exact g1 rfl
        | cons c q =>
          have hc : c = 48 := by simpa using k1
          have hq : q = [] := Classical.byContradiction fun hq => g2 ⟨k1, by
            rw [List.length_cons]
            have := List.length_pos_iff.2 hq
            omega⟩
          rw [hc, hq] at e1
          exact h2 e1
      · rw [g3] at k; cases k
  · rw [e2] at g1 g2 g3 ⊢
    rw [e3]
    have hlen : decide (l.length < l.length) = false := by simp
    simp only [hlen]
    rw [if_neg]
    · rfl
    · rintro (k | ⟨k1, k2 | k2⟩ | k)
      · exact g1 k
      · cases k2
      · exact g2 ⟨k1, k2⟩
      · rw [g3] at k; cases k
theorem zread_no {l : List UInt8} (h : numB (Lib.trimPrefix l [45]) = false ∨ l = [45, 48]) : zread l = none := by
  unfold zread
  rcases h with h | h
  · refine if_pos ?_
    have h' : ¬ (numB (Lib.trimPrefix l [45]) = true) := by rw [h]; decide
    rw [numB_iff] at h'
    by_cases k1 : Lib.trimPrefix l [45] = []
    · exact .inl k1
    · by_cases k3 : digs (Lib.trimPrefix l [45]) = false
      · exact .inr (.inr k3)
      · by_cases k2 : (Lib.trimPrefix l [45]).head? = some 48 ∧ 1 < (Lib.trimPrefix l [45]).length
        · exact .inr (.inl ⟨k2.1, .inr k2.2⟩)
        · exact absurd ⟨k1, k2, by simpa using k3⟩ h'
  · subst h
    rfl
theorem val_pos {l : List UInt8} (h : numB l = true) (h2 : l ≠ [48]) : 0 < val l := by
  obtain ⟨g1, g2, g3⟩ := numB_iff.1 h
  cases l with
  | nil => exact absurd rfl g1
  | cons c r =>
    have hx : isDig c = true ∧ digs r = true := by simpa [digs] using g3
    have hd := isDig_iff.1 hx.1
    have hc : c.toNat ≠ 48 := by
      intro e
      have hc : c = 48 := toNat48.2 e
      have hr : r = [] := Classical.byContradiction fun hq => g2 ⟨by rw [hc]; rfl, by
        rw [List.length_cons]
        have := List.length_pos_iff.2 hq
        omega⟩
      exact h2 (by rw [hc, hr])
    have e : val (c :: r) = (c.toNat - 48) * 10 ^ r.length + val r := by
      have := val_append [c] r
      simpa [val] using this
    rw [e]
    have : 1 * 10 ^ r.length ≤ (c.toNat - 48) * 10 ^ r.length := Nat.mul_le_mul_right _ (by omega)
    have hp : 0 < 10 ^ r.length := Nat.pow_pos (by decide)
    omega
theorem trim_num {l : List UInt8} (h : numB l = true) : Lib.trimPrefix l [45] = l ∧ Lib.hasPrefix l [45] = false := by
  rcases trim_cases l with ⟨r, e1, _⟩ | ⟨e2, e3, _⟩
  · exfalso
    obtain ⟨_, _, g3⟩ := numB_iff.1 h
    rw [e1] at g3
    simp [digs, isDig] at g3
  · exact ⟨e2, e3⟩
/-- The texts of a ratio are sound numbers. -/
def sound (n d : List UInt8) : Bool := numB (Lib.trimPrefix n [45]) && !decide (n = [45, 48]) && numB d && !decide (d = [48])
theorem rread_yes {n d : List UInt8} (hl : large n d = false) (h : sound n d = true) :
    rread n d = if Nat.gcd (val (Lib.trimPrefix n [45])) (val d) = 1 then some (zv (Lib.hasPrefix n [45]) (val (Lib.trimPrefix n [45])), (val d : Int)) else none := by
  unfold sound at h
  simp only [Bool.and_eq_true, Bool.not_eq_true', decide_eq_false_iff_not] at h
  obtain ⟨⟨⟨h1, h2⟩, h3⟩, h4⟩ := h
  obtain ⟨t1, t2⟩ := trim_num h3
  have z2 : zread d = some (val d : Int) := by
    have := zread_num (l := d) (by rw [t1]; exact h3) (fun e => by rw [e] at h3; revert h3; decide)
    rw [t1, t2] at this
    exact this
  have hp := val_pos h3 h4
  unfold rread
  rw [if_neg (by rw [hl]; decide), zread_num h1 h2, z2]
  show (if (0 : Int) < (val d : Int) ∧ Int.gcd (zv _ _) (val d : Int) = 1 then _ else _) = _
  have e : Int.gcd (zv (Lib.hasPrefix n [45]) (val (Lib.trimPrefix n [45]))) (val d : Int) = Nat.gcd (val (Lib.trimPrefix n [45])) (val d) := by
    unfold Int.gcd; rw [zv_abs, Int.natAbs_natCast]
  rw [e]
  by_cases hg : Nat.gcd (val (Lib.trimPrefix n [45])) (val d) = 1
  · rw [if_pos hg, if_pos ⟨by omega, hg⟩]
  · rw [if_neg hg, if_neg (fun q => hg q.2)]
theorem rread_no {n d : List UInt8} (h : sound n d = false) : rread n d = none := by
  unfold rread
  split
  · rfl
  · unfold sound at h
    by_cases h1 : numB (Lib.trimPrefix n [45]) = true ∧ n ≠ [45, 48]
    · rw [zread_num h1.1 h1.2]
      by_cases h3 : numB d = true
      · have h4 : d = [48] := Classical.byContradiction fun h4 => by
          rw [h1.1, h3] at h
          simp [h1.2, h4] at h
        subst h4
        rfl
      · rcases trim_cases d with ⟨r, e1, e2, e3⟩ | ⟨e2, e3, _⟩
        · by_cases h5 : numB (Lib.trimPrefix d [45]) = true ∧ d ≠ [45, 48]
          · rw [zread_num h5.1 h5.2, e3]
            exact if_neg (fun q => by have h9 := q.1; rw [zv_true] at h9; omega)
          · rw [zread_no (l := d) (by
              by_cases h6 : d = [45, 48]
              · exact .inr h6
              · exact .inl (by
                  cases hb : numB (Lib.trimPrefix d [45]) with
                  | false => rfl
                  | true => exact absurd ⟨hb, h6⟩ h5))]
        · rw [zread_no (l := d) (.inl (by rw [e2]; simpa using h3))]
    · rw [zread_no (l := n) (by
        by_cases h6 : n = [45, 48]
        · exact .inr h6
        · exact .inl (by
            cases hb : numB (Lib.trimPrefix n [45]) with
            | false => rfl
            | true => exact absurd ⟨hb, h6⟩ h1))]
theorem dec_one {g : Nat} : Lib.decDigits g = [49] ↔ g = 1 := by
  constructor
  · intro h
    have := val_dec g
    rw [h] at this
    exact this.symm
  · intro h
    subst h
    exact Lib.decDigits_one (by decide)
/-- CheckRatio's answer. -/
def ck (n d : List UInt8) : Int := if (rread n d).isSome = true then 0 else rflt n d
theorem ck_large {n d : List UInt8} (h : large n d = true) : ck n d = 2 := by
  unfold ck rread rflt
  rw [if_pos h, if_pos h]
  rfl
theorem ck_no {n d : List UInt8} (hl : large n d = false) (h : sound n d = false) : ck n d = 3 := by
  unfold ck rflt
  rw [rread_no h, if_neg (show ¬ (none : Option (Int × Int)).isSome = true by decide), if_neg (show ¬ large n d = true by rw [hl]; decide)]
theorem ck_yes {n d : List UInt8} (hl : large n d = false) (h : sound n d = true) : ck n d = if Nat.gcd (val (Lib.trimPrefix n [45])) (val d) = 1 then 0 else 3 := by
  unfold ck rflt
  rw [rread_yes hl h, if_neg (show ¬ large n d = true by rw [hl]; decide)]
  split <;> rfl
end Go.Proofs.YtchdfekajjeflaaGreatDoor
namespace Go.Proofs.YtchdfekajjeflaaGreatDoor
open Go.RowKit

/-- The box of the argument. -/
def S2 (g : Nat) (s t : ByteArray) (W : World) : Prop := W.cell? ⟨g, 0, none⟩ = some (.string s) ∧ W.cell? ⟨g, 1, none⟩ = some (.string t)
structure Cb (w : World) (s t : ByteArray) (W : World) : Prop where
  x : B2 W w.heap.size (.string s) (.string t)
  bel : Below w.heap.size w W
  pow : Pow W
theorem Cb.keep {w : World} {s t : ByteArray} {W W' : World} (h : Cb w s t W) (hb : Below W.heap.size W W') : Cb w s t W' :=
  ⟨h.x.keep hb, h.bel.trans (hb.mono h.bel.size), h.pow.below hb⟩
theorem Cb.s2 {w : World} {s t : ByteArray} {W : World} (h : Cb w s t W) : S2 w.heap.size s t W := ⟨h.x.c0, h.x.c1⟩
def CkPost (n d : List UInt8) (w : World) (e : Ending) (w' : World) : Prop := e = .returned (.int .i64 (ck n d)) ∧ Below w.heap.size w w'
theorem val_tp {l : List UInt8} (h : digs l = true) (hl : l.length ≤ 2000) : val l < tp 223 := by
  have h1 := val_lt h
  have h2 : l.length ≤ 9 * 223 := by omega
  rw [tp_ten]
  generalize 9 * 223 = m at h2 ⊢
  exact Nat.lt_of_lt_of_le h1 (Nat.pow_le_pow_right (by decide) h2)
set_option maxRecDepth 100000 in
set_option maxHeartbeats 4000000 in
theorem rCheckRatio_c (s t : ByteArray) (w : World) (hE : Pow w) :
    Calls Tryz.prog 27 #[.agg #[.string s, .string t]] w (CkPost s.data.toList t.data.toList w) := by
  obtain ⟨u, hu⟩ : ∃ u : ByteArray, u = ⟨(Lib.trimPrefix s.data.toList [45]).toArray⟩ := ⟨_, rfl⟩
  have hul : u.data.toList = Lib.trimPrefix s.data.toList [45] := by rw [hu]
  have hus : u.size = (Lib.trimPrefix s.data.toList [45]).length := by rw [hu]; simp [ByteArray.size]
  have hts : t.size = t.data.toList.length := by simp
  have HTP : Hid (∀ w, Calls Tryz.prog 20 #[.string s, .string ⟨#[45]⟩] w fun e w' => e = .returned (.string u) ∧ w = w') := fun w => (Tryz.strings_TrimPrefix s ⟨#[45]⟩ w).mono fun e w' ⟨he, hw⟩ => ⟨by rw [he, hu], hw.symm⟩
  have HLG : Hid (large s.data.toList t.data.toList = (decide (2000 < u.size) || decide (2000 < t.size))) := by unfold Hid large; rw [hus, hts]
  have HUL := Lib.hid hul
  clear hu hus hts hul
  obtain ⟨W0, hW0⟩ : ∃ W0, w.alloc (.cells #[.string s, .string t] 29) = W0 := ⟨_, rfl⟩
  have J0 : Hid (Cb w s t W0) := by rw [← hW0]; exact ⟨B2.made w _ _ _, bel_one _ _, hE.below (bel_one _ _)⟩
  have x0 := J0.out.x.c0
  have x1 := J0.out.x.c1
  clear hE
  by_cases hl : large s.data.toList t.data.toList = true
  · have RS : Hid (ck s.data.toList t.data.toList = 2) := ck_large hl
    have hl2 : 2000 < u.size ∨ (¬ 2000 < u.size ∧ 2000 < t.size) := by
      rw [HLG.out] at hl
      simp at hl
      omega
    clear HLG hl
    rcases hl2 with h | ⟨h, h'⟩
    · have hi : (2000 : Int) < (u.size : Int) := by omega
      go_enter Tryz.func27, Tryz.ntmps27
      go_wp2_with (go_at_call 20; refine (HTP.out _).mono ?_; rintro e w' ⟨rfl, rfl⟩)
      go_ret
      exact ⟨by rw [RS.out]; rfl, J0.out.bel⟩
    · have hi : ¬ (2000 : Int) < (u.size : Int) := by omega
      have hi' : (2000 : Int) < (t.size : Int) := by omega
      go_enter Tryz.func27, Tryz.ntmps27
      go_wp2_with (go_at_call 20; refine (HTP.out _).mono ?_; rintro e w' ⟨rfl, rfl⟩)
      go_ret
      exact ⟨by rw [RS.out]; rfl, J0.out.bel⟩
  · have hlf : large s.data.toList t.data.toList = false := by simpa using hl
    have hu2 : ¬ 2000 < u.size ∧ ¬ 2000 < t.size := by rw [HLG.out] at hlf; simp at hlf; omega
    obtain ⟨hu1, ht1⟩ := hu2
    have hi1 : ¬ (2000 : Int) < (u.size : Int) := by omega
    have hi2 : ¬ (2000 : Int) < (t.size : Int) := by omega
    have HNU := Lib.hid (fun w => number_c u w (by omega))
    have HNT := Lib.hid (fun w => number_c t w (by omega))
    rw [HUL.out] at HNU
    have HSZ : Hid (u.size ≤ 2000 ∧ t.size ≤ 2000) := ⟨by omega, by omega⟩
    have HCN : Hid (sound s.data.toList t.data.toList = false → ck s.data.toList t.data.toList = 3) := fun h => ck_no hlf h
    have HCY : Hid (sound s.data.toList t.data.toList = true → (Nat.gcd (val (Lib.trimPrefix s.data.toList [45])) (val t.data.toList) = 1 → ck s.data.toList t.data.toList = 0) ∧ (Nat.gcd (val (Lib.trimPrefix s.data.toList [45])) (val t.data.toList) ≠ 1 → ck s.data.toList t.data.toList = 3)) := fun h => ⟨fun q => by rw [ck_yes hlf h, if_pos q], fun q => by rw [ck_yes hlf h, if_neg q]⟩
    have hs45 : ∀ b, decide (s.data.toList = [45, 48]) = b → (s.toList == [45, 48]) = b ∧ (b = true → s.toList = [45, 48]) ∧ (b = false → ¬ s.toList = [45, 48]) := by
      intro b hb
      rw [Lib.toList_data]
      subst hb
      refine ⟨by by_cases h : s.data.toList = [45, 48] <;> simp [h], fun h => by simpa using h, fun h => by simpa using h⟩
    have ht48 : ∀ b, decide (t.data.toList = [48]) = b → (t.toList == [48]) = b ∧ (b = true → t.toList = [48]) ∧ (b = false → ¬ t.toList = [48]) := by
      intro b hb
      rw [Lib.toList_data]
      subst hb
      refine ⟨by by_cases h : t.data.toList = [48] <;> simp [h], fun h => by simpa using h, fun h => by simpa using h⟩
    clear hl hlf HLG hu1 ht1
    cases h1 : numB (Lib.trimPrefix s.data.toList [45]) with
    | false =>
      rw [h1] at HNU
      have RS : Hid (ck s.data.toList t.data.toList = 3) := HCN.out (by unfold sound; rw [h1]; rfl)
      clear HCN HCY h1 hs45 ht48
      go_enter Tryz.func27, Tryz.ntmps27
      go_wp2_with (go_at_call 20; refine (HTP.out _).mono ?_; rintro e w' ⟨rfl, rfl⟩)
      (with_reducible refine (HNU.out _).mono ?_)
      rintro e w' ⟨rfl, rfl⟩
      go_wp2_with fail
      go_ret
      exact ⟨by rw [RS.out]; rfl, J0.out.bel⟩
    | true =>
      rw [h1] at HNU
      cases h2 : decide (s.data.toList = [45, 48]) with
      | true =>
        obtain ⟨z1, z2, _⟩ := hs45 _ h2
        have z2 := z2 rfl
        have RS : Hid (ck s.data.toList t.data.toList = 3) := HCN.out (by unfold sound; rw [h1, h2]; rfl)
        clear HCN HCY h1 h2 hs45 ht48
        go_enter Tryz.func27, Tryz.ntmps27
        go_wp2_with (go_at_call 20; refine (HTP.out _).mono ?_; rintro e w' ⟨rfl, rfl⟩)
        (with_reducible refine (HNU.out _).mono ?_)
        rintro e w' ⟨rfl, rfl⟩
        go_wp2_with fail
        go_ret
        exact ⟨by rw [RS.out]; rfl, J0.out.bel⟩
      | false =>
        obtain ⟨z1, _, z2⟩ := hs45 _ h2
        have z2 := z2 rfl
        cases h3 : numB t.data.toList with
        | false =>
          rw [h3] at HNT
          have RS : Hid (ck s.data.toList t.data.toList = 3) := HCN.out (by unfold sound; rw [h1, h2, h3]; rfl)
          clear HCN HCY h1 h2 h3 hs45 ht48
          go_enter Tryz.func27, Tryz.ntmps27
          go_wp2_with (go_at_call 20; refine (HTP.out _).mono ?_; rintro e w' ⟨rfl, rfl⟩)
          (with_reducible refine (HNU.out _).mono ?_)
          rintro e w' ⟨rfl, rfl⟩
          go_wp2_with fail
          (with_reducible refine (HNT.out _).mono ?_)
          rintro e w' ⟨rfl, rfl⟩
          go_wp2_with fail
          go_ret
          exact ⟨by rw [RS.out]; rfl, J0.out.bel⟩
        | true =>
          rw [h3] at HNT
          cases h4 : decide (t.data.toList = [48]) with
          | true =>
            obtain ⟨y1, y2, _⟩ := ht48 _ h4
            have y2 := y2 rfl
            have RS : Hid (ck s.data.toList t.data.toList = 3) := HCN.out (by unfold sound; rw [h1, h2, h3, h4]; rfl)
            clear HCN HCY h1 h2 h3 h4 hs45 ht48
            go_enter Tryz.func27, Tryz.ntmps27
            go_wp2_with (go_at_call 20; refine (HTP.out _).mono ?_; rintro e w' ⟨rfl, rfl⟩)
            (with_reducible refine (HNU.out _).mono ?_)
            rintro e w' ⟨rfl, rfl⟩
            go_wp2_with fail
            (with_reducible refine (HNT.out _).mono ?_)
            rintro e w' ⟨rfl, rfl⟩
            go_wp2_with fail
            go_ret
            exact ⟨by rw [RS.out]; rfl, J0.out.bel⟩
          | false =>
            obtain ⟨y1, _, y2⟩ := ht48 _ h4
            have y2 := y2 rfl
            have HSO := Lib.hid (HCY.out (by unfold sound; rw [h1, h2, h3, h4]; rfl))
            have RU := Lib.hid (fun w => readNatural_c u w (by rw [HUL.out]; exact (numB_iff.1 h1).2.2) (by have := HSZ.out; omega))
            have RT := Lib.hid (fun w => readNatural_c t w (numB_iff.1 h3).2.2 (by have := HSZ.out; omega))
            have BU : Hid (val u.data.toList < tp 223) := val_tp (by rw [HUL.out]; exact (numB_iff.1 h1).2.2) (by have := HSZ.out; simp; omega)
            have BT : Hid (val t.data.toList < tp 223) := val_tp (numB_iff.1 h3).2.2 (by have := HSZ.out; simp; omega)
            rw [← HUL.out] at HSO
            clear HCN HCY h1 h2 h3 h4 hs45 ht48
            generalize val u.data.toList = p at *
            generalize val t.data.toList = d at *
            obtain ⟨g, hg⟩ : ∃ g, Nat.gcd p d = g := ⟨_, rfl⟩
            rw [hg] at HSO
            have HG := Lib.hid hg
            clear hg
            go_enter Tryz.func27, Tryz.ntmps27
            go_wp2_with (go_at_call 20; refine (HTP.out _).mono ?_; rintro e w' ⟨rfl, rfl⟩)
            (with_reducible refine (HNU.out _).mono ?_)
            rintro e w' ⟨rfl, rfl⟩
            go_wp2_with fail
            (with_reducible refine (HNT.out _).mono ?_)
            rintro e w' ⟨rfl, rfl⟩
            go_wp2_with fail
            clear x0 x1 hW0
            refine wp_region_noPanic ?_
            refine wp_region_held_drew (S := S2 w.heap.size s t) (by kernel_rfl) (J0.out.keep (Below.refl _ _).drew).s2 (fun hS => ?_)
            have J1 := Lib.hid (J0.out.keep (Below.refl _ _).drew)
            refine wpAnyH_take (i := 0) (v := ?v0z29) rfl (by kernel_rfl) (by kernel_rfl) (by kernel_rfl) (fun _ _ _ h => h) (Or.inl ⟨by rfl, ?hy0z29⟩) (by assumption) ?rest0z29
            case hy0z29 =>
              intro w hSw
              dsimp only [S2] at hSw
              go_simp
              try with_reducible rfl
            simp only [Act.put, List.getElem_toArray, List.getElem_cons_succ, List.getElem_cons_zero, List.setIfInBounds_toArray, List.set_cons_zero, List.set_cons_succ]
            refine wpAnyH_take (i := 2) (v := ?v2z30) rfl (by kernel_rfl) (by kernel_rfl) (by kernel_rfl) (fun _ _ _ h => h) (Or.inl ⟨by rfl, ?hy2z30⟩) (by assumption) ?rest2z30
            case hy2z30 =>
              intro w hSw
              dsimp only [S2] at hSw
              go_simp
              try with_reducible rfl
            simp only [Act.put, List.getElem_toArray, List.getElem_cons_succ, List.getElem_cons_zero, List.setIfInBounds_toArray, List.set_cons_zero, List.set_cons_succ]
            refine wpAnyH_take (i := 3) (v := ?v3z31) rfl (by kernel_rfl) (by kernel_rfl) (by kernel_rfl) (fun _ _ _ h => h) (Or.inl ⟨by rfl, ?hy3z31⟩) (by assumption) ?rest3z31
            case hy3z31 =>
              intro w hSw
              dsimp only [S2] at hSw
              go_simp
              try with_reducible rfl
            simp only [Act.put, List.getElem_toArray, List.getElem_cons_succ, List.getElem_cons_zero, List.setIfInBounds_toArray, List.set_cons_zero, List.set_cons_succ]
            refine wpAnyH_ready (rs := [1]) (by kernel_rfl) (by simp) ?_
            refine AllReadyH.cons rfl (fun K hK => ?_) AllReadyH.nil
            go_simp
            refine (RU.out _).mono ?_
            rintro e W2 ⟨pa, pk, pc, rfl, hp, bc⟩
            try go_simp
            have J2 := Lib.hid (J1.out.keep bc)
            have hT := J2.out.s2
            have HP := Lib.hid hp
            refine hK.out _ _ hT (fun _ => ?_)
            clear hK K hS bc J1 hp
            have hS := hT
            clear hT
            try simp only [Act.put, List.setIfInBounds_toArray, List.set_cons_zero, List.set_cons_succ]
            refine wpAnyH_ready (rs := [4]) (by kernel_rfl) (by simp) ?_
            refine AllReadyH.cons rfl (fun K hK => ?_) AllReadyH.nil
            go_simp
            refine (RT.out _).mono ?_
            rintro e W3 ⟨da, dk, dc, rfl, hd, bc⟩
            try go_simp
            have J3 := Lib.hid (J2.out.keep bc)
            have hT := J3.out.s2
            have HP3 := Lib.hid (HP.out.below bc)
            have HD := Lib.hid hd
            refine hK.out _ _ hT (fun _ => ?_)
            clear hK K hS bc J2 hd HP
            have hS := hT
            clear hT
            try simp only [Act.put, List.setIfInBounds_toArray, List.set_cons_zero, List.set_cons_succ]
            have HC := Lib.hid (ncommon_c pa da pk dk pc dc p d W3 HP3.out HD.out (by have := HP3.out.len BU.out; omega) (by have := HD.out.len BT.out; omega))
            rw [HG.out] at HC
            refine wpAnyH_ready (rs := [5]) (by kernel_rfl) (by simp) ?_
            refine AllReadyH.cons rfl (fun K hK => ?_) AllReadyH.nil
            go_simp
            refine (HC.out).mono ?_
            rintro e W4 ⟨ga, gk, gc, rfl, hg, bc⟩
            try go_simp
            have J4 := Lib.hid (J3.out.keep bc)
            have hT := J4.out.s2
            have HGG := Lib.hid hg
            refine hK.out _ _ hT (fun _ => ?_)
            clear hK K hS bc J3 hg HC HP3 HD
            have hS := hT
            clear hT
            try simp only [Act.put, List.setIfInBounds_toArray, List.set_cons_zero, List.set_cons_succ]
            have HX := Lib.hid (rtext_c ga gk gc g W4 HGG.out J4.out.pow)
            refine wpAnyH_ready (rs := [6]) (by kernel_rfl) (by simp) ?_
            refine AllReadyH.cons rfl (fun K hK => ?_) AllReadyH.nil
            go_simp
            refine (HX.out).mono ?_
            rintro e W5 ⟨rfl, bc⟩
            try go_simp
            have J5 := Lib.hid (J4.out.keep bc)
            have hT := J5.out.s2
            refine hK.out _ _ hT (fun _ => ?_)
            clear hK K hS bc J4 HX HGG
            have hS := hT
            clear hT
            try simp only [Act.put, List.setIfInBounds_toArray, List.set_cons_zero, List.set_cons_succ]
            by_cases hg1 : g = 1
            · have hq : ((decB g).toList == [49]) = true := by rw [Lib.toList_data, decB_list]; simp [dec_one, hg1]
              have hq' : (decB g).toList = [49] := by rw [Lib.toList_data, decB_list]; simp [dec_one, hg1]
              have RS : Hid (ck s.data.toList t.data.toList = 0) := HSO.out.1 hg1
              clear hg1
              refine wpAnyH_take (i := 7) (v := ?v7z32) rfl (by kernel_rfl) (by kernel_rfl) (by kernel_rfl) (fun _ _ _ h => h) (Or.inl ⟨by rfl, ?hy7z32⟩) (by assumption) ?rest7z32
              case hy7z32 =>
                intro w hSw
                dsimp only [S2] at hSw
                go_simp
                try with_reducible rfl
              simp only [Act.put, List.getElem_toArray, List.getElem_cons_succ, List.getElem_cons_zero, List.setIfInBounds_toArray, List.set_cons_zero, List.set_cons_succ]
              refine wpAnyH_done (by kernel_rfl) ?_ _
              refine NoPanic.normal ?_
              go_wp2_with fail
              go_ret
              exact ⟨by rw [RS.out]; rfl, J5.out.bel⟩
            · have hq : ((decB g).toList == [49]) = false := by rw [Lib.toList_data, decB_list]; simp [dec_one, hg1]
              have hq' : ¬ (decB g).toList = [49] := by rw [Lib.toList_data, decB_list]; simp [dec_one, hg1]
              have RS : Hid (ck s.data.toList t.data.toList = 3) := HSO.out.2 hg1
              clear hg1
              refine wpAnyH_take (i := 7) (v := ?v7z33) rfl (by kernel_rfl) (by kernel_rfl) (by kernel_rfl) (fun _ _ _ h => h) (Or.inl ⟨by rfl, ?hy7z33⟩) (by assumption) ?rest7z33
              case hy7z33 =>
                intro w hSw
                dsimp only [S2] at hSw
                go_simp
                try with_reducible rfl
              simp only [Act.put, List.getElem_toArray, List.getElem_cons_succ, List.getElem_cons_zero, List.setIfInBounds_toArray, List.set_cons_zero, List.set_cons_succ]
              refine wpAnyH_done (by kernel_rfl) ?_ _
              refine NoPanic.normal ?_
              go_wp2_with fail
              go_ret
              exact ⟨by rw [RS.out]; rfl, J5.out.bel⟩
end Go.Proofs.YtchdfekajjeflaaGreatDoor
namespace Go.Proofs.YtchdfekajjeflaaGreatDoor
open Go.RowKit

theorem ck_some {n d : List UInt8} {p : Int × Int} (h : rread n d = some p) : ck n d = 0 := by unfold ck; rw [h]; rfl
theorem ck_none {n d : List UInt8} (h : rread n d = none) : ck n d = rflt n d := by unfold ck; rw [h]; rfl
set_option maxRecDepth 100000 in
set_option maxHeartbeats 4000000 in
theorem CheckRatio_c (s t : ByteArray) (w : World) :
    Calls Tryz.prog 19 #[.agg #[.string s, .string t]] w (CkPost s.data.toList t.data.toList w) := by
  obtain ⟨W0, hW0⟩ : ∃ W0, w.alloc (.cells #[.string s, .string t] 29) = W0 := ⟨_, rfl⟩
  have X0 : B2 W0 w.heap.size (.string s) (.string t) := by rw [← hW0]; exact B2.made _ _ _ _
  have JB0 : Hid (Below w.heap.size w W0) := by rw [← hW0]; exact bel_one _ _
  have x0 := X0.c0
  have x1 := X0.c1
  have H1 := Lib.hid (fun w => fractionOf_q s t w)
  clear X0
  go_enter Tryz.func19, Tryz.ntmps19
  go_wp2_with fail
  clear hW0 x0 x1
  refine (H1.out _).mono ?_
  rintro e w1 ⟨f, flt, rfl, b1, hpost⟩
  have HF : Hid (ck s.data.toList t.data.toList = flt) := by
    rcases hpost with ⟨h0, x, y, h1, _⟩ | ⟨_, h1, h2⟩
    · unfold Hid; rw [ck_some h1, h0]
    · unfold Hid; rw [ck_none h1, h2]
  have JB1 := JB0.out.trans (b1.mono JB0.out.size)
  obtain ⟨W5, hW5⟩ : ∃ W5, laid1 w1 f 38 = W5 := ⟨_, rfl⟩
  have LD := laid1_is (W := w1) f 38
  rw [hW5] at LD
  obtain ⟨WA, hWA⟩ : ∃ WA, w1.alloc (.cells #[.bool false, .slice none 0 0, .bool false, .slice none 0 0] 38) = WA := ⟨_, rfl⟩
  have D1 : B4q WA w1.heap.size Fq.z := by rw [← hWA]; exact B4.made _ _ _ _ _ _
  have hW5' : fourq WA w1.heap.size f = W5 := by rw [← hW5, ← hWA]; rfl
  have JB5 : Hid (Below w.heap.size w W5) := JB1.trans (LD.1.mono JB1.size)
  clear hW5 LD b1 hpost H1 JB1 JB0
  have a0 := D1.c0
  have a1 := D1.c1
  have a2 := D1.c2
  have a3 := D1.c3
  have af0 := D1.fr 0
  have af1 := D1.fr 1
  have af2 := D1.fr 2
  have af3 := D1.fr 3
  clear D1
  simp only [Fq.z] at a0 a1 a2 a3
  unfold fourq four at hW5'
  go_wp2_with fail
  go_ret
  exact ⟨by rw [HF.out]; rfl, JB5.out⟩
end Go.Proofs.YtchdfekajjeflaaGreatDoor
namespace Go.Proofs.YtchdfekajjeflaaGreatDoor
open Go.RowKit

/-- What the loops of scaled keep. -/
structure Sq (w : World) (P : Nat) (j y : Nat) (g : Nat → Nat) (v : Value) (wr : World) : Prop where
  dg : Dg w.heap.size w g j v wr
  ld : Ld g j
  sm : Tn g j + y * tp j = P
theorem Sq.step {w : World} {P P' j y y' : Nat} {g : Nat → Nat} {v v' : Value} {wr wr' : World} {s : Nat} (h : Sq w P j y g v wr)
    (hs9 : s < 1000000000) (hP : Tn g j + s * tp j + y' * (tp j * 1000000000) = P') (o : Obj)
    (hown : wr'.ownsRow w.heap.size 3 1 v' (j + 1) (dvals g j ++ [.int .i64 (s : Int)])) (hg : (wr.alloc o).grownBy wr' v.ownBlock) :
    Sq w P' (j + 1) y' (put g j s) v' wr' := by
  refine ⟨h.dg.more s hown o hg, ld_more h.ld hs9, ?_⟩
  rw [Tn_put, tp_succ]
  exact hP
/-- A row of the call's own without needless zeros. -/
def NtO (n : Nat) (w : World) (e : Ending) (w' : World) : Prop := ∃ a k c g, e = .returned (.slice a k c) ∧ Dg w.heap.size w g k (.slice a k c) w' ∧ Ld g k ∧ Tod g k ∧ Tn g k = n ∧ k ≤ 100000
theorem rj_same {W : World} {a : Option Addr} {k k' : Nat} {f g : Nat → Nat} (h : Rj W a k f) (h' : Rj W a k' g) : ∀ j, j < k → j < k' → f j = g j := by
  intro j hj hj'
  obtain ⟨b, o, e, _, c1⟩ := h.at_ hj
  obtain ⟨b', o', e', _, c2⟩ := h'.at_ hj'
  rw [e] at e'
  injection e' with e'
  injection e' with e1 e2
  subst e1 e2
  rw [c1] at c2
  injection c2 with c2
  injection c2 with _ c2
  omega
theorem Dg.low {B : Nat} {w0 w : World} {f : Nat → Nat} {j m c : Nat} {a : Option Addr} (h : Dg B w0 f j (.slice a j c) w) (hm : m ≤ j) : Dg B w0 f m (.slice a m c) w := by
  refine ⟨?_, h.bel, h.size⟩
  have e : dvals f m = (dvals f j).take m := by
    unfold dvals
    rw [← List.map_take, List.take_range, Nat.min_eq_left hm]
  rcases h.row with ⟨h1, ⟨h2, h3⟩ | ⟨g, cap, cur, h2, h3, h4, h5, h6, h7, h8⟩⟩
  · injection h2 with e1 e2 e3
    obtain rfl : m = 0 := by omega
    rw [e1, e3]
    exact World.ownsRow_nil _ _ _ _
  · injection h2 with e1 e2 e3
    refine ⟨by simp [dvals], .inr ⟨g, cap, cur, by rw [e1, e3], h3, h4, by omega, h6, h7, ?_⟩⟩
    rw [e, ← h8, List.take_take]
    congr 1
    omega
set_option maxRecDepth 100000 in
set_option maxHeartbeats 4000000 in
theorem scaled_c (a : Option Addr) (k c n x : Nat) (w : World) (h : Nt w a k c n) (hx : x ≤ 1000000000) (hk : k ≤ 99990) :
    Calls Tryz.prog 76 #[.slice a k c, .int .i64 (x : Nat)] w (NtO (n * x) w) := by
  obtain ⟨i0, hi, hz0, hz1, hz2⟩ := info_int
  obtain ⟨f, r1, _, _, _, s1, _⟩ := h
  have R1 := Lib.hid r1
  have S1 := Lib.hid s1
  clear r1 s1
  go_enter Tryz.func76, Tryz.ntmps76
  go_wp2_with fail
  go_loopw [5, 6, 11] (fun v c i wr => ∃ (j y : Nat) (g : Nat → Nat), j ≤ k ∧ y ≤ 1000000000 ∧ c = .int .i64 y ∧ i = .int .i64 j ∧ Hid (Sq w (Tn f j * x) j y g v wr)) (fun _ _ i _ => k - (intOf i).toNat)
  case atStart => exact ⟨0, 0, fun _ => 0, Nat.zero_le _, by omega, rfl, rfl, Dg.nil w _, fun j hj => by omega, by simp [Tn_zero]⟩
  case round =>
    obtain ⟨j, y, g, hj, hy, rfl, rfl, hR⟩ := hrel
    by_cases hlt : j < k
    · have hlt' : (j : Int) < (k : Int) := by omega
      obtain ⟨b1, o1, rfl, _, g1⟩ := (R1.out.below hR.out.dg.bel).at_ hlt
      have d1 := R1.out.2.1 j hlt
      obtain ⟨z, hz⟩ : ∃ z, f j = z := ⟨_, rfl⟩
      rw [hz] at g1 d1
      obtain ⟨m, hm⟩ : ∃ m, z * x = m := ⟨_, rfl⟩
      have em : (z : Int) * (x : Int) = (m : Int) := by rw [← hm]; exact (Int.natCast_mul _ _).symm
      have hm9 : m ≤ 999999999000000000 := by rw [← hm]; exact Nat.mul_le_mul (show z ≤ 999999999 by omega) hx
      obtain ⟨p, hp⟩ : ∃ p, m + y = p := ⟨_, rfl⟩
      have e0 : (m : Int) + (y : Int) = (p : Int) := by omega
      obtain ⟨q, hq⟩ : ∃ q, p / 1000000000 = q := ⟨_, rfl⟩
      obtain ⟨r, hr⟩ : ∃ r, p % 1000000000 = r := ⟨_, rfl⟩
      have e1 : (p : Int).tdiv 1000000000 = (q : Int) := by rw [Int.tdiv_eq_ediv_of_nonneg (by omega)]; omega
      have e2 : (p : Int).tmod 1000000000 = (r : Int) := by rw [Int.tmod_eq_emod_of_nonneg (by omega)]; omega
      have hq9 : q ≤ 1000000000 := by omega
      have hr9 : r < 1000000000 := by omega
      have HS : Hid (Tn g j + r * tp j + q * (tp j * 1000000000) = Tn f (j + 1) * x) := by
        have h1 : m + y = r + q * 1000000000 := by omega
        have h2 := hR.out.sm
        unfold Hid
        rw [Tn_succ, hz, Nat.add_mul, ← h2, Nat.mul_right_comm z, hm]
        have h3 : (m + y) * tp j = (r + q * 1000000000) * tp j := by rw [h1]
        rw [Nat.add_mul, Nat.add_mul, Nat.mul_right_comm q] at h3
        rw [← Nat.mul_assoc q]
        omega
      have hp9 : p ≤ 1000000000000000000 := by omega
      clear hp hq hr hm hz
      go_wp2_with (at_builtin; refine wpList_append_own _ rfl _ _ 48 rfl w.heap.size 3 i0 (.int .i64 0) 1 8 Tryz.underlying48 hi hz0 hz1 hz2 rfl (by decide) _ _ _ rfl (hR.out.dg.row.alloc _) ⟨wr.heap.size, 0, none⟩ 1 1 [.int .i64 (r : Int)] rfl rfl ?c1A ?c2A ?c3A ?c4A ?c5A ?_)
      try
        case c1A =>
          intro i u hu
          match i, hu with
          | 0, hu => simp at hu; subst hu; simp [Addr.add]
      try (case c2A => first | (intro u hu; simp at hu; subst hu; rfl) | rfl)
      try (case c3A => unfold maxLen; omega)
      try (case c4A => omega)
      try (case c5A => have := hR.out.dg.size; simp; omega)
      intro v' w1 hown' hgrow _
      have NX := Lib.hid (hR.out.step hr9 HS.out _ hown' hgrow)
      clear hown' hgrow hR
      go_wp2
      go_roundw
      case rel => exact ⟨j + 1, q, put g j r, by omega, hq9, by go_num, by go_num, NX.out⟩
      case measure => simp [intOf]; omega
    · obtain rfl : j = k := by omega
      have S2 : Hid (Sq w (n * x) j y g u5 wr) := by have := hR.out; rw [S1.out] at this; exact this
      clear hlt hR
      go_wp2
      obtain ⟨wA, hwA⟩ : ∃ A : World, A = wr := ⟨_, rfl⟩
      subst hwA
      go_loopw [5, 6] (fun v c wr => ∃ (m y : Nat) (g : Nat → Nat), j ≤ m ∧ m ≤ j + 2 ∧ y ≤ 1000000000 ∧ (m = j + 1 → y ≤ 1) ∧ (m = j + 2 → y = 0) ∧ c = .int .i64 y ∧ Hid (Sq w (n * x) m y g v wr)) (fun _ c _ => (intOf c).toNat)
      case atStart => exact ⟨j, y, g, Nat.le_refl _, by omega, hy, by omega, by omega, rfl, S2.out⟩
      case round =>
        clear S2
        obtain ⟨m, y, g, hm, hm2, hy, hy1, hy2, rfl, hR⟩ := hrel
        rcases Nat.eq_zero_or_pos y with e | e
        · subst e
          obtain ⟨a', c', rfl, hrj, hkc, hcc, hpl⟩ := hR.out.dg.reads (by omega) hR.out.ld
          have DD := Lib.hid hR.out.dg
          have LD := Lib.hid hR.out.ld
          have HRJ := Lib.hid hrj
          have E : Hid (Tn g m = n * x) := by have := hR.out.sm; unfold Hid; omega
          have HT := Lib.hid (ntrim_c a' m c' g wr hrj hkc hcc hpl)
          clear hR hrj hpl
          go_wp2_with fail
          refine HT.out.mono ?_
          rintro e w4 ⟨m', rfl, hN, rfl⟩
          rw [E.out] at hN
          have R : Hid (NtO (n * x) w (.returned (.slice a' m' c')) wr) := by
            have hmm : m' ≤ m := hN.len (by rw [← E.out]; exact Tn_lt LD.out)
            obtain ⟨f', r', _, _, t', s', _⟩ := hN
            have hs := rj_same r' HRJ.out
            refine ⟨_, _, _, g, rfl, DD.out.low hmm, fun j hj => LD.out j (by omega), ?_, ?_, r'.1⟩
            · rcases t' with e | e
              · exact .inl e
              · rcases Nat.eq_zero_or_pos m' with e0 | e0
                · exact .inl e0
                · exact .inr (by rw [← hs (m' - 1) (by omega) (by omega)]; exact e)
            · rw [← s']; exact Tn_congr fun j hj => (hs j hj (by omega)).symm
          clear hN HT
          go_wp2
          go_ret
          exact R.out
        · have hy0 : (0 : Int) < (y : Int) := by omega
          obtain ⟨q, hq⟩ : ∃ q, y / 1000000000 = q := ⟨_, rfl⟩
          obtain ⟨r, hr⟩ : ∃ r, y % 1000000000 = r := ⟨_, rfl⟩
          have e1 : (y : Int).tdiv 1000000000 = (q : Int) := by rw [Int.tdiv_eq_ediv_of_nonneg (by omega)]; omega
          have e2 : (y : Int).tmod 1000000000 = (r : Int) := by rw [Int.tmod_eq_emod_of_nonneg (by omega)]; omega
          have hq9 : q ≤ 1 := by omega
          have hr9 : r < 1000000000 := by omega
          have hqm : m = j + 1 → q = 0 := by omega
          have hqy : q < y := by omega
          have HS : Hid (Tn g m + r * tp m + q * (tp m * 1000000000) = n * x) := by
            have h1 : y = r + q * 1000000000 := by omega
            have h2 := hR.out.sm
            unfold Hid
            rw [← h2, ← Nat.mul_assoc q]
            have h3 : y * tp m = (r + q * 1000000000) * tp m := by rw [← h1]
            rw [Nat.add_mul, Nat.mul_right_comm q] at h3
            omega
          clear hq hr
          go_wp2_with (at_builtin; refine wpList_append_own _ rfl _ _ 48 rfl w.heap.size 3 i0 (.int .i64 0) 1 8 Tryz.underlying48 hi hz0 hz1 hz2 rfl (by decide) _ _ _ rfl (hR.out.dg.row.alloc _) ⟨wr.heap.size, 0, none⟩ 1 1 [.int .i64 (r : Int)] rfl rfl ?c1A ?c2A ?c3A ?c4A ?c5A ?_)
          try
            case c1A =>
              intro i u hu
              match i, hu with
              | 0, hu => simp at hu; subst hu; simp [Addr.add]
          try (case c2A => first | (intro u hu; simp at hu; subst hu; rfl) | rfl)
          try (case c3A => unfold maxLen; omega)
          try (case c4A => omega)
          try (case c5A => have := hR.out.dg.size; simp; omega)
          intro v' w1 hown' hgrow _
          have NX := Lib.hid (hR.out.step hr9 HS.out _ hown' hgrow)
          clear hown' hgrow hR
          go_wp2
          go_roundw
          case rel => exact ⟨m + 1, q, put g m r, by omega, by omega, by omega, by omega, by omega, by go_num, NX.out⟩
          case measure => simp [intOf]; omega
/-- What short answers: the quotient in a row of the call's own, the rest. -/
def ShP (n d : Nat) (w : World) (e : Ending) (w' : World) : Prop := ∃ a k c, e = .returned (.tuple #[.slice a k c, .int .i64 ((n % d : Nat) : Int)]) ∧ Nt w' a k c (n / d) ∧ Below w.heap.size w w'
theorem Tn_consX (f : Nat → Nat) (p m : Nat) : Tn (from_ f p) (m + 1) = f p + 1000000000 * Tn (from_ f (p + 1)) m := by
  rw [Tn_front]
  have e : (fun j => from_ f p (j + 1)) = from_ f (p + 1) := by funext j; unfold from_; rw [show p + (j + 1) = p + 1 + j by omega]
  rw [e]
  rfl
theorem from_put_lo (f : Nat → Nat) (p x : Nat) : from_ (put f p x) (p + 1) = from_ f (p + 1) := by
  funext j; unfold from_; exact put_ne (by omega)
set_option maxRecDepth 100000 in
set_option maxHeartbeats 4000000 in
theorem short_c (a : Option Addr) (k c n d : Nat) (w : World) (h : Nt w a k c n) (hd0 : 0 < d) (hd : d < 1000000000) :
    Calls Tryz.prog 75 #[.slice a k c, .int .i64 (d : Nat)] w (ShP n d w) := by
  obtain ⟨f, r1, _, _, _, s1, _⟩ := h
  have hk9 := r1.1
  have hmk := fun w => mk_digits k hk9 w
  have R1 := Lib.hid r1
  have S1 := Lib.hid s1
  clear r1 s1
  go_enter Tryz.func75, Tryz.ntmps75
  go_wp2_with fail
  have B0 := Lib.hid (Bt.made w k 3)
  have BL : Hid (Below w.heap.size w (w.alloc (.cells (madeCells #[.int .i64 0] k) 3))) := bel_one _ _
  generalize hW1 : w.alloc (.cells (madeCells #[.int .i64 0] k) 3) = W1 at *
  clear hW1 hmk
  go_loopw [7, 8] (fun v i wr => ∃ (m y : Nat) (g : Nat → Nat), m ≤ k ∧ i = .int .i64 ((m : Int) - 1) ∧ v = .int .i64 y ∧ y < d ∧ Hid (Bt wr w.heap.size k g ∧ Below w.heap.size w wr ∧ Tn (from_ g m) (k - m) * d + y = Tn (from_ f m) (k - m))) (fun _ i _ => (intOf i + 1).toNat)
  case atStart => exact ⟨k, 0, fun _ => 0, Nat.le_refl _, rfl, rfl, hd0, B0.out, BL.out, by rw [Nat.sub_self, Tn_zero, Tn_zero]; omega⟩
  case round =>
    clear B0 BL
    obtain ⟨m, y, g, hm, rfl, rfl, hy, hR⟩ := hrel
    rcases Nat.eq_zero_or_pos m with e | e
    · subst e
      have E : Hid (Tn g k = n / d ∧ y = n % d) := by
        have h := hR.out.2.2
        have e1 : from_ g 0 = g := by funext j; unfold from_; rw [Nat.zero_add]
        have e2 : from_ f 0 = f := by funext j; unfold from_; rw [Nat.zero_add]
        rw [e1, e2, Nat.sub_zero, S1.out] at h
        have hd1 : (y + Tn g k * d) / d = Tn g k := by rw [Nat.add_mul_div_right _ _ hd0, Nat.div_eq_of_lt hy, Nat.zero_add]
        have hd2 : (y + Tn g k * d) % d = y := by rw [Nat.add_mul_mod_self_right, Nat.mod_eq_of_lt hy]
        rw [Nat.add_comm, h] at hd1 hd2
        exact ⟨hd1.symm, hd2.symm⟩
      have HT := Lib.hid (ntrim_c (some ⟨w.heap.size, 0, none⟩) k k g wr (hR.out.1.rj hk9) (Nat.le_refl _) (by omega) (Pl.some_ _ _))
      have BL2 := Lib.hid hR.out.2.1
      clear hR
      go_wp2_with fail
      refine HT.out.mono ?_
      rintro e w5 ⟨k', rfl, hN, rfl⟩
      rw [E.out.1] at hN
      have R : Hid (ShP n d w (.returned (.tuple #[.slice (some ⟨w.heap.size, 0, none⟩) k' k, .int .i64 (y : Int)])) wr) := ⟨_, k', k, by rw [E.out.2], hN, BL2.out⟩
      clear hN HT
      go_wp2
      go_ret2
      exact R.out
    · obtain ⟨p, rfl⟩ : ∃ p, m = p + 1 := ⟨m - 1, by omega⟩
      obtain ⟨b, off, rfl, hb, g1⟩ := (R1.out.below hR.out.2.1).at_ (show p < k by omega)
      have d1 := R1.out.2.1 p (by omega)
      have hpk : (p : Int) < (k : Int) := by omega
      have ei : ((p + 1 : Nat) : Int) - 1 = (p : Int) := by omega
      rw [ei]
      obtain ⟨z, hz⟩ : ∃ z, f p = z := ⟨_, rfl⟩
      rw [hz] at g1 d1
      obtain ⟨m, hm'⟩ : ∃ m, y * 1000000000 + z = m := ⟨_, rfl⟩
      obtain ⟨y9, hy9⟩ : ∃ y9, y * 1000000000 = y9 := ⟨_, rfl⟩
      have ey : (y : Int) * 1000000000 = (y9 : Int) := by omega
      have em : (y9 : Int) + (z : Int) = (m : Int) := by omega
      have hy18 : y9 ≤ 999999998000000000 := by omega
      have hm9 : m ≤ 1000000000000000000 := by omega
      obtain ⟨q, hq⟩ : ∃ q, m / d = q := ⟨_, rfl⟩
      obtain ⟨r, hr⟩ : ∃ r, m % d = r := ⟨_, rfl⟩
      have e1 : (m : Int).tdiv (d : Int) = (q : Int) := by rw [Int.tdiv_eq_ediv_of_nonneg (by omega), ← hq]; exact (Int.natCast_ediv m d).symm
      have e2 : (m : Int).tmod (d : Int) = (r : Int) := by rw [Int.tmod_eq_emod_of_nonneg (by omega), ← hr]; exact (Int.natCast_emod m d).symm
      have hr2 : r < d := by rw [← hr]; exact Nat.mod_lt _ hd0
      have HQR : Hid (m = q * d + r) := by unfold Hid; rw [← hq, ← hr]; exact (Nat.div_add_mod' _ _).symm
      have hq2 : q < 1000000000 := by
        rw [← hq]
        refine Nat.div_lt_of_lt_mul ?_
        have : (y + 1) * 1000000000 ≤ d * 1000000000 := Nat.mul_le_mul_right _ hy
        omega
      have hdi : (d : Int) ≠ 0 := by omega
      have hBp := hR.out.1.2.2 p (by omega)
      have hc2 := hBp.1
      have hf2 := hBp.2
      have NX : Hid (Bt (wr.setCell ⟨w.heap.size, p, none⟩ (.int .i64 q)) w.heap.size k (put g p q) ∧ Below w.heap.size w (wr.setCell ⟨w.heap.size, p, none⟩ (.int .i64 q)) ∧ Tn (from_ (put g p q) p) (k - p) * d + r = Tn (from_ f p) (k - p)) := by
        refine ⟨hR.out.1.put (by omega) hq2, hR.out.2.1.setCell (p := ⟨w.heap.size, p, none⟩) (Nat.le_refl _) _, ?_⟩
        have hqr := HQR.out
        have h := hR.out.2.2
        rw [show k - p = (k - (p + 1)) + 1 by omega, Tn_consX, Tn_consX, from_put_lo, put_same, hz, ← h, Nat.add_mul, Nat.mul_add, ← hm'] at *
        rw [← Nat.mul_assoc]
        omega
      clear hBp hR hq hr hz hm' hy9
      go_wp2_with fail
      go_roundw
      case rel => exact ⟨p, r, put g p q, by omega, by go_num, by go_num, hr2, NX.out⟩
      case measure => simp [intOf]
end Go.Proofs.YtchdfekajjeflaaGreatDoor
