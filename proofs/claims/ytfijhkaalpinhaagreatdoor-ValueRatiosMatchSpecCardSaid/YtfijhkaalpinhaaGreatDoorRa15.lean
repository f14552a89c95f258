/-
  Texts of numbers in the reference: number.
  Ratios in the reference: which texts they are.
  Ratios in the reference: CheckRatio.
  Ratios of package value: CheckRatio.
-/
import Derived.Test.YtfijhkaalpinhaaGreatDoorRa14
import Derived.Test.YtfijhkaalpinhaaGreatDoorRa10
namespace Go.Proofs.YtfijhkaalpinhaaGreatDoor
open Go.RowKit

/-- A decimal number from 0 on, without needless zeros. -/
def numB (l : List UInt8) : Bool := decide (l ≠ [] ∧ ¬ (l.head? = some 48 ∧ 1 < l.length) ∧ digs l = true)
theorem numB_no {l : List UInt8} (h : l = [] ∨ (l.head? = some 48 ∧ 1 < l.length) ∨ digs l = false) : numB l = false := by
  unfold numB
  rw [decide_eq_false_iff_not]
  rintro ⟨h1, h2, h3⟩
  rcases h with h | h | h
  · exact h1 h
  · exact h2 h
  · rw [h] at h3; cases h3
theorem numB_yes {l : List UInt8} (h1 : l ≠ []) (h2 : ¬ (l.head? = some 48 ∧ 1 < l.length)) (h3 : digs l = true) : numB l = true := decide_eq_true ⟨h1, h2, h3⟩
set_option maxRecDepth 100000 in
set_option maxHeartbeats 2000000 in
theorem number_c (t : ByteArray) (w : World) (ht : t.size ≤ 9223372036854775806) :
    Calls Tryz.prog 30 #[.string t] w fun e w' => e = .returned (.bool (numB t.data.toList)) ∧ w = w' := by
  obtain ⟨l, hL⟩ : ∃ l, t.data.toList = l := ⟨_, rfl⟩
  have hts : t.size = l.length := by rw [← hL]; simp
  have htl : t.toList = l := by rw [Lib.toList_data, hL]
  cases l with
  | nil =>
    have hu0 : t = ⟨#[]⟩ := by
      cases t with
      | mk a => simp only [ByteArray.mk.injEq]; exact Array.toList_eq_nil_iff.1 hL
    subst hu0
    have E : Hid (numB (⟨#[]⟩ : ByteArray).data.toList = false) := numB_no (.inl rfl)
    clear hL hts htl
    go_enter Tryz.func30, Tryz.ntmps30
    go_wp2
    go_ret
    exact ⟨by rw [E.out]; rfl, rfl⟩
  | cons c r =>
    have htp : 0 < t.size := by rw [hts]; simp
    have hne0 : (t.toList == []) = false := by rw [htl]; rfl
    have hne1 : ¬ t.toList = [] := by rw [htl]; simp
    have h0 : t[0] = c := by
      have h := list_at t 0 htp
      rw [hL] at h
      injection h with h
      exact h.symm
    have h48 : c = 48 ↔ c.toNat = 48 := toNat48
    have htp' : (0 : Int) < (t.size : Int) := by omega
    by_cases hb : c = 48 ∧ r ≠ []
    · have E : Hid (numB t.data.toList = false) := numB_no (.inr (.inl ⟨by rw [hL, hb.1]; rfl, by
        rw [hL, List.length_cons]
        have := List.length_pos_iff.2 hb.2
        omega⟩))
      have z1 : ((t[0].toNat : Int) == 48) = true := by rw [h0, h48.1 hb.1]; rfl
      have z1' : (t[0].toNat : Int) = 48 := by rw [h0, h48.1 hb.1]; rfl
      have z2 : (t.toList == [48]) = false := by rw [htl, beq_eq_false_iff_ne]; intro h; injection h with _ h; exact hb.2 h
      have z3 : (t.toList != [48]) = true := by rw [bne, z2]; rfl
      have z4 : ¬ t.toList = [48] := by rw [htl]; intro h; injection h with _ h; exact hb.2 h
      clear hL hts htl h0 h48 hb
      go_enter Tryz.func30, Tryz.ntmps30
      go_wp2
      go_ret
      exact ⟨by rw [E.out]; rfl, rfl⟩
    · have HL : Hid (t.data.toList = c :: r) := hL
      have HLEN : Hid ((c :: r).length = t.size) := hts.symm
      have HNB : Hid (digs (c :: r) = true → numB t.data.toList = true) := fun hd => by
        rw [hL]
        refine numB_yes (by simp) ?_ hd
        rintro ⟨q1, q2⟩
        refine hb ⟨by simpa using q1, fun e => ?_⟩
        rw [e] at q2
        simp at q2
      have HNN : Hid (digs (c :: r) = false → numB t.data.toList = false) := fun hd => by
        rw [hL]; exact numB_no (.inr (.inr hd))
      have hcase : (((t[0].toNat : Int) == 48) = false ∧ ¬ (t[0].toNat : Int) = 48) ∨ (((t[0].toNat : Int) == 48) = true ∧ (t[0].toNat : Int) = 48 ∧ (t.toList == [48]) = true ∧ (t.toList != [48]) = false ∧ t.toList = [48]) := by
        by_cases hc : c = 48
        · have hr : r = [] := Classical.byContradiction fun h => hb ⟨hc, h⟩
          refine .inr ⟨by rw [h0, h48.1 hc]; rfl, by rw [h0, h48.1 hc]; rfl, by rw [htl, hr, hc]; rfl, by rw [htl, hr, hc]; rfl, by rw [htl, hr, hc]⟩
        · have : ¬ (t[0].toNat : Int) = 48 := by rw [h0]; intro h; exact hc (h48.2 (by omega))
          exact .inl ⟨by rw [beq_eq_false_iff_ne]; exact this, this⟩
      clear hL hts htl h0 h48 hb
      generalize c :: r = l at *
      rcases hcase with ⟨z1, z2⟩ | ⟨z1, z2, z3, z4, z5⟩
      all_goals
        go_enter Tryz.func30, Tryz.ntmps30
        go_wp2
        go_loop [17] (fun i => ∃ j : Nat, j ≤ t.size ∧ i = .int .i64 j ∧ Hid (digs (l.take j) = true)) (fun i => t.size - (intOf i).toNat)
        case atStart => exact ⟨0, Nat.zero_le _, rfl, rfl⟩
        case round =>
          obtain ⟨j, hj, rfl, hR⟩ := hrel
          by_cases hlt : j < t.size
          · have hlt' : (j : Int) < (t.size : Int) := by omega
            have hel2 : l[j]? = some t[j] := by rw [← HL.out]; exact list_at t j hlt
            have htk : l.take (j + 1) = l.take j ++ [t[j]] := by rw [List.take_add_one, hel2]; rfl
            have hmem : t[j] ∈ l := List.mem_of_getElem? hel2
            by_cases hd : isDig t[j] = true
            · have hdi := isDig_iff.1 hd
              have NX : Hid (digs (l.take (j + 1)) = true) := by
                unfold Hid
                rw [htk, digs_append, hR.out]
                simp [digs, hd]
              have x3 : ¬ (t[j].toNat : Int) < 48 := by omega
              have x4 : ¬ (57 : Int) < (t[j].toNat : Int) := by omega
              clear hel2 htk hmem hd hdi hR
              go_wp2
              go_round
              case rel => exact ⟨j + 1, by omega, by go_num, NX.out⟩
              case measure => simp [intOf]; omega
            · have E : Hid (numB t.data.toList = false) := HNN.out (by
                unfold digs
                rw [Bool.eq_false_iff]
                intro h
                exact hd (List.all_eq_true.1 h _ hmem))
              have hd2 : t[j].toNat < 48 ∨ 57 < t[j].toNat := by
                rcases Nat.lt_or_ge t[j].toNat 48 with h | h
                · exact .inl h
                · rcases Nat.lt_or_ge 57 t[j].toNat with h2 | h2
                  · exact .inr h2
                  · exact absurd (isDig_iff.2 ⟨h, h2⟩) hd
              clear hel2 htk hmem hd hR
              rcases hd2 with h | h
              · have x3 : (t[j].toNat : Int) < 48 := by omega
                go_wp2
                go_ret
                exact ⟨by rw [E.out]; rfl, rfl⟩
              · have x3 : ¬ (t[j].toNat : Int) < 48 := by omega
                have x4 : (57 : Int) < (t[j].toNat : Int) := by omega
                go_wp2
                go_ret
                exact ⟨by rw [E.out]; rfl, rfl⟩
          · obtain rfl : j = t.size := by omega
            have E : Hid (numB t.data.toList = true) := HNB.out (by
              have h := hR.out
              rw [List.take_of_length_le (by rw [HLEN.out]; omega)] at h
              exact h)
            clear hR hlt
            go_wp2
            go_ret
            exact ⟨by rw [E.out]; rfl, rfl⟩
end Go.Proofs.YtfijhkaalpinhaaGreatDoor
namespace Go.Proofs.YtfijhkaalpinhaaGreatDoor
open Go.RowKit

theorem trim_cases (l : List UInt8) : (∃ r, l = 45 :: r ∧ Lib.trimPrefix l [45] = r ∧ Lib.hasPrefix l [45] = true) ∨ (Lib.trimPrefix l [45] = l ∧ Lib.hasPrefix l [45] = false ∧ ∀ r, l ≠ 45 :: r) := by
  cases l with
  | nil => exact .inr ⟨rfl, rfl, fun r h => by cases h⟩
  | cons c r =>
    by_cases h : c = 45
    · subst h
      exact .inl ⟨r, rfl, trim_minus r, by simp [Lib.hasPrefix]⟩
    · have h' : ¬ (45 : UInt8) = c := fun e => h e.symm
      have e : Lib.hasPrefix (c :: r) [45] = false := by simp [Lib.hasPrefix, List.isPrefixOf, h, h']
      exact .inr ⟨trim_plain (fun e => h (UInt8.toNat_inj.1 (by rw [e]; rfl))), e, fun q e => h (by injection e)⟩
theorem numB_iff {l : List UInt8} : numB l = true ↔ l ≠ [] ∧ ¬ (l.head? = some 48 ∧ 1 < l.length) ∧ digs l = true := by unfold numB; exact decide_eq_true_iff
theorem zread_num {l : List UInt8} (h : numB (Lib.trimPrefix l [45]) = true) (h2 : l ≠ [45, 48]) : zread l = some (zv (Lib.hasPrefix l [45]) (val (Lib.trimPrefix l [45]))) := by
  obtain ⟨g1, g2, g3⟩ := numB_iff.1 h
  unfold zread
  rcases trim_cases l with ⟨r, e1, e2, e3⟩ | ⟨e2, e3, _⟩
  · rw [e2] at g1 g2 g3 ⊢
    rw [e3]
    have hlen : decide (r.length < l.length) = true := by rw [e1]; simp
    simp only [hlen]
    rw [if_neg]
    · rfl
    · rintro (k | ⟨k1, _⟩ | k)
      · exact g1 k
      · cases r with
        | nil => exact g1 rfl
        | cons c q =>
          have hc : c = 48 := by simpa using k1
          have hq : q = [] := Classical.byContradiction fun hq => g2 ⟨k1, by
            rw [List.length_cons]
            have := List.length_pos_iff.2 hq
            omega⟩
          rw [hc, hq] at e1
          exact h2 e1
      · rw [g3] at k; cases k
  · rw [e2] at g1 g2 g3 ⊢
    rw [e3]
    have hlen : decide (l.length < l.length) = false := by simp
    simp only [hlen]
    rw [if_neg]
    · rfl
    · rintro (k | ⟨k1, k2 | k2⟩ | k)
      · exact g1 k
      · cases k2
      · exact g2 ⟨k1, k2⟩
      · rw [g3] at k; cases k
theorem zread_no {l : List UInt8} (h : numB (Lib.trimPrefix l [45]) = false ∨ l = [45, 48]) : zread l = none := by
  unfold zread
  rcases h with h | h
  · refine if_pos ?_
    have h' : ¬ (numB (Lib.trimPrefix l [45]) = true) := by rw [h]; decide
    rw [numB_iff] at h'
    by_cases k1 : Lib.trimPrefix l [45] = []
    · exact .inl k1
    · by_cases k3 : digs (Lib.trimPrefix l [45]) = false
      · exact .inr (.inr k3)
      · by_cases k2 : (Lib.trimPrefix l [45]).head? = some 48 ∧ 1 < (Lib.trimPrefix l [45]).length
        · exact .inr (.inl ⟨k2.1, .inr k2.2⟩)
        · exact absurd ⟨k1, k2, by simpa using k3⟩ h'
  · subst h
    rfl
theorem val_pos {l : List UInt8} (h : numB l = true) (h2 : l ≠ [48]) : 0 < val l := by
  obtain ⟨g1, g2, g3⟩ := numB_iff.1 h
  cases l with
  | nil => exact absurd rfl g1
  | cons c r =>
    have hx : isDig c = true ∧ digs r = true := by simpa [digs] using g3
    have hd := isDig_iff.1 hx.1
    have hc : c.toNat ≠ 48 := by
      intro e
      have hc : c = 48 := toNat48.2 e
      have hr : r = [] := Classical.byContradiction fun hq => g2 ⟨by rw [hc]; rfl, by
        rw [List.length_cons]
        have := List.length_pos_iff.2 hq
        omega⟩
      exact h2 (by rw [hc, hr])
    have e : val (c :: r) = (c.toNat - 48) * 10 ^ r.length + val r := by
      have := val_append [c] r
      simpa [val] using this
    rw [e]
    have : 1 * 10 ^ r.length ≤ (c.toNat - 48) * 10 ^ r.length := Nat.mul_le_mul_right _ (by omega)
    have hp : 0 < 10 ^ r.length := Nat.pow_pos (by decide)
    omega
theorem trim_num {l : List UInt8} (h : numB l = true) : Lib.trimPrefix l [45] = l ∧ Lib.hasPrefix l [45] = false := by
  rcases trim_cases l with ⟨r, e1, _⟩ | ⟨e2, e3, _⟩
  · exfalso
    obtain ⟨_, _, g3⟩ := numB_iff.1 h
    rw [e1] at g3
    simp [digs, isDig] at g3
  · exact ⟨e2, e3⟩
/-- The texts of a ratio are sound numbers. -/
def sound (n d : List UInt8) : Bool := numB (Lib.trimPrefix n [45]) && !decide (n = [45, 48]) && numB d && !decide (d = [48])
theorem rread_yes {n d : List UInt8} (hl : large n d = false) (h : sound n d = true) :
    rread n d = if Nat.gcd (val (Lib.trimPrefix n [45])) (val d) = 1 then some (zv (Lib.hasPrefix n [45]) (val (Lib.trimPrefix n [45])), (val d : Int)) else none := by
  unfold sound at h
  simp only [Bool.and_eq_true, Bool.not_eq_true', decide_eq_false_iff_not] at h
  obtain ⟨⟨⟨h1, h2⟩, h3⟩, h4⟩ := h
  obtain ⟨t1, t2⟩ := trim_num h3
  have z2 : zread d = some (val d : Int) := by
    have := zread_num (l := d) (by rw [t1]; exact h3) (fun e => by rw [e] at h3; revert h3; decide)
    rw [t1, t2] at this
    exact this
  have hp := val_pos h3 h4
  unfold rread
  rw [if_neg (by rw [hl]; decide), zread_num h1 h2, z2]
  show (if (0 : Int) < (val d : Int) ∧ Int.gcd (zv _ _) (val d : Int) = 1 then _ else _) = _
  have e : Int.gcd (zv (Lib.hasPrefix n [45]) (val (Lib.trimPrefix n [45]))) (val d : Int) = Nat.gcd (val (Lib.trimPrefix n [45])) (val d) := by
    unfold Int.gcd; rw [zv_abs, Int.natAbs_natCast]
  rw [e]
  by_cases hg : Nat.gcd (val (Lib.trimPrefix n [45])) (val d) = 1
  · rw [if_pos hg, if_pos ⟨by omega, hg⟩]
  · rw [if_neg hg, if_neg (fun q => hg q.2)]
theorem rread_no {n d : List UInt8} (h : sound n d = false) : rread n d = none := by
  unfold rread
  split
  · rfl
  · unfold sound at h
    by_cases h1 : numB (Lib.trimPrefix n [45]) = true ∧ n ≠ [45, 48]
    · rw [zread_num h1.1 h1.2]
      by_cases h3 : numB d = true
      · have h4 : d = [48] := Classical.byContradiction fun h4 => by
          rw [h1.1, h3] at h
          simp [h1.2, h4] at h
        subst h4
        rfl
      · rcases trim_cases d with ⟨r, e1, e2, e3⟩ | ⟨e2, e3, _⟩
        · by_cases h5 : numB (Lib.trimPrefix d [45]) = true ∧ d ≠ [45, 48]
          · rw [zread_num h5.1 h5.2, e3]
            exact if_neg (fun q => by have h9 := q.1; rw [zv_true] at h9; omega)
          · rw [zread_no (l := d) (by
              by_cases h6 : d = [45, 48]
              · exact .inr h6
              · exact .inl (by
                  cases hb : numB (Lib.trimPrefix d [45]) with
                  | false => rfl
                  | true => exact absurd ⟨hb, h6⟩ h5))]
        · rw [zread_no (l := d) (.inl (by rw [e2]; simpa using h3))]
    · rw [zread_no (l := n) (by
        by_cases h6 : n = [45, 48]
        · exact .inr h6
        · exact .inl (by
            cases hb : numB (Lib.trimPrefix n [45]) with
            | false => rfl
            | true => exact absurd ⟨hb, h6⟩ h1))]
theorem dec_one {g : Nat} : Lib.decDigits g = [49] ↔ g = 1 := by
  constructor
  · intro h
    have := val_dec g
    rw [h] at this
    exact this.symm
  · intro h
    subst h
    exact Lib.decDigits_one (by decide)
/-- CheckRatio's answer. -/
def ck (n d : List UInt8) : Int := if (rread n d).isSome = true then 0 else rflt n d
theorem ck_large {n d : List UInt8} (h : large n d = true) : ck n d = 2 := by
  unfold ck rread rflt
  rw [if_pos h, if_pos h]
  rfl
theorem ck_no {n d : List UInt8} (hl : large n d = false) (h : sound n d = false) : ck n d = 3 := by
  unfold ck rflt
  rw [rread_no h, if_neg (show ¬ (none : Option (Int × Int)).isSome = true by decide), if_neg (show ¬ large n d = true by rw [hl]; decide)]
theorem ck_yes {n d : List UInt8} (hl : large n d = false) (h : sound n d = true) : ck n d = if Nat.gcd (val (Lib.trimPrefix n [45])) (val d) = 1 then 0 else 3 := by
  unfold ck rflt
  rw [rread_yes hl h, if_neg (show ¬ large n d = true by rw [hl]; decide)]
  split <;> rfl
end Go.Proofs.YtfijhkaalpinhaaGreatDoor
namespace Go.Proofs.YtfijhkaalpinhaaGreatDoor
open Go.RowKit

/-- The box of the argument. -/
def S2 (g : Nat) (s t : ByteArray) (W : World) : Prop := W.cell? ⟨g, 0, none⟩ = some (.string s) ∧ W.cell? ⟨g, 1, none⟩ = some (.string t)
structure Cb (w : World) (s t : ByteArray) (W : World) : Prop where
  x : B2 W w.heap.size (.string s) (.string t)
  bel : Below w.heap.size w W
  pow : Pow W
theorem Cb.keep {w : World} {s t : ByteArray} {W W' : World} (h : Cb w s t W) (hb : Below W.heap.size W W') : Cb w s t W' :=
  ⟨h.x.keep hb, h.bel.trans (hb.mono h.bel.size), h.pow.below hb⟩
theorem Cb.s2 {w : World} {s t : ByteArray} {W : World} (h : Cb w s t W) : S2 w.heap.size s t W := ⟨h.x.c0, h.x.c1⟩
def CkPost (n d : List UInt8) (w : World) (e : Ending) (w' : World) : Prop := e = .returned (.int .i64 (ck n d)) ∧ Below w.heap.size w w'
theorem val_tp {l : List UInt8} (h : digs l = true) (hl : l.length ≤ 2000) : val l < tp 223 := by
  have h1 := val_lt h
  have h2 : l.length ≤ 9 * 223 := by omega
  rw [tp_ten]
  generalize 9 * 223 = m at h2 ⊢
  exact Nat.lt_of_lt_of_le h1 (Nat.pow_le_pow_right (by decide) h2)
set_option maxRecDepth 100000 in
set_option maxHeartbeats 4000000 in
theorem rCheckRatio_c (s t : ByteArray) (w : World) (hE : Pow w) :
    Calls Tryz.prog 8 #[.agg #[.string s, .string t]] w (CkPost s.data.toList t.data.toList w) := by
  obtain ⟨u, hu⟩ : ∃ u : ByteArray, u = ⟨(Lib.trimPrefix s.data.toList [45]).toArray⟩ := ⟨_, rfl⟩
  have hul : u.data.toList = Lib.trimPrefix s.data.toList [45] := by rw [hu]
  have hus : u.size = (Lib.trimPrefix s.data.toList [45]).length := by rw [hu]; simp [ByteArray.size]
  have hts : t.size = t.data.toList.length := by simp
  have HTP : Hid (∀ w, Calls Tryz.prog 29 #[.string s, .string ⟨#[45]⟩] w fun e w' => e = .returned (.string u) ∧ w = w') := fun w => (Tryz.strings_TrimPrefix s ⟨#[45]⟩ w).mono fun e w' ⟨he, hw⟩ => ⟨by rw [he, hu], hw.symm⟩
  have HLG : Hid (large s.data.toList t.data.toList = (decide (2000 < u.size) || decide (2000 < t.size))) := by unfold Hid large; rw [hus, hts]
  have HUL := Lib.hid hul
  clear hu hus hts hul
  obtain ⟨W0, hW0⟩ : ∃ W0, w.alloc (.cells #[.string s, .string t] 23) = W0 := ⟨_, rfl⟩
  have J0 : Hid (Cb w s t W0) := by rw [← hW0]; exact ⟨B2.made w _ _ _, bel_one _ _, hE.below (bel_one _ _)⟩
  have x0 := J0.out.x.c0
  have x1 := J0.out.x.c1
  clear hE
  by_cases hl : large s.data.toList t.data.toList = true
  · have RS : Hid (ck s.data.toList t.data.toList = 2) := ck_large hl
    have hl2 : 2000 < u.size ∨ (¬ 2000 < u.size ∧ 2000 < t.size) := by
      rw [HLG.out] at hl
      simp at hl
      omega
    clear HLG hl
    rcases hl2 with h | ⟨h, h'⟩
    · have hi : (2000 : Int) < (u.size : Int) := by omega
      go_enter Tryz.func8, Tryz.ntmps8
      go_wp2_with (go_at_call 29; refine (HTP.out _).mono ?_; rintro e w' ⟨rfl, rfl⟩)
      go_ret
      exact ⟨by rw [RS.out]; rfl, J0.out.bel⟩
    · have hi : ¬ (2000 : Int) < (u.size : Int) := by omega
      have hi' : (2000 : Int) < (t.size : Int) := by omega
      go_enter Tryz.func8, Tryz.ntmps8
      go_wp2_with (go_at_call 29; refine (HTP.out _).mono ?_; rintro e w' ⟨rfl, rfl⟩)
      go_ret
      exact ⟨by rw [RS.out]; rfl, J0.out.bel⟩
  · have hlf : large s.data.toList t.data.toList = false := by simpa using hl
    have hu2 : ¬ 2000 < u.size ∧ ¬ 2000 < t.size := by rw [HLG.out] at hlf; simp at hlf; omega
    obtain ⟨hu1, ht1⟩ := hu2
    have hi1 : ¬ (2000 : Int) < (u.size : Int) := by omega
    have hi2 : ¬ (2000 : Int) < (t.size : Int) := by omega
    have HNU := Lib.hid (fun w => number_c u w (by omega))
    have HNT := Lib.hid (fun w => number_c t w (by omega))
    rw [HUL.out] at HNU
    have HSZ : Hid (u.size ≤ 2000 ∧ t.size ≤ 2000) := ⟨by omega, by omega⟩
    have HCN : Hid (sound s.data.toList t.data.toList = false → ck s.data.toList t.data.toList = 3) := fun h => ck_no hlf h
    have HCY : Hid (sound s.data.toList t.data.toList = true → (Nat.gcd (val (Lib.trimPrefix s.data.toList [45])) (val t.data.toList) = 1 → ck s.data.toList t.data.toList = 0) ∧ (Nat.gcd (val (Lib.trimPrefix s.data.toList [45])) (val t.data.toList) ≠ 1 → ck s.data.toList t.data.toList = 3)) := fun h => ⟨fun q => by rw [ck_yes hlf h, if_pos q], fun q => by rw [ck_yes hlf h, if_neg q]⟩
    have hs45 : ∀ b, decide (s.data.toList = [45, 48]) = b → (s.toList == [45, 48]) = b ∧ (b = true → s.toList = [45, 48]) ∧ (b = false → ¬ s.toList = [45, 48]) := by
      intro b hb
      rw [Lib.toList_data]
      subst hb
      refine ⟨by by_cases h : s.data.toList = [45, 48] <;> simp [h], fun h => by simpa using h, fun h => by simpa using h⟩
    have ht48 : ∀ b, decide (t.data.toList = [48]) = b → (t.toList == [48]) = b ∧ (b = true → t.toList = [48]) ∧ (b = false → ¬ t.toList = [48]) := by
      intro b hb
      rw [Lib.toList_data]
      subst hb
      refine ⟨by by_cases h : t.data.toList = [48] <;> simp [h], fun h => by simpa using h, fun h => by simpa using h⟩
    clear hl hlf HLG hu1 ht1
    cases h1 : numB (Lib.trimPrefix s.data.toList [45]) with
    | false =>
      rw [h1] at HNU
      have RS : Hid (ck s.data.toList t.data.toList = 3) := HCN.out (by unfold sound; rw [h1]; rfl)
      clear HCN HCY h1 hs45 ht48
      go_enter Tryz.func8, Tryz.ntmps8
      go_wp2_with (go_at_call 29; refine (HTP.out _).mono ?_; rintro e w' ⟨rfl, rfl⟩)
      (with_reducible refine (HNU.out _).mono ?_)
      rintro e w' ⟨rfl, rfl⟩
      go_wp2_with fail
      go_ret
      exact ⟨by rw [RS.out]; rfl, J0.out.bel⟩
    | true =>
      rw [h1] at HNU
      cases h2 : decide (s.data.toList = [45, 48]) with
      | true =>
        obtain ⟨z1, z2, _⟩ := hs45 _ h2
        have z2 := z2 rfl
        have RS : Hid (ck s.data.toList t.data.toList = 3) := HCN.out (by unfold sound; rw [h1, h2]; rfl)
        clear HCN HCY h1 h2 hs45 ht48
        go_enter Tryz.func8, Tryz.ntmps8
        go_wp2_with (go_at_call 29; refine (HTP.out _).mono ?_; rintro e w' ⟨rfl, rfl⟩)
        (with_reducible refine (HNU.out _).mono ?_)
        rintro e w' ⟨rfl, rfl⟩
        go_wp2_with fail
        go_ret
        exact ⟨by rw [RS.out]; rfl, J0.out.bel⟩
      | false =>
        obtain ⟨z1, _, z2⟩ := hs45 _ h2
        have z2 := z2 rfl
        cases h3 : numB t.data.toList with
        | false =>
          rw [h3] at HNT
          have RS : Hid (ck s.data.toList t.data.toList = 3) := HCN.out (by unfold sound; rw [h1, h2, h3]; rfl)
          clear HCN HCY h1 h2 h3 hs45 ht48
          go_enter Tryz.func8, Tryz.ntmps8
          go_wp2_with (go_at_call 29; refine (HTP.out _).mono ?_; rintro e w' ⟨rfl, rfl⟩)
          (with_reducible refine (HNU.out _).mono ?_)
          rintro e w' ⟨rfl, rfl⟩
          go_wp2_with fail
          (with_reducible refine (HNT.out _).mono ?_)
          rintro e w' ⟨rfl, rfl⟩
          go_wp2_with fail
          go_ret
          exact ⟨by rw [RS.out]; rfl, J0.out.bel⟩
        | true =>
          rw [h3] at HNT
          cases h4 : decide (t.data.toList = [48]) with
          | true =>
            obtain ⟨y1, y2, _⟩ := ht48 _ h4
            have y2 := y2 rfl
            have RS : Hid (ck s.data.toList t.data.toList = 3) := HCN.out (by unfold sound; rw [h1, h2, h3, h4]; rfl)
            clear HCN HCY h1 h2 h3 h4 hs45 ht48
            go_enter Tryz.func8, Tryz.ntmps8
            go_wp2_with (go_at_call 29; refine (HTP.out _).mono ?_; rintro e w' ⟨rfl, rfl⟩)
            (with_reducible refine (HNU.out _).mono ?_)
            rintro e w' ⟨rfl, rfl⟩
            go_wp2_with fail
            (with_reducible refine (HNT.out _).mono ?_)
            rintro e w' ⟨rfl, rfl⟩
            go_wp2_with fail
            go_ret
            exact ⟨by rw [RS.out]; rfl, J0.out.bel⟩
          | false =>
            obtain ⟨y1, _, y2⟩ := ht48 _ h4
            have y2 := y2 rfl
            have HSO := Lib.hid (HCY.out (by unfold sound; rw [h1, h2, h3, h4]; rfl))
            have RU := Lib.hid (fun w => readNatural_c u w (by rw [HUL.out]; exact (numB_iff.1 h1).2.2) (by have := HSZ.out; omega))
            have RT := Lib.hid (fun w => readNatural_c t w (numB_iff.1 h3).2.2 (by have := HSZ.out; omega))
            have BU : Hid (val u.data.toList < tp 223) := val_tp (by rw [HUL.out]; exact (numB_iff.1 h1).2.2) (by have := HSZ.out; simp; omega)
            have BT : Hid (val t.data.toList < tp 223) := val_tp (numB_iff.1 h3).2.2 (by have := HSZ.out; simp; omega)
            rw [← HUL.out] at HSO
            clear HCN HCY h1 h2 h3 h4 hs45 ht48
            generalize val u.data.toList = p at *
            generalize val t.data.toList = d at *
            obtain ⟨g, hg⟩ : ∃ g, Nat.gcd p d = g := ⟨_, rfl⟩
            rw [hg] at HSO
            have HG := Lib.hid hg
            clear hg
            go_enter Tryz.func8, Tryz.ntmps8
            go_wp2_with (go_at_call 29; refine (HTP.out _).mono ?_; rintro e w' ⟨rfl, rfl⟩)
            (with_reducible refine (HNU.out _).mono ?_)
            rintro e w' ⟨rfl, rfl⟩
            go_wp2_with fail
            (with_reducible refine (HNT.out _).mono ?_)
            rintro e w' ⟨rfl, rfl⟩
            go_wp2_with fail
            clear x0 x1 hW0
            refine wp_region_noPanic ?_
            refine wp_region_held_drew (S := S2 w.heap.size s t) (by kernel_rfl) (J0.out.keep (Below.refl _ _).drew).s2 (fun hS => ?_)
            have J1 := Lib.hid (J0.out.keep (Below.refl _ _).drew)
            refine wpAnyH_take (i := 0) (v := ?v0z29) rfl (by kernel_rfl) (by kernel_rfl) (by kernel_rfl) (fun _ _ _ h => h) (Or.inl ⟨by rfl, ?hy0z29⟩) (by assumption) ?rest0z29
            case hy0z29 =>
              intro w hSw
              dsimp only [S2] at hSw
              go_simp
              try with_reducible rfl
            simp only [Act.put, List.getElem_toArray, List.getElem_cons_succ, List.getElem_cons_zero, List.setIfInBounds_toArray, List.set_cons_zero, List.set_cons_succ]
            refine wpAnyH_take (i := 2) (v := ?v2z30) rfl (by kernel_rfl) (by kernel_rfl) (by kernel_rfl) (fun _ _ _ h => h) (Or.inl ⟨by rfl, ?hy2z30⟩) (by assumption) ?rest2z30
            case hy2z30 =>
              intro w hSw
              dsimp only [S2] at hSw
              go_simp
              try with_reducible rfl
            simp only [Act.put, List.getElem_toArray, List.getElem_cons_succ, List.getElem_cons_zero, List.setIfInBounds_toArray, List.set_cons_zero, List.set_cons_succ]
            refine wpAnyH_take (i := 3) (v := ?v3z31) rfl (by kernel_rfl) (by kernel_rfl) (by kernel_rfl) (fun _ _ _ h => h) (Or.inl ⟨by rfl, ?hy3z31⟩) (by assumption) ?rest3z31
            case hy3z31 =>
              intro w hSw
              dsimp only [S2] at hSw
              go_simp
              try with_reducible rfl
            simp only [Act.put, List.getElem_toArray, List.getElem_cons_succ, List.getElem_cons_zero, List.setIfInBounds_toArray, List.set_cons_zero, List.set_cons_succ]
            refine wpAnyH_ready (rs := [1]) (by kernel_rfl) (by simp) ?_
            refine AllReadyH.cons rfl (fun K hK => ?_) AllReadyH.nil
            go_simp
            refine (RU.out _).mono ?_
            rintro e W2 ⟨pa, pk, pc, rfl, hp, bc⟩
            try go_simp
            have J2 := Lib.hid (J1.out.keep bc)
            have hT := J2.out.s2
            have HP := Lib.hid hp
            refine hK.out _ _ hT (fun _ => ?_)
            clear hK K hS bc J1 hp
            have hS := hT
            clear hT
            try simp only [Act.put, List.setIfInBounds_toArray, List.set_cons_zero, List.set_cons_succ]
            refine wpAnyH_ready (rs := [4]) (by kernel_rfl) (by simp) ?_
            refine AllReadyH.cons rfl (fun K hK => ?_) AllReadyH.nil
            go_simp
            refine (RT.out _).mono ?_
            rintro e W3 ⟨da, dk, dc, rfl, hd, bc⟩
            try go_simp
            have J3 := Lib.hid (J2.out.keep bc)
            have hT := J3.out.s2
            have HP3 := Lib.hid (HP.out.below bc)
            have HD := Lib.hid hd
            refine hK.out _ _ hT (fun _ => ?_)
            clear hK K hS bc J2 hd HP
            have hS := hT
            clear hT
            try simp only [Act.put, List.setIfInBounds_toArray, List.set_cons_zero, List.set_cons_succ]
            have HC := Lib.hid (ncommon_c pa da pk dk pc dc p d W3 HP3.out HD.out (by have := HP3.out.len BU.out; omega) (by have := HD.out.len BT.out; omega))
            rw [HG.out] at HC
            refine wpAnyH_ready (rs := [5]) (by kernel_rfl) (by simp) ?_
            refine AllReadyH.cons rfl (fun K hK => ?_) AllReadyH.nil
            go_simp
            refine (HC.out).mono ?_
            rintro e W4 ⟨ga, gk, gc, rfl, hg, bc⟩
            try go_simp
            have J4 := Lib.hid (J3.out.keep bc)
            have hT := J4.out.s2
            have HGG := Lib.hid hg
            refine hK.out _ _ hT (fun _ => ?_)
            clear hK K hS bc J3 hg HC HP3 HD
            have hS := hT
            clear hT
            try simp only [Act.put, List.setIfInBounds_toArray, List.set_cons_zero, List.set_cons_succ]
            have HX := Lib.hid (rtext_c ga gk gc g W4 HGG.out J4.out.pow)
            refine wpAnyH_ready (rs := [6]) (by kernel_rfl) (by simp) ?_
            refine AllReadyH.cons rfl (fun K hK => ?_) AllReadyH.nil
            go_simp
            refine (HX.out).mono ?_
            rintro e W5 ⟨rfl, bc⟩
            try go_simp
            have J5 := Lib.hid (J4.out.keep bc)
            have hT := J5.out.s2
            refine hK.out _ _ hT (fun _ => ?_)
            clear hK K hS bc J4 HX HGG
            have hS := hT
            clear hT
            try simp only [Act.put, List.setIfInBounds_toArray, List.set_cons_zero, List.set_cons_succ]
            by_cases hg1 : g = 1
            · have hq : ((decB g).toList == [49]) = true := by rw [Lib.toList_data, decB_list]; simp [dec_one, hg1]
              have hq' : (decB g).toList = [49] := by rw [Lib.toList_data, decB_list]; simp [dec_one, hg1]
              have RS : Hid (ck s.data.toList t.data.toList = 0) := HSO.out.1 hg1
              clear hg1
              refine wpAnyH_take (i := 7) (v := ?v7z32) rfl (by kernel_rfl) (by kernel_rfl) (by kernel_rfl) (fun _ _ _ h => h) (Or.inl ⟨by rfl, ?hy7z32⟩) (by assumption) ?rest7z32
              case hy7z32 =>
                intro w hSw
                dsimp only [S2] at hSw
                go_simp
                try with_reducible rfl
              simp only [Act.put, List.getElem_toArray, List.getElem_cons_succ, List.getElem_cons_zero, List.setIfInBounds_toArray, List.set_cons_zero, List.set_cons_succ]
              refine wpAnyH_done (by kernel_rfl) ?_ _
              refine NoPanic.normal ?_
              go_wp2_with fail
              go_ret
              exact ⟨by rw [RS.out]; rfl, J5.out.bel⟩
            · have hq : ((decB g).toList == [49]) = false := by rw [Lib.toList_data, decB_list]; simp [dec_one, hg1]
              have hq' : ¬ (decB g).toList = [49] := by rw [Lib.toList_data, decB_list]; simp [dec_one, hg1]
              have RS : Hid (ck s.data.toList t.data.toList = 3) := HSO.out.2 hg1
              clear hg1
              refine wpAnyH_take (i := 7) (v := ?v7z33) rfl (by kernel_rfl) (by kernel_rfl) (by kernel_rfl) (fun _ _ _ h => h) (Or.inl ⟨by rfl, ?hy7z33⟩) (by assumption) ?rest7z33
              case hy7z33 =>
                intro w hSw
                dsimp only [S2] at hSw
                go_simp
                try with_reducible rfl
              simp only [Act.put, List.getElem_toArray, List.getElem_cons_succ, List.getElem_cons_zero, List.setIfInBounds_toArray, List.set_cons_zero, List.set_cons_succ]
              refine wpAnyH_done (by kernel_rfl) ?_ _
              refine NoPanic.normal ?_
              go_wp2_with fail
              go_ret
              exact ⟨by rw [RS.out]; rfl, J5.out.bel⟩
end Go.Proofs.YtfijhkaalpinhaaGreatDoor
namespace Go.Proofs.YtfijhkaalpinhaaGreatDoor
open Go.RowKit

theorem ck_some {n d : List UInt8} {p : Int × Int} (h : rread n d = some p) : ck n d = 0 := by unfold ck; rw [h]; rfl
theorem ck_none {n d : List UInt8} (h : rread n d = none) : ck n d = rflt n d := by unfold ck; rw [h]; rfl
set_option maxRecDepth 100000 in
set_option maxHeartbeats 4000000 in
theorem CheckRatio_c (s t : ByteArray) (w : World) :
    Calls Tryz.prog 7 #[.agg #[.string s, .string t]] w (CkPost s.data.toList t.data.toList w) := by
  obtain ⟨W0, hW0⟩ : ∃ W0, w.alloc (.cells #[.string s, .string t] 23) = W0 := ⟨_, rfl⟩
  have X0 : B2 W0 w.heap.size (.string s) (.string t) := by rw [← hW0]; exact B2.made _ _ _ _
  have JB0 : Hid (Below w.heap.size w W0) := by rw [← hW0]; exact bel_one _ _
  have x0 := X0.c0
  have x1 := X0.c1
  have H1 := Lib.hid (fun w => fractionOf_q s t w)
  clear X0
  go_enter Tryz.func7, Tryz.ntmps7
  go_wp2_with fail
  clear hW0 x0 x1
  refine (H1.out _).mono ?_
  rintro e w1 ⟨f, flt, rfl, b1, hpost⟩
  have HF : Hid (ck s.data.toList t.data.toList = flt) := by
    rcases hpost with ⟨h0, x, y, h1, _⟩ | ⟨_, h1, h2⟩
    · unfold Hid; rw [ck_some h1, h0]
    · unfold Hid; rw [ck_none h1, h2]
  have JB1 := JB0.out.trans (b1.mono JB0.out.size)
  obtain ⟨W5, hW5⟩ : ∃ W5, laid1 w1 f 46 = W5 := ⟨_, rfl⟩
  have LD := laid1_is (W := w1) f 46
  rw [hW5] at LD
  obtain ⟨WA, hWA⟩ : ∃ WA, w1.alloc (.cells #[.bool false, .slice none 0 0, .bool false, .slice none 0 0] 46) = WA := ⟨_, rfl⟩
  have D1 : B4q WA w1.heap.size Fq.z := by rw [← hWA]; exact B4.made _ _ _ _ _ _
  have hW5' : fourq WA w1.heap.size f = W5 := by rw [← hW5, ← hWA]; rfl
  have JB5 : Hid (Below w.heap.size w W5) := JB1.trans (LD.1.mono JB1.size)
  clear hW5 LD b1 hpost H1 JB1 JB0
  have a0 := D1.c0
  have a1 := D1.c1
  have a2 := D1.c2
  have a3 := D1.c3
  have af0 := D1.fr 0
  have af1 := D1.fr 1
  have af2 := D1.fr 2
  have af3 := D1.fr 3
  clear D1
  simp only [Fq.z] at a0 a1 a2 a3
  unfold fourq four at hW5'
  go_wp2_with fail
  go_ret
  exact ⟨by rw [HF.out]; rfl, JB5.out⟩
end Go.Proofs.YtfijhkaalpinhaaGreatDoor
