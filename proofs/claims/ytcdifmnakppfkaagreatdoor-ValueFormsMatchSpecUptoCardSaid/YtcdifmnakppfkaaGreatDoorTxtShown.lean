/-
  Show of package value, for values of any parts.
-/
import Derived.Test.YtcdifmnakppfkaaGreatDoorTxtRow
namespace Go.Proofs.YtcdifmnakppfkaaGreatDoor
open Go.RowKit

def reasonT (n : Int) : List UInt8 := if n = 1 then [100, 111, 110, 116, 107, 110, 111, 119] else if n = 2 then [114, 101, 102, 117, 115, 101, 100] else [110, 111, 97, 110, 115, 119, 101, 114]
open Classical in
/-- The text of a Day: of its date. -/
noncomputable def dayOf (n : Int) : List UInt8 := if h : ∃ t, ∃ y m d : Nat, DateOf n y m d ∧ t = Txt.dayT y m d then h.choose else []
theorem dayOf_eq {n : Int} {y m d : Nat} (h : DateOf n y m d) : dayOf n = Txt.dayT y m d := by
  have hex : ∃ t, ∃ y m d : Nat, DateOf n y m d ∧ t = Txt.dayT y m d := ⟨_, y, m, d, h, rfl⟩
  unfold dayOf
  rw [dif_pos hex]
  obtain ⟨y', m', d', h', e⟩ := hex.choose_spec
  rw [e]
  obtain ⟨e1, e2, e3⟩ := Cal.num_inj _ _ _ _ _ _ h'.1 h.1 (h'.2.2.2.trans h.2.2.2.symm)
  rw [show y' = y by omega, show m' = m by omega, show d' = d by omega]
theorem has_date (n : Int) (h1 : -25567 ≤ n) (h2 : n ≤ 84005) : ∃ y m d : Nat, DateOf n y m d := by
  obtain ⟨y, m, d, hv, a, b, c⟩ := Cal.date_of n h1 h2
  obtain ⟨v1, v2, v3, v4⟩ := hv
  refine ⟨y.toNat, m.toNat, d.toNat, ?_⟩
  rw [show ((y.toNat : Nat) : Int) = y by omega, show ((m.toNat : Nat) : Int) = m by omega, show ((d.toNat : Nat) : Int) = d by omega]
  exact ⟨⟨v1, v2, v3, v4⟩, a, b, c⟩
def boolT (b : Bool) : List UInt8 := if b then [116, 114, 117, 101] else [102, 97, 108, 115, 101]
theorem formatBool_eq : ∀ b, Lib.formatBool b = boolT b := by decide +kernel
noncomputable def showT (k n : Int) (s : ByteArray) (l : List Int) : List UInt8 :=
  if k = 1 then reasonT n else if k = 2 then Txt.numT n else if k = 3 then 39 :: (Txt.dbl s.data.toList ++ [39]) else if k = 4 then Txt.codeT n
  else if k = 5 then Txt.setT l else if k = 6 then dayOf n else if k = 7 then boolT (decide (n = 1)) else [45]

/-- What a sound value is. -/
inductive Good : Int → Int → ByteArray → List Int → Prop where
  | none : Good 0 0 ⟨#[]⟩ []
  | special (n : Int) (h1 : 1 ≤ n) (h2 : n ≤ 3) : Good 1 n ⟨#[]⟩ []
  | number (n : Int) (h1 : -999999999999999 ≤ n) (h2 : n ≤ 999999999999999) : Good 2 n ⟨#[]⟩ []
  | text (s : ByteArray) (h : s.size ≤ 200) (hb : ∀ b ∈ s.data.toList, 32 ≤ b.toNat ∧ b.toNat ≤ 126) : Good 3 0 s []
  | choice (n : Int) (h1 : 1 ≤ n) (h2 : n ≤ 999) : Good 4 n ⟨#[]⟩ []
  | choices (l : List Int) (h : l.length ≤ 40) (hx : ∀ j, j < l.length → 1 ≤ l.getD j 0 ∧ l.getD j 0 ≤ 999) : Good 5 0 ⟨#[]⟩ l
  | day (n : Int) (h1 : -25567 ≤ n) (h2 : n ≤ 84005) : Good 6 n ⟨#[]⟩ []
  | bool (n : Int) (h1 : 0 ≤ n) (h2 : n ≤ 1) : Good 7 n ⟨#[]⟩ []
theorem good_of {k n : Int} {s : ByteArray} {l : List Int} (h : cChk k n s l = 0) : Good k n s l := by
  unfold cChk at h
  by_cases c1 : k < 0 ∨ 7 < k
  · rw [if_pos c1] at h; omega
  rw [if_neg c1] at h
  by_cases c2 : (¬ usesN k ∧ n ≠ 0) ∨ (k ≠ 3 ∧ s.size ≠ 0) ∨ (k ≠ 5 ∧ l.length ≠ 0)
  · rw [if_pos c2] at h; omega
  rw [if_neg c2] at h
  by_cases c3 : usesN k ∧ (n < lo k ∨ hi k < n)
  · rw [if_pos c3] at h; omega
  rw [if_neg c3] at h
  have hk : k = 0 ∨ k = 1 ∨ k = 2 ∨ k = 3 ∨ k = 4 ∨ k = 5 ∨ k = 6 ∨ k = 7 := by omega
  have hs : k ≠ 3 → s = ⟨#[]⟩ := fun hk => empty_of (by
    rcases Nat.eq_zero_or_pos s.size with e | e
    · exact e
    · exact absurd (.inr (.inl ⟨hk, by omega⟩)) c2)
  have hl : k ≠ 5 → l = [] := fun hk => List.eq_nil_of_length_eq_zero (by
    rcases Nat.eq_zero_or_pos l.length with e | e
    · exact e
    · exact absurd (.inr (.inr ⟨hk, by omega⟩)) c2)
  have hn : ¬ usesN k → n = 0 := fun hk => by
    rcases Decidable.em (n = 0) with e | e
    · exact e
    · exact absurd (.inl ⟨hk, e⟩) c2
  have hr : usesN k → lo k ≤ n ∧ n ≤ hi k := fun hk => by
    rcases Decidable.em (lo k ≤ n ∧ n ≤ hi k) with e | e
    · exact e
    · exact absurd ⟨hk, by omega⟩ c3
  rcases hk with rfl | rfl | rfl | rfl | rfl | rfl | rfl | rfl
  · obtain rfl := hs (by omega); obtain rfl := hl (by omega); obtain rfl := hn (by simp [usesN]); exact .none
  · obtain rfl := hs (by omega); obtain rfl := hl (by omega); have := hr (by simp [usesN]); simp [lo, hi] at this; exact .special n this.1 this.2
  · obtain rfl := hs (by omega); obtain rfl := hl (by omega); have := hr (by simp [usesN]); simp [lo, hi] at this; exact .number n this.1 this.2
  · obtain rfl := hl (by omega); obtain rfl := hn (by simp [usesN])
    rw [if_pos rfl] at h
    unfold cText at h
    by_cases a : 200 < s.size
    · rw [if_pos a] at h; omega
    rw [if_neg a] at h
    by_cases b : TextBad s
    · rw [if_pos b] at h; omega
    refine .text s (by omega) fun x hx => ?_
    obtain ⟨j, hj, e⟩ := List.getElem_of_mem hx
    have hj' : j < s.size := by simpa using hj
    have hnb : ¬ badB s[j] := fun hb => b ⟨j, hj', hb⟩
    have e' : s[j] = x := by rw [← e]; rfl
    rw [e'] at hnb
    unfold badB at hnb; omega
  · obtain rfl := hs (by omega); obtain rfl := hl (by omega); have := hr (by simp [usesN]); simp [lo, hi] at this; exact .choice n this.1 this.2
  · obtain rfl := hs (by omega); obtain rfl := hn (by simp [usesN])
    rw [if_neg (by omega), if_pos rfl] at h
    unfold cSet at h
    by_cases a : 40 < l.length
    · rw [if_pos a] at h; omega
    rw [if_neg a] at h
    by_cases b : NumBad l
    · rw [if_pos b] at h; omega
    refine .choices l (by omega) fun j hj => ?_
    have : ¬ (l.getD j 0 < 1 ∨ 999 < l.getD j 0) := fun hb => b ⟨j, hj, hb⟩
    omega
  · obtain rfl := hs (by omega); obtain rfl := hl (by omega); have := hr (by simp [usesN]); simp [lo, hi] at this; exact .day n this.1 this.2
  · obtain rfl := hs (by omega); obtain rfl := hl (by omega); have := hr (by simp [usesN]); simp [lo, hi] at this; exact .bool n this.1 this.2

/-- The world with the box of the argument. -/
theorem box_bel (w : World) (o : Obj) : Below w.heap.size w (w.alloc o) := (Below.refl _ _).alloc (Nat.le_refl _) o

set_option maxHeartbeats 2000000 in
theorem shown_c (k n : Int) (s : ByteArray) (v : Value) (l : List Int) (w : World) (hv : IsL w v l) (hE : Env w) (hg : Good k n s l) :
    Calls Tryz.prog 32 #[.agg #[.int .i64 k, .int .i64 n, .string s, v]] w (TP (showT k n s l) w) := by
  have hc0 : ∀ o, (w.alloc o).cell? ⟨3, 0, none⟩ = some (.string ⟨#[100, 111, 110, 116, 107, 110, 111, 119]⟩) := fun o => (hE.alloc o).r0
  have hc1 : ∀ o, (w.alloc o).cell? ⟨3, 1, none⟩ = some (.string ⟨#[114, 101, 102, 117, 115, 101, 100]⟩) := fun o => (hE.alloc o).r1
  have hc2 : ∀ o, (w.alloc o).cell? ⟨3, 2, none⟩ = some (.string ⟨#[110, 111, 97, 110, 115, 119, 101, 114]⟩) := fun o => (hE.alloc o).r2
  have HE := Lib.hid hE; clear hE
  have HV := Lib.hid hv
  obtain ⟨a, len, c, rfl⟩ := hv.form
  clear hv
  cases hg with
  | none =>
    clear hc0 hc1 hc2
    go_enter Tryz.func32, Tryz.ntmps32
    go_wp2
    go_ret
    exact tp_ret rfl (by simp [showT]) (box_bel _ _)
  | special n h1 h2 =>
    have hn : n = 1 ∨ n = 2 ∨ n = 3 := by omega
    clear h1 h2
    rcases hn with rfl | rfl | rfl
    all_goals
      go_enter Tryz.func32, Tryz.ntmps32
      go_wp2
      go_ret
      exact tp_ret rfl (by simp [showT, reasonT]) (box_bel _ _)
  | number n h1 h2 =>
    clear hc0 hc1 hc2
    go_enter Tryz.func32, Tryz.ntmps32
    go_wp2_with fail
    refine (shownNumber_c _ _ (HE.out.alloc _) (by omega) (by omega)).mono ?_
    rintro e w1 ⟨t, rfl, hs, ht, HB⟩
    go_wp2
    go_ret
    exact tp_ret ht.out (by have := ht.out ▸ hs; rw [bs_size] at this; exact this) ((box_bel _ _).trans (HB.out.mono (by simp)))
  | text s h hb =>
    have HB0 := Lib.hid hb; clear hb hc0 hc1 hc2
    have hR := Lib.hid (fun w (hE : Env w) => replaceAll_c s ⟨#[39]⟩ ⟨#[39, 39]⟩ w hE (by omega) (by decide) (by decide) (by
      show (Lib.replaceAll s.data.toList [39] [39, 39]).length ≤ _
      rw [Txt.dbl_eq]
      have := Txt.dbl_len s.data.toList
      rw [← Lib.size_eq] at this; omega))
    go_enter Tryz.func32, Tryz.ntmps32
    go_wp2_with fail
    refine (hR.out _ (HE.out.alloc _)).mono ?_
    rintro e w1 ⟨t, rfl, hs, ht, HB⟩
    have ht' : Hid (t = bs (Txt.dbl s.data.toList)) := by unfold Hid; rw [← Txt.dbl_eq]; exact ht.out
    go_wp2
    go_ret
    refine tp_ret (l := showT 3 0 s []) ?_ ?_ ((box_bel _ _).trans (HB.out.mono (by simp)))
    · show bs [39] ++ t ++ bs [39] = _
      rw [ht'.out, bs_app, bs_app]
      simp [showT]
    · have := Txt.dbl_len s.data.toList
      rw [← Lib.size_eq] at this
      simp [showT]; omega
  | choice n h1 h2 =>
    clear hc0 hc1 hc2
    go_enter Tryz.func32, Tryz.ntmps32
    go_wp2_with fail
    refine (itoa_c _ _ (HE.out.alloc _) (by omega) (by omega)).mono ?_
    rintro e w1 ⟨t, rfl, hs, ht, HB⟩
    have hl : Hid ((showT 4 n ⟨#[]⟩ []).length ≤ 10000000) := by
      unfold Hid showT; simp
      have := code_len n (by omega) (by omega); omega
    go_wp2
    go_ret
    refine tp_ret (l := showT 4 n ⟨#[]⟩ []) ?_ hl.out ((box_bel _ _).trans (HB.out.mono (by simp)))
    show bs [35] ++ t = _
    rw [ht.out, bs_app]
    simp [showT, Txt.codeT]
  | choices l h hx =>
    clear hc0 hc1 hc2
    have HX := Lib.hid hx; clear hx
    go_enter Tryz.func32, Tryz.ntmps32
    go_wp2_with fail
    refine (shownSet_c _ l _ (HV.out.alloc _) (HE.out.alloc _) h HX.out).mono ?_
    rintro e w1 ⟨t, rfl, hs, ht, HB⟩
    go_wp2
    go_ret
    exact tp_ret ht.out (by have := ht.out ▸ hs; rw [bs_size] at this; exact this) ((box_bel _ _).trans (HB.out.mono (by simp)))
  | day n h1 h2 =>
    clear hc0 hc1 hc2
    obtain ⟨y, m, d, hd⟩ := has_date n h1 h2
    have hD := Lib.hid (fun w (hE : Env w) => shownDay_c n y m d w hE h1 h2 hd)
    have e0 : Hid (showT 6 n ⟨#[]⟩ [] = Txt.dayT y m d) := by unfold Hid showT; simp [dayOf_eq hd]
    clear hd
    go_enter Tryz.func32, Tryz.ntmps32
    go_wp2_with fail
    refine (hD.out _ (HE.out.alloc _)).mono ?_
    rintro e w1 ⟨t, rfl, hs, ht, HB⟩
    go_wp2
    go_ret
    rw [e0.out]
    exact tp_ret ht.out (by have := ht.out ▸ hs; rw [bs_size] at this; exact this) ((box_bel _ _).trans (HB.out.mono (by simp)))
  | bool n h1 h2 =>
    clear hc0 hc1 hc2
    have hn : n = 0 ∨ n = 1 := by omega
    clear h1 h2
    rcases hn with rfl | rfl
    · go_enter Tryz.func32, Tryz.ntmps32
      go_wp2_with fail
      have hF := Tryz.strconv_FormatBool false (w.alloc (.cells #[.int .i64 7, .int .i64 0, .string ⟨#[]⟩, .slice a len c] 24))
      rw [formatBool_eq] at hF
      refine hF.mono ?_
      rintro e w1 ⟨rfl, rfl⟩
      go_wp2
      go_ret
      exact tp_ret rfl (by simp [showT, boolT]) (box_bel _ _)
    · go_enter Tryz.func32, Tryz.ntmps32
      go_wp2_with fail
      have hF := Tryz.strconv_FormatBool true (w.alloc (.cells #[.int .i64 7, .int .i64 1, .string ⟨#[]⟩, .slice a len c] 24))
      rw [formatBool_eq] at hF
      refine hF.mono ?_
      rintro e w1 ⟨rfl, rfl⟩
      go_wp2
      go_ret
      exact tp_ret rfl (by simp [showT, boolT]) (box_bel _ _)

/-- Show: a text, or the fault of Check. -/
def ShowPost (k n : Int) (s : ByteArray) (l : List Int) (w : World) (e : Ending) (w' : World) : Prop :=
  ∃ t : ByteArray, e = .returned (.tuple #[.string t, .int .i64 (cChk k n s l)]) ∧ t.size ≤ 10000000 ∧ Hid (cChk k n s l = 0 → t = bs (showT k n s l)) ∧ Hid (cChk k n s l ≠ 0 → t = ⟨#[]⟩) ∧ Hid (Below w.heap.size w w')
end Go.Proofs.YtcdifmnakppfkaaGreatDoor
