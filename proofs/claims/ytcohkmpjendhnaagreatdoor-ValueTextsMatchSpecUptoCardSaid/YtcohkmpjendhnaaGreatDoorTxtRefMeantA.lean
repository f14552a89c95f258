/-
  What Read of the reference makes of a text: the parts.
-/
import Derived.Test.YtcohkmpjendhnaaGreatDoorTxtMeantB
import Derived.Test.YtcohkmpjendhnaaGreatDoorTxtMeantC
import Derived.Test.YtcohkmpjendhnaaGreatDoorTxtBackR
import Derived.Test.YtcohkmpjendhnaaGreatDoorTxtRefDays
import Derived.Shelf.Strings.SlTrimAscii
import Derived.Lib.SplitLaws
namespace Go.Proofs.YtcohkmpjendhnaaGreatDoor
open Go.RowKit

/-- The number that Atoi gives beside whatever error. -/
theorem ratoi_c (s : ByteArray) (w : World) (hE : Env w) (hs : s.size ≤ 281474976710656) :
    Calls Tryz.prog 45 #[.string s] w fun e w' => ∃ x, e = .returned (.tuple #[.int .i64 (atoiV s.data.toList), x]) ∧ Hid (x = .nilIface ∨ ∃ t p, x = .iface t p) ∧ Below w.heap.size w w' := by
  obtain ⟨t1, p1, e1⟩ := hE.syn
  obtain ⟨t2, p2, e2⟩ := hE.rng
  rcases e : Lib.atoiAll s.data.toList with v | _ | _
  · have : atoiV s.data.toList = v := by unfold atoiV; rw [e]
    rw [this]
    exact (atoi_ok s v w hs e).mono fun _ _ ⟨he, hb⟩ => ⟨_, he, .inl rfl, hb⟩
  · have : atoiV s.data.toList = 0 := by unfold atoiV; rw [e]
    rw [this]
    exact (Any.strconv_Atoi_syntax Tryz.laysC172 s hs e _ w e1 (.inr ⟨_, _, rfl⟩)).mono fun _ _ ⟨N, he, _, _, hb⟩ => ⟨_, he, .inr ⟨_, _, rfl⟩, hb⟩
  · have : atoiV s.data.toList = Lib.atoiSat s.data.toList := by unfold atoiV; rw [e]
    rw [this]
    exact (Any.strconv_Atoi_range Tryz.laysC172 s hs e _ w e2 (.inr ⟨_, _, rfl⟩)).mono fun _ _ ⟨N, he, _, _, hb⟩ => ⟨_, he, .inr ⟨_, _, rfl⟩, hb⟩
theorem hasPrefix_c (t p : ByteArray) (w : World) :
    Calls Tryz.prog 44 #[.string t, .string p] w fun e w' => e = .returned (.bool (Lib.hasPrefix t.data.toList p.data.toList)) ∧ w' = w := Tryz.strings_HasPrefix t p w
theorem trimDash_c (t : ByteArray) (w : World) :
    Calls Tryz.prog 48 #[.string t, .string ⟨#[45]⟩] w fun e w' => e = .returned (.string (bs (Lib.trimPrefix t.data.toList [45]))) ∧ w' = w :=
  Tryz.strings_TrimPrefix t ⟨#[45]⟩ w

set_option maxHeartbeats 1000000 in
theorem readDecimal_c (t : ByteArray) (w : World) (hE : Env w) (hs : t.size ≤ 2000000) :
    Calls Tryz.prog 50 #[.string t] w fun e w' => e = .returned (.int .i64 (decV t.data.toList)) ∧ Below w.heap.size w w' := by
  obtain ⟨p, hp⟩ : ∃ p, p = bs (Lib.trimPrefix t.data.toList [45]) := ⟨_, rfl⟩
  obtain ⟨bl, hbl⟩ : ∃ bl, bl = Lib.hasPrefix t.data.toList [45] := ⟨_, rfl⟩
  obtain ⟨a, ha⟩ : ∃ a, a = bs (numP t.data.toList).1 := ⟨_, rfl⟩
  obtain ⟨b, hb⟩ : ∃ b, b = bs (numP t.data.toList).2 := ⟨_, rfl⟩
  obtain ⟨f, hf⟩ : ∃ f, f = (Lib.cut (Lib.trimPrefix t.data.toList [45]) [46]).2.2 := ⟨_, rfl⟩
  have pl : p.data.toList = Lib.trimPrefix t.data.toList [45] := by rw [hp, bs_list]
  have ps : p.size ≤ 2000000 := by
    rw [Lib.size_eq, pl]; have := Lib.trimPrefix_le t.data.toList [45]; rw [← Lib.size_eq] at this; omega
  have hC0 : Hid (∀ w, Calls Tryz.prog 44 #[.string t, .string ⟨#[45]⟩] w fun e w' => e = .returned (.bool bl) ∧ w' = w) := by
    intro w; rw [hbl]; exact hasPrefix_c t _ w
  have hC1 : Hid (∀ w, Calls Tryz.prog 48 #[.string t, .string ⟨#[45]⟩] w fun e w' => e = .returned (.string p) ∧ w' = w) := by
    intro w; rw [hp]; exact trimDash_c t w
  have hC2 : Hid (∀ w, Env w → Calls Tryz.prog 72 #[.string p, .string ⟨#[46]⟩] w fun e w' => e = .returned (.tuple #[.string a, .string b, .bool f]) ∧ Below w.heap.size w w') := by
    intro w hE
    have := cut_c p w hE (by omega)
    rw [pl] at this
    rw [ha, hb, hf]; exact this
  have az : a.size = (numP t.data.toList).1.length := by rw [ha, bs_size]
  have bz : b.size = (numP t.data.toList).2.length := by rw [hb, bs_size]
  have al : a.data.toList = (numP t.data.toList).1 := by rw [ha, bs_list]
  have bl' : b.data.toList = (numP t.data.toList).2 := by rw [hb, bs_list]
  have eN : Hid (decV t.data.toList = if 4 < b.size ∨ 12 < a.size then 0 else if bl then -(atoiV a.data.toList * 10000 + atoiV (b.data.toList ++ List.replicate (4 - b.size) 48)) else atoiV a.data.toList * 10000 + atoiV (b.data.toList ++ List.replicate (4 - b.size) 48)) := by unfold Hid decV; rw [az, bz, hbl, al, bl']
  have sz : a.size ≤ 2000000 ∧ b.size ≤ 2000000 := by
    have h := cut_le (Lib.trimPrefix t.data.toList [45])
    rw [Lib.size_eq, pl] at ps
    unfold numP at az bz
    simp only at az bz
    omega
  have la := Lib.size_eq a
  clear hp hbl ha hb hf pl az bz al bl'
  have HE := Lib.hid hE; clear hE
  obtain ⟨sa, sb⟩ := sz
  by_cases h4 : 4 < b.size
  · have n1 : Hid (decV t.data.toList = 0) := by unfold Hid; rw [eN.out, if_pos (.inl h4)]
    have h' : (4 : Int) < b.size := by omega
    clear h4 la
    go_enter Tryz.func50, Tryz.ntmps50
    go_wp2_with fail
    refine (hC0.out _).mono ?_
    rintro e w1 ⟨rfl, rfl⟩
    go_wp2_with fail
    refine (hC1.out _).mono ?_
    rintro e w1 ⟨rfl, rfl⟩
    go_wp2_with fail
    refine (hC2.out _ HE.out).mono ?_
    rintro e w1 ⟨rfl, hB⟩
    have HB := Lib.hid hB; clear hB
    go_wp2
    go_ret
    exact ⟨by rw [n1.out]; rfl, HB.out⟩
  · have h4' : decide ((4 : Int) < b.size) = false := by simp; omega
    by_cases h12 : 12 < a.size
    · have n1 : Hid (decV t.data.toList = 0) := by unfold Hid; rw [eN.out, if_pos (.inr h12)]
      have h' : (12 : Int) < a.size := by omega
      clear h4 h12 la
      go_enter Tryz.func50, Tryz.ntmps50
      go_wp2_with fail
      refine (hC0.out _).mono ?_
      rintro e w1 ⟨rfl, rfl⟩
      go_wp2_with fail
      refine (hC1.out _).mono ?_
      rintro e w1 ⟨rfl, rfl⟩
      go_wp2_with fail
      refine (hC2.out _ HE.out).mono ?_
      rintro e w1 ⟨rfl, hB⟩
      have HB := Lib.hid hB; clear hB
      go_wp2
      go_ret
      exact ⟨by rw [n1.out]; rfl, HB.out⟩
    · have h12' : decide ((12 : Int) < a.size) = false := by simp; omega
      have n1 : Hid (decV t.data.toList = if bl then -(atoiV a.data.toList * 10000 + atoiV (b.data.toList ++ List.replicate (4 - b.size) 48)) else atoiV a.data.toList * 10000 + atoiV (b.data.toList ++ List.replicate (4 - b.size) 48)) := by unfold Hid; rw [eN.out, if_neg (by omega)]
      have x2 := atoiV_lt (l := a.data.toList) (k := 12) (by omega) (by omega)
      obtain ⟨l, hl⟩ : ∃ l, l = b.data.toList ++ List.replicate (4 - b.size) 48 := ⟨_, rfl⟩
      have ll : l.length = 4 := by rw [hl, List.length_append, List.length_replicate, ← Lib.size_eq]; omega
      have y2 := atoiV_lt (l := l) (k := 4) (by omega) (by omega)
      have hN1 : Hid (∀ w, Env w → Calls Tryz.prog 45 #[.string a] w fun e w' => ∃ x, e = .returned (.tuple #[.int .i64 (atoiV a.data.toList), x]) ∧ Hid (x = .nilIface ∨ ∃ t p, x = .iface t p) ∧ Below w.heap.size w w') := fun w hE => ratoi_c a w hE (by omega)
      have hN2 : Hid (∀ w z, Env w → z = bs (List.replicate (4 - b.size) 48) → Calls Tryz.prog 45 #[.string (b ++ z)] w fun e w' => ∃ x, e = .returned (.tuple #[.int .i64 (atoiV l), x]) ∧ Hid (x = .nilIface ∨ ∃ t p, x = .iface t p) ∧ Below w.heap.size w w') := fun w z hE hz => by
        have e : (b ++ z).data.toList = l := by rw [hz, hl]; simp [ByteArray.data_append, bs_list]
        have := ratoi_c (b ++ z) w hE (by rw [Lib.size_eq, e]; omega)
        rw [e] at this; exact this
      have eV' : Hid (decV t.data.toList = if bl then -(atoiV a.data.toList * 10000 + atoiV l) else atoiV a.data.toList * 10000 + atoiV l) := by unfold Hid; rw [n1.out, hl]
      clear n1 eN hl ll la
      generalize atoiV a.data.toList = x at x2 hN1 eV'
      generalize atoiV l = y at y2 hN2 eV'
      obtain ⟨x3, x4⟩ : -1000000000000 < x ∧ x < 1000000000000 := by simpa using x2
      obtain ⟨y3, y4⟩ : -10000 < y ∧ y < 10000 := by simpa using y2
      have hb4 : b.size ≤ 4 := by omega
      clear x2 y2 h4 h12
      cases bl
      all_goals
        go_enter Tryz.func50, Tryz.ntmps50
        go_wp2_with fail
        refine (hC0.out _).mono ?_
        rintro e w1 ⟨rfl, rfl⟩
        go_wp2_with fail
        refine (hC1.out _).mono ?_
        rintro e w1 ⟨rfl, rfl⟩
        go_wp2_with fail
        refine (hC2.out _ HE.out).mono ?_
        rintro e w1 ⟨rfl, hB⟩
        have B1 := Lib.hid hB; clear hB
        go_wp2_with fail
        refine (hN1.out _ (HE.out.below B1.out)).mono ?_
        rintro e w2 ⟨x1, rfl, _, hB⟩
        have B2 := Lib.hid (B1.out.trans (hB.mono B1.out.size)); clear hB
        go_wp2_with fail
        rw [show (4 : Int) - (b.size : Int) = ((4 - b.size : Nat) : Int) by omega]
        refine (repeat_c _ _ _ (by decide) (by omega)).mono ?_
        rintro e w3 ⟨z, rfl, hz, hz2, hB⟩
        have B3 := Lib.hid (B2.out.trans (hB.out.mono B2.out.size)); clear hB
        go_wp2_with fail
        refine (hN2.out _ z (HE.out.below B3.out) (by rw [hz2.out]; exact congrArg bs (rep48 _))).mono ?_
        rintro e w4 ⟨x1, rfl, _, hB⟩
        have B4 := Lib.hid (B3.out.trans (hB.mono B3.out.size)); clear hB
        go_wp2
        go_ret
        exact ⟨by rw [eV'.out]; simp, B4.out⟩

/-! ### The parts of a set -/
theorem trimB_c (t : ByteArray) (w : World) (h0 : 0 < t.size) (hs : t.size ≤ 2000000) :
    Calls Tryz.prog 47 #[.string t, .string ⟨#[123, 125]⟩] w fun e w' => e = .returned (.string (bs (Lib.trimS t.data.toList [123, 125]))) ∧ Below w.heap.size w w' :=
  (Any.strings_Trim_set Tryz.lays160 (fun w => by kernel_rfl) (by kernel_rfl) t ⟨#[123, 125]⟩ w (by decide) h0 (by omega) (by decide) (by
    intro j b h
    match j, h with
    | 0, h => simp at h; subst h; decide
    | 1, h => simp at h; subst h; decide)).mono fun _ _ ⟨he, q, hw⟩ => ⟨he, by rw [hw]; exact below_drewN (((Below.refl _ _).alloc (Nat.le_refl _) _).alloc (by simp) _) q⟩
/-- The pieces of a text, as the reference cuts it. -/
def piecesB (t : ByteArray) : List ByteArray := Lib.splitB ⟨#[44]⟩ 0 (Lib.countB t ⟨#[44]⟩) t
theorem split_c (t : ByteArray) (w : World) (hE : Env w) (hs : t.size ≤ 2000000) :
    Calls Tryz.prog 46 #[.string t, .string ⟨#[44]⟩] w fun e w' => e = .returned (.slice (some ⟨w.heap.size, 0, none⟩) (piecesB t).length (piecesB t).length) ∧ w' = w.alloc (.cells ((piecesB t).map Value.string).toArray 9) := by
  obtain ⟨m, hm⟩ := hE.mx
  refine (Tryz.strings_Split t ⟨#[44]⟩ m w (by omega) hm (by decide)).mono ?_
  rintro e w' ⟨he, hw⟩
  have : (piecesB t).length = Lib.countB t ⟨#[44]⟩ + 1 := by unfold piecesB; exact Lib.splitB_all _ (by decide) 0 _ _ rfl
  rw [this]; exact ⟨he, hw⟩
theorem piecesB_len (t : ByteArray) (h : t.size ≤ 2000000) : (piecesB t).length ≤ 2000001 := by
  have e : (piecesB t).length = Lib.countB t ⟨#[44]⟩ + 1 := by unfold piecesB; exact Lib.splitB_all _ (by decide) 0 _ _ rfl
  have := Lib.countB_le ⟨#[44]⟩ (by decide) t.size t (Nat.le_refl _)
  omega
theorem piecesB_small (t : ByteArray) (n : Nat) (h : t.size ≤ n) : ∀ p ∈ piecesB t, p.size ≤ n := splitB_small _ _ _ _ n (by simp [ByteArray.size]) h
/-- The numbers of the pieces that are not empty. -/
def keepB (ps : List ByteArray) : List Int := (ps.filter fun p => p.size != 0).map fun p => atoiV (Lib.trimPrefix p.data.toList [35])
theorem keepB_eq (ps : List ByteArray) : keepR (ps.map (·.data.toList)) = keepB ps := by
  unfold keepR keepB
  induction ps with
  | nil => rfl
  | cons p r ih =>
    have e : (!p.data.toList.isEmpty) = (p.size != 0) := by
      rw [Lib.size_eq]; cases p.data.toList <;> rfl
    simp only [List.map_cons, List.filter_cons, e]
    split
    · simp only [List.map_cons, ih]
    · exact ih
theorem keepB_take (ps : List ByteArray) (k : Nat) (h : k < ps.length) :
    keepB (ps.take (k + 1)) = keepB (ps.take k) ++ if (ps.getD k ⟨#[]⟩).size = 0 then [] else [atoiV (Lib.trimPrefix (ps.getD k ⟨#[]⟩).data.toList [35])] := by
  have e : ps.getD k ⟨#[]⟩ = ps[k] := by simp [List.getD_eq_getElem?_getD, h]
  rw [List.take_add_one, List.getElem?_eq_getElem h, e]
  unfold keepB
  show List.map _ (List.filter _ (ps.take k ++ [ps[k]])) = _
  rw [List.filter_append, List.map_append]
  congr 1
  by_cases h0 : ps[k].size = 0 <;> simp [h0]
theorem setR_pieces (t : List UInt8) : setR t = keepB (piecesB (bs (Lib.trimS t [123, 125]))) := by
  rw [← keepB_eq]
  unfold piecesB setR
  have e := Lib.splitB_data ⟨#[44]⟩ 0 (Lib.countB (bs (Lib.trimS t [123, 125])) ⟨#[44]⟩) (bs (Lib.trimS t [123, 125]))
  rw [e, bs_list]
  show keepR (Lib.splitK [44] 0 (Lib.count _ _) _) = keepR (Lib.splitK [44] 0 (Lib.count (bs _).data.toList [44]) _)
  rw [bs_list]
theorem trimS_le (t c : List UInt8) : (Lib.trimS t c).length ≤ t.length := by
  unfold Lib.trimS Lib.trimLeftS Lib.trimRightS
  have h1 := (List.dropWhile_sublist (l := t.reverse) (c.contains ·)).length_le
  have h2 := (List.dropWhile_sublist (l := (t.reverse.dropWhile (c.contains ·)).reverse) (c.contains ·)).length_le
  simp only [List.length_reverse] at h1 h2 ⊢
  first | omega | (rw [List.length_reverse] at *; omega)
end Go.Proofs.YtcohkmpjendhnaaGreatDoor
