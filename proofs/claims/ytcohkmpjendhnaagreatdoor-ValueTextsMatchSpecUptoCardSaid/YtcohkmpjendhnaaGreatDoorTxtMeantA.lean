/-
  What Read of package value makes of a text: the parts.
-/
import Derived.Test.YtcohkmpjendhnaaGreatDoorTxtBack
import Derived.Deep.RegionHeld3
import Derived.Deep.DrawnRows
attribute [local go_sem ↓] Go.wp_at_zero Go.wp_at_succ
namespace Go.Proofs.YtcohkmpjendhnaaGreatDoor
open Go.RowKit

theorem extract_bs (t : ByteArray) (a b : Nat) : t.extract a b = bs ((t.data.toList.drop a).take (b - a)) := Lib.extract_eq t a b
theorem extract_end (t : ByteArray) (a : Nat) : t.extract a t.size = bs (t.data.toList.drop a) := by
  rw [extract_bs, List.take_of_length_le]
  rw [List.length_drop, ← Lib.size_eq]; exact Nat.le_refl _
theorem inside_le (l : List UInt8) : (insideT l).length ≤ l.length := by
  unfold insideT; rw [List.length_take, List.length_drop]; omega
theorem inside_c (t : ByteArray) (w : World) (h1 : 1 ≤ t.size) (h2 : t.size ≤ 2000000) :
    Calls Tryz.prog 39 #[.string t] w (TP (insideT t.data.toList) w) := by
  have e : Hid (t.extract 1 (max (1 : Int) ((t.size : Int) - 1)).toNat = bs (insideT t.data.toList)) := by
    unfold Hid insideT; rw [extract_bs, ← Lib.size_eq]; congr 2; omega
  have h3 : Hid ((insideT t.data.toList).length ≤ 10000000) := by
    have := inside_le t.data.toList
    rw [← Lib.size_eq] at this
    unfold Hid; omega
  go_enter Tryz.func39, Tryz.ntmps39
  go_wp2_with fail
  go_ret
  exact tp_ret e.out h3.out (Below.refl _ _)

/-- A value without a text and without a set comes back. -/
def KN (k n : Int) (w : World) (e : Ending) (w' : World) : Prop := e = .returned (kn k n) ∧ Below w.heap.size w w'
theorem number_c (n : Int) (w : World) : Calls Tryz.prog 73 #[.int .i64 n] w (KN 2 n w) := by
  go_enter Tryz.func73, Tryz.ntmps73
  go_wp2
  refine bodyPost_ret (v := kn 2 n) (by simp [results, Tryz.results73, go_sem]) rfl ⟨rfl, ?_⟩
  exact (Below.refl _ _).alloc (Nat.le_refl _) _
theorem boolean_c (b : Bool) (w : World) : Calls Tryz.prog 38 #[.bool b] w (KN 7 (if b then 1 else 0) w) := by
  cases b
  all_goals
    go_enter Tryz.func38, Tryz.ntmps38
    go_wp2
    first
      | (refine bodyPost_ret (v := kn 7 0) (by simp [results, Tryz.results38, go_sem]) rfl ⟨rfl, ?_⟩)
      | (refine bodyPost_ret (v := kn 7 1) (by simp [results, Tryz.results38, go_sem]) rfl ⟨rfl, ?_⟩)
    exact (Below.refl _ _).alloc (Nat.le_refl _) _

theorem below4 {B b : Nat} {w w1 : World} (h : Below B w w1) (hb : B ≤ b) (x0 x1 x2 x3 : Value) :
    Below B w ((((w1.setCell ⟨b, 0, none⟩ x0).setCell ⟨b, 1, none⟩ x1).setCell ⟨b, 2, none⟩ x2).setCell ⟨b, 3, none⟩ x3) :=
  (((h.setCell (p := ⟨b, 0, none⟩) hb _).setCell (p := ⟨b, 1, none⟩) hb _).setCell (p := ⟨b, 2, none⟩) hb _).setCell (p := ⟨b, 3, none⟩) hb _

/-! ### Numbers -/
theorem decNat_lt {l : List UInt8} {m : Nat} (h : Lib.decNat l = some m) : m < 10 ^ l.length := by
  obtain ⟨_, h2⟩ := Lib.decNat_some h
  have := Lib.decFrom_lt l 0 m h2
  simpa using this
theorem atoi_lt {l : List UInt8} {n : Int} (h : Lib.atoi l = some n) : n.natAbs < 10 ^ l.length := by
  cases l with
  | nil => simp [Lib.atoi] at h
  | cons b r =>
    have hp : 10 ^ r.length ≤ 10 ^ (b :: r).length := Nat.pow_le_pow_right (by decide) (by simp)
    simp only [Lib.atoi] at h
    split at h
    · obtain ⟨m, hm, rfl⟩ := Option.map_eq_some_iff.1 h
      have := decNat_lt hm; omega
    · split at h
      · obtain ⟨m, hm, rfl⟩ := Option.map_eq_some_iff.1 h
        have := decNat_lt hm; omega
      · obtain ⟨m, hm, rfl⟩ := Option.map_eq_some_iff.1 h
        have := decNat_lt hm; omega
theorem natF_lt {l : List UInt8} {k : Nat} (hl : l.length ≤ k) (hk : k ≤ 18) : Txt.natF l < (10 ^ k : Nat) := by
  have h1 : (1 : Nat) ≤ 10 ^ k := Nat.one_le_pow _ _ (by decide)
  unfold Txt.natF
  rw [Lib.atoiAll_short l (by omega)]
  cases e : Lib.atoi l with
  | none => simp only [Lib.NumEnd.ofOption]; omega
  | some n =>
    simp only [Lib.NumEnd.ofOption]
    have h2 := atoi_lt e
    have h3 : 10 ^ l.length ≤ 10 ^ k := Nat.pow_le_pow_right (by decide) hl
    split <;> omega
theorem cutPrefix_c (t : ByteArray) (w : World) :
    Calls Tryz.prog 71 #[.string t, .string ⟨#[45]⟩] w fun e w' => e = .returned (.tuple #[.string (bs (Lib.trimPrefix t.data.toList [45])), .bool (Lib.hasPrefix t.data.toList [45])]) ∧ w' = w :=
  Tryz.strings_CutPrefix t ⟨#[45]⟩ w
theorem cut_c (t : ByteArray) (w : World) (hE : Env w) (hs : t.size ≤ 10000000) :
    Calls Tryz.prog 72 #[.string t, .string ⟨#[46]⟩] w fun e w' => e = .returned (.tuple #[.string (bs (Lib.cut t.data.toList [46]).1), .string (bs (Lib.cut t.data.toList [46]).2.1), .bool (Lib.cut t.data.toList [46]).2.2]) ∧ Below w.heap.size w w' := by
  obtain ⟨m, hm⟩ := hE.mx
  exact (Tryz.strings_Cut t ⟨#[46]⟩ m w (by omega) hm).mono fun _ _ ⟨he, n, hw⟩ => ⟨he, by rw [hw]; exact below_drewN (Below.refl _ _) n⟩
theorem cut_le (l : List UInt8) : (Lib.cut l [46]).1.length ≤ l.length ∧ (Lib.cut l [46]).2.1.length ≤ l.length := by
  unfold Lib.cut
  split
  · simp only [List.length_take, List.length_drop]; omega
  · simp

set_option maxHeartbeats 1000000 in
theorem meantNumber_c (t : ByteArray) (w : World) (hE : Env w) (hs : t.size ≤ 2000000) :
    Calls Tryz.prog 43 #[.string t] w (KN (numK t.data.toList) (numN t.data.toList) w) := by
  obtain ⟨p, hp⟩ : ∃ p, p = bs (Lib.trimPrefix t.data.toList [45]) := ⟨_, rfl⟩
  obtain ⟨bl, hbl⟩ : ∃ bl, bl = Lib.hasPrefix t.data.toList [45] := ⟨_, rfl⟩
  obtain ⟨a, ha⟩ : ∃ a, a = bs (numP t.data.toList).1 := ⟨_, rfl⟩
  obtain ⟨b, hb⟩ : ∃ b, b = bs (numP t.data.toList).2 := ⟨_, rfl⟩
  obtain ⟨f, hf⟩ : ∃ f, f = (Lib.cut (Lib.trimPrefix t.data.toList [45]) [46]).2.2 := ⟨_, rfl⟩
  have pl : p.data.toList = Lib.trimPrefix t.data.toList [45] := by rw [hp, bs_list]
  have ps : p.size ≤ 2000000 := by
    rw [Lib.size_eq, pl]; have := Lib.trimPrefix_le t.data.toList [45]; rw [← Lib.size_eq] at this; omega
  have hC1 : Hid (∀ w, Calls Tryz.prog 71 #[.string t, .string ⟨#[45]⟩] w fun e w' => e = .returned (.tuple #[.string p, .bool bl]) ∧ w' = w) := by
    intro w; rw [hp, hbl]; exact cutPrefix_c t w
  have hC2 : Hid (∀ w, Env w → Calls Tryz.prog 72 #[.string p, .string ⟨#[46]⟩] w fun e w' => e = .returned (.tuple #[.string a, .string b, .bool f]) ∧ Below w.heap.size w w') := by
    intro w hE
    have := cut_c p w hE (by omega)
    rw [pl] at this
    rw [ha, hb, hf]; exact this
  have az : a.size = (numP t.data.toList).1.length := by rw [ha, bs_size]
  have bz : b.size = (numP t.data.toList).2.length := by rw [hb, bs_size]
  have al : a.data.toList = (numP t.data.toList).1 := by rw [ha, bs_list]
  have bl' : b.data.toList = (numP t.data.toList).2 := by rw [hb, bs_list]
  have eK : Hid (numK t.data.toList = if 11 < a.size ∨ 4 < b.size then 0 else 2) := by unfold Hid numK; rw [az, bz]
  have eN : Hid (numN t.data.toList = if 11 < a.size ∨ 4 < b.size then 0 else if bl then -numV t.data.toList else numV t.data.toList) := by unfold Hid numN; rw [az, bz, hbl]
  have eV : Hid (numV t.data.toList = Txt.natF a.data.toList * 10000 + max 0 (Txt.natF (b.data.toList ++ List.replicate (4 - b.size) 48))) := by unfold Hid numV; rw [al, bl', bz]
  have sz : a.size ≤ 2000000 ∧ b.size ≤ 2000000 := by
    have h := cut_le (Lib.trimPrefix t.data.toList [45])
    rw [Lib.size_eq, pl] at ps
    unfold numP at az bz
    simp only at az bz
    omega
  have la := Lib.size_eq a
  clear hp hbl ha hb hf pl az bz al bl'
  have HE := Lib.hid hE; clear hE
  obtain ⟨sa, sb⟩ := sz
  by_cases h11 : 11 < a.size
  · have k1 : Hid (numK t.data.toList = 0) := by unfold Hid; rw [eK.out, if_pos (.inl h11)]
    have n1 : Hid (numN t.data.toList = 0) := by unfold Hid; rw [eN.out, if_pos (.inl h11)]
    have h' : (11 : Int) < a.size := by omega
    clear h11 la
    go_enter Tryz.func43, Tryz.ntmps43
    go_wp2_with fail
    refine (hC1.out _).mono ?_
    rintro e w1 ⟨rfl, rfl⟩
    go_wp2_with fail
    refine (hC2.out _ (HE.out.alloc _)).mono ?_
    rintro e w1 ⟨rfl, hB⟩
    have HB := Lib.hid hB
    obtain ⟨bc, bf⟩ := bcell hB
    clear hB
    go_wp2
    rw [k1.out, n1.out]
    refine bodyPost_ret (v := kn 0 0) (by simp [results, Tryz.results43, go_sem, bc]) rfl ⟨rfl, ?_⟩
    exact below4 ((box_bel _ _).trans (HB.out.mono (by simp))) (Nat.le_refl _) _ _ _ _
  · have h11' : decide ((11 : Int) < a.size) = false := by simp; omega
    by_cases h4 : 4 < b.size
    · have k1 : Hid (numK t.data.toList = 0) := by unfold Hid; rw [eK.out, if_pos (.inr h4)]
      have n1 : Hid (numN t.data.toList = 0) := by unfold Hid; rw [eN.out, if_pos (.inr h4)]
      have h' : (4 : Int) < b.size := by omega
      clear h4 h11 la
      go_enter Tryz.func43, Tryz.ntmps43
      go_wp2_with fail
      refine (hC1.out _).mono ?_
      rintro e w1 ⟨rfl, rfl⟩
      go_wp2_with fail
      refine (hC2.out _ (HE.out.alloc _)).mono ?_
      rintro e w1 ⟨rfl, hB⟩
      have HB := Lib.hid hB
      obtain ⟨bc, bf⟩ := bcell hB
      clear hB
      go_wp2
      rw [k1.out, n1.out]
      refine bodyPost_ret (v := kn 0 0) (by simp [results, Tryz.results43, go_sem, bc]) rfl ⟨rfl, ?_⟩
      exact below4 ((box_bel _ _).trans (HB.out.mono (by simp))) (Nat.le_refl _) _ _ _ _
    · have h4' : decide ((4 : Int) < b.size) = false := by simp; omega
      have k1 : Hid (numK t.data.toList = 2) := by unfold Hid; rw [eK.out, if_neg (by omega)]
      have n1 : Hid (numN t.data.toList = if bl then -numV t.data.toList else numV t.data.toList) := by unfold Hid; rw [eN.out, if_neg (by omega)]
      have x1 := Txt.natF_ge a.data.toList
      have x2 := natF_lt (l := a.data.toList) (k := 11) (by omega) (by omega)
      obtain ⟨l, hl⟩ : ∃ l, l = b.data.toList ++ List.replicate (4 - b.size) 48 := ⟨_, rfl⟩
      have ll : l.length = 4 := by rw [hl, List.length_append, List.length_replicate, ← Lib.size_eq]; omega
      have y1 := Txt.natF_ge l
      have y2 := natF_lt (l := l) (k := 4) (by omega) (by omega)
      have hN1 : Hid (∀ w, Env w → Calls Tryz.prog 40 #[.string a] w fun e w' => e = .returned (.int .i64 (Txt.natF a.data.toList)) ∧ Below w.heap.size w w') := fun w hE => natural_c a w hE (by omega)
      have hN2 : Hid (∀ w z, Env w → z = bs (List.replicate (4 - b.size) 48) → Calls Tryz.prog 40 #[.string (b ++ z)] w fun e w' => e = .returned (.int .i64 (Txt.natF l)) ∧ Below w.heap.size w w') := fun w z hE hz => by
        have e : (b ++ z).data.toList = l := by rw [hz, hl]; simp [ByteArray.data_append, bs_list]
        have := natural_c (b ++ z) w hE (by rw [Lib.size_eq, e]; omega)
        rw [e] at this; exact this
      have eV' : Hid (numV t.data.toList = Txt.natF a.data.toList * 10000 + max 0 (Txt.natF l)) := by unfold Hid; rw [eV.out, hl]
      clear eV hl ll la
      generalize Txt.natF a.data.toList = x at x1 x2 hN1 eV'
      generalize Txt.natF l = y at y1 y2 hN2 eV'
      have x3 : x < 100000000000 := by simpa using x2
      have y3 : y < 10000 := by simpa using y2
      have hb4 : b.size ≤ 4 := by omega
      clear x2 y2 h4 h11
      have B0 : Hid (Below w.heap.size w (w.alloc (.cells #[.int .i64 0, .int .i64 0, .string ⟨#[]⟩, .slice none 0 0] 24))) := box_bel _ _
      cases bl
      all_goals
        go_enter Tryz.func43, Tryz.ntmps43
        go_wp2_with fail
        refine (hC1.out _).mono ?_
        rintro e w1 ⟨rfl, rfl⟩
        go_wp2_with fail
        refine (hC2.out _ (HE.out.below B0.out)).mono ?_
        rintro e w1 ⟨rfl, hB⟩
        have B1 := Lib.hid (B0.out.trans (hB.mono B0.out.size))
        have C1 := Lib.hid hB; clear hB
        go_wp2_with fail
        refine (hN1.out _ (HE.out.below B1.out)).mono ?_
        rintro e w2 ⟨rfl, hB⟩
        have B2 := Lib.hid (B1.out.trans (hB.mono B1.out.size))
        have C2 := Lib.hid (C1.out.trans (hB.mono C1.out.size)); clear hB
        go_wp2_with fail
        rw [show (4 : Int) - (b.size : Int) = ((4 - b.size : Nat) : Int) by omega]
        refine (repeat_c _ _ _ (by decide) (by omega)).mono ?_
        rintro e w3 ⟨z, rfl, hz, hz2, hB⟩
        have B3 := Lib.hid (B2.out.trans (hB.out.mono B2.out.size))
        have C3 := Lib.hid (C2.out.trans (hB.out.mono C2.out.size)); clear hB
        go_wp2_with fail
        refine (hN2.out _ z (HE.out.below B3.out) (by rw [hz2.out]; exact congrArg bs (rep48 _))).mono ?_
        rintro e w4 ⟨rfl, hB⟩
        have B4 := Lib.hid (B3.out.trans (hB.mono B3.out.size))
        have C4 := Lib.hid (C3.out.trans (hB.mono C3.out.size)); clear hB
        go_wp2_with fail
        refine (number_c _ _).mono ?_
        rintro e w5 ⟨rfl, hB⟩
        have B5 := Lib.hid (B4.out.trans (hB.mono B4.out.size))
        have C5 := C4.out.trans (hB.mono C4.out.size); clear hB
        obtain ⟨bc, bf⟩ := bcell C5
        clear C5
        go_wp2
        rw [k1.out, n1.out, eV'.out]
        refine bodyPost_ret (v := kn 2 _) (by simp [results, Tryz.results43, go_sem, bc]) rfl ⟨rfl, ?_⟩
        exact below4 B5.out (Nat.le_refl _) _ _ _ _
end Go.Proofs.YtcohkmpjendhnaaGreatDoor
