/-
  Ratios of package value: Inverse.
  Fractions of the reference: boxes of three cells, and what a fraction's lowest terms are written as.
  Fractions of the reference: shut.
-/
import Derived.Test.YtdkphfafcmogmaaGreatDoorMo18
import Derived.Test.YtdkphfafcmogmaaGreatDoorMo15
import Derived.Test.YtdkphfafcmogmaaGreatDoorMo17
namespace Go.Proofs.YtdkphfafcmogmaaGreatDoor
open Go.RowKit

def ivS (n d : List UInt8) : ByteArray × ByteArray × Int :=
  match rread n d with
  | none => (⟨#[]⟩, ⟨#[]⟩, rflt n d)
  | some (x, y) => if x = 0 then (⟨#[]⟩, ⟨#[]⟩, 19) else raR y x
/-- A fraction is laid into a fresh box. -/
def laid1 (W : World) (f : Fq) (T : TypeId) : World := fourq (W.alloc (.cells #[.bool false, .slice none 0 0, .bool false, .slice none 0 0] T)) W.heap.size f
theorem laid1_is {W : World} (f : Fq) (T : TypeId) : Below W.heap.size W (laid1 W f T) ∧ B4q (laid1 W f T) W.heap.size f ∧ (∀ q x y, Fi W q x y → Fi (laid1 W f T) q x y) := by
  have hb := bel_one W (.cells #[.bool false, .slice none 0 0, .bool false, .slice none 0 0] T)
  have d1 : B4q (W.alloc (.cells #[.bool false, .slice none 0 0, .bool false, .slice none 0 0] T)) W.heap.size Fq.z := B4.made W _ _ _ _ T
  exact ⟨below_four hb (Nat.le_refl _) _ _ _ _, d1.set _ _ _ _, fun q x y hq => (hq.below hb).set d1 f⟩
set_option maxRecDepth 100000 in
set_option maxHeartbeats 4000000 in
theorem Inverse_c (s t : ByteArray) (w : World) :
    Calls Tryz.prog 13 #[.agg #[.string s, .string t]] w (OpPost (ivS s.data.toList t.data.toList) w) := by
  obtain ⟨W0, hW0⟩ : ∃ W0, (w.alloc (.cells #[.string s, .string t] 23)).alloc (.cells #[.string ⟨#[]⟩, .string ⟨#[]⟩] 23) = W0 := ⟨_, rfl⟩
  have s1 : (w.alloc (.cells #[.string s, .string t] 23)).heap.size = w.heap.size + 1 := by simp
  have X0 : B2 W0 w.heap.size (.string s) (.string t) := by rw [← hW0]; exact (B2.made w _ _ _).keep (bel_one _ _)
  have JR0 : Hid (B2 W0 (w.heap.size + 1) (.string ⟨#[]⟩) (.string ⟨#[]⟩)) := by rw [← hW0, ← s1]; exact B2.made _ _ _ _
  have BB0 : Hid (Below w.heap.size w W0) := by rw [← hW0]; exact ((Below.refl _ _).alloc (Nat.le_refl _) _).alloc (by simp) _
  have x0 := X0.c0
  have x1 := X0.c1
  clear X0 s1
  have H1 := Lib.hid (fun w => fractionOf_q s t w)
  go_enter Tryz.func13, Tryz.ntmps13
  go_wp2_with fail
  clear hW0 x0 x1
  refine (H1.out _).mono ?_
  rintro e w1 ⟨f, flt, rfl, b1, hpost⟩
  have P1 := Lib.hid hpost
  have J1 := Lib.hid (BB0.out.trans (b1.mono BB0.out.size))
  have JR1 := Lib.hid (JR0.out.keep b1)
  clear b1 hpost H1 BB0 JR0
  have LD := laid1_is (W := w1) f 46
  obtain ⟨W5, hW5⟩ : ∃ W5, laid1 w1 f 46 = W5 := ⟨_, rfl⟩
  rw [hW5] at LD
  have L5 := Lib.hid LD
  clear LD
  obtain ⟨WA, hWA⟩ : ∃ WA, w1.alloc (.cells #[.bool false, .slice none 0 0, .bool false, .slice none 0 0] 46) = WA := ⟨_, rfl⟩
  have D1 : B4q WA w1.heap.size Fq.z := by rw [← hWA]; exact B4.made _ _ _ _ _ _
  have hW5' : fourq WA w1.heap.size f = W5 := by rw [← hW5, ← hWA]; rfl
  clear hW5
  have a0 := D1.c0
  have a1 := D1.c1
  have a2 := D1.c2
  have a3 := D1.c3
  have af0 := D1.fr 0
  have af1 := D1.fr 1
  have af2 := D1.fr 2
  have af3 := D1.fr 3
  clear D1
  simp only [Fq.z] at a0 a1 a2 a3
  unfold fourq four at hW5'
  have JB5 : Hid (Below w.heap.size w W5) := J1.out.trans (L5.out.1.mono J1.out.size)
  have JR5 := Lib.hid (JR1.out.keep L5.out.1)
  have p0 := L5.out.2.1.c0
  have p1 := L5.out.2.1.c1
  have p2 := L5.out.2.1.c2
  have p3 := L5.out.2.1.c3
  have HBX := Lib.hid L5.out.2.1
  by_cases hz : flt = 0
  · subst hz
    obtain ⟨x, y, e1, i1⟩ := (P1.out.resolve_right (fun q => q.1 rfl)).2
    have I1 := Lib.hid (L5.out.2.2 f x y i1)
    have HSG := Lib.hid (Sign_c f.b f.a f.k f.c x W5 I1.out.n)
    have E1 := Lib.hid e1
    clear e1 i1 P1 L5
    by_cases hx : x = 0
    · have RS : Hid (ivS s.data.toList t.data.toList = (⟨#[]⟩, ⟨#[]⟩, 19)) := by
        unfold Hid ivS
        rw [E1.out]
        show (if x = 0 then _ else _) = _
        rw [if_pos hx]
      have hsg : (x.sign == 0) = true := by rw [hx]; rfl
      have hsg2 : x.sign = 0 := by rw [hx]; rfl
      clear hx
      generalize x.sign = sx at *
      go_wp2_with fail
      clear hW5' hWA a0 a1 a2 a3 af0 af1 af2 af3 p0 p1 p2 p3
      (refine HSG.out.mono ?_)
      rintro e w6 ⟨rfl, b6⟩
      have JB6 := Lib.hid (JB5.out.trans (b6.mono JB5.out.size))
      have JR6 := Lib.hid (JR5.out.keep b6)
      clear b6 HSG
      obtain ⟨W9, hW9⟩ : ∃ W9, two w6 (w.heap.size + 1) (.string ⟨#[]⟩) (.string ⟨#[]⟩) = W9 := ⟨_, rfl⟩
      have R9 : B2 W9 (w.heap.size + 1) (.string ⟨#[]⟩) (.string ⟨#[]⟩) := by rw [← hW9]; exact JR6.out.set _ _
      have PP : Hid (OpPost (ivS s.data.toList t.data.toList) w (.returned (.tuple #[.agg #[.string ⟨#[]⟩, .string ⟨#[]⟩], .int .i64 19])) W9) := by
        rw [← hW9]
        exact ⟨by rw [RS.out], below_two JB6.out (by omega) _ _⟩
      have c0 := JR6.out.c0
      have c1 := JR6.out.c1
      have cf0 := JR6.out.fr 0
      have cf1 := JR6.out.fr 1
      obtain ⟨r0, r1, _, _⟩ := id R9
      unfold two at hW9
      clear R9
      go_wp2_with fail
      exact bodyPost_ret (v := .tuple #[.agg #[.string ⟨#[]⟩, .string ⟨#[]⟩], .int .i64 19]) (by simp [results, Tryz.results13, go_sem, r0, r1]) rfl PP.out
    · have RS : Hid (ivS s.data.toList t.data.toList = raR y x) := by
        unfold Hid ivS
        rw [E1.out]
        show (if x = 0 then _ else _) = _
        rw [if_neg hx]
      have hsg : (x.sign == 0) = false := by
        rw [beq_eq_false_iff_ne]
        intro h
        exact hx (Int.sign_eq_zero_iff_zero.1 h)
      have HX := Lib.hid hx
      have hsg2 : ¬ x.sign = 0 := fun h => hx (Int.sign_eq_zero_iff_zero.1 h)
      clear hx
      generalize x.sign = sx at *
      go_wp2_with fail
      clear hW5' hWA a0 a1 a2 a3 af0 af1 af2 af3 p0 p1 p2 p3
      (refine HSG.out.mono ?_)
      rintro e w6 ⟨rfl, b6⟩
      have JB6 := Lib.hid (JB5.out.trans (b6.mono JB5.out.size))
      have JR6 := Lib.hid (JR5.out.keep b6)
      have I6 := Lib.hid (I1.out.below b6)
      have BX := HBX.out.keep b6
      have p0 := BX.c0
      have p1 := BX.c1
      have p2 := BX.c2
      have p3 := BX.c3
      have HI := Lib.hid (FInverse_c f.b f.a f.k f.c f.b' f.a' f.k' f.c' x y w6 I6.out.n I6.out.d (Nat.lt_of_lt_of_le I6.out.nb (bp_mono (by decide))) (Nat.lt_of_lt_of_le I6.out.db (bp_mono (by decide))) HX.out)
      clear b6 HSG BX HBX I1 JB5 JR5
      go_wp2_with fail
      clear p0 p1 p2 p3
      (refine HI.out.mono ?_)
      rintro e w7 ⟨ob, oa, ok, oc, ob', oa', ok', oc', rfl, hn, hd, b7⟩
      have JB7 := Lib.hid (JB6.out.trans (b7.mono JB6.out.size))
      have JR7 := Lib.hid (JR6.out.keep b7)
      have HRO := Lib.hid (ratioOf_c ob oa ok oc ob' oa' ok' oc' _ _ w7 hn hd (Nat.lt_of_le_of_lt (tdiv_abs_le _ _) (Nat.lt_of_lt_of_le I6.out.db (bp_mono (by decide)))) (Nat.lt_of_le_of_lt (tdiv_abs_le _ _) (Nat.lt_of_lt_of_le I6.out.nb (bp_mono (by decide)))) (red_pos (n := y) (d := x) HX.out))
      clear hn hd b7 HI
      go_wp2_with fail
      (refine HRO.out.mono ?_)
      rintro e w8 ⟨rfl, b8⟩
      have JB8 := Lib.hid (JB7.out.trans (b8.mono JB7.out.size))
      have JR8 := Lib.hid (JR7.out.keep b8)
      obtain ⟨rr, hrr⟩ : ∃ rr, ra (y.tdiv (ovG y x)) (x.tdiv (ovG y x)) = rr := ⟨_, rfl⟩
      have RS2 : Hid (ivS s.data.toList t.data.toList = rr) := by rw [← hrr]; exact RS.out
      rw [hrr]
      clear b8 hrr HRO RS
      obtain ⟨W9, hW9⟩ : ∃ W9, two w8 (w.heap.size + 1) (.string rr.1) (.string rr.2.1) = W9 := ⟨_, rfl⟩
      have R9 : B2 W9 (w.heap.size + 1) (.string rr.1) (.string rr.2.1) := by rw [← hW9]; exact JR8.out.set _ _
      have PP : Hid (OpPost (ivS s.data.toList t.data.toList) w (.returned (.tuple #[.agg #[.string rr.1, .string rr.2.1], .int .i64 rr.2.2])) W9) := by
        rw [← hW9]
        exact ⟨by rw [RS2.out], below_two JB8.out (by omega) _ _⟩
      have c0 := JR8.out.c0
      have c1 := JR8.out.c1
      have cf0 := JR8.out.fr 0
      have cf1 := JR8.out.fr 1
      obtain ⟨r0, r1, _, _⟩ := id R9
      unfold two at hW9
      clear R9
      go_wp2_with fail
      exact bodyPost_ret (v := .tuple #[.agg #[.string rr.1, .string rr.2.1], .int .i64 rr.2.2]) (by simp [results, Tryz.results13, go_sem, r0, r1]) rfl PP.out
  · have hne : (flt == 0) = false := by rw [beq_eq_false_iff_ne]; exact hz
    have hne2 : (flt != 0) = true := by simp [hz]
    have RS2 : Hid (ivS s.data.toList t.data.toList = (⟨#[]⟩, ⟨#[]⟩, flt)) := by
      unfold Hid ivS
      obtain ⟨e1, e2⟩ := (P1.out.resolve_left (fun q => hz q.1)).2
      rw [e1, e2]
    clear hz P1 L5 J1 HBX
    obtain ⟨W9, hW9⟩ : ∃ W9, two W5 (w.heap.size + 1) (.string ⟨#[]⟩) (.string ⟨#[]⟩) = W9 := ⟨_, rfl⟩
    have R9 : B2 W9 (w.heap.size + 1) (.string ⟨#[]⟩) (.string ⟨#[]⟩) := by rw [← hW9]; exact JR5.out.set _ _
    have PP : Hid (OpPost (ivS s.data.toList t.data.toList) w (.returned (.tuple #[.agg #[.string ⟨#[]⟩, .string ⟨#[]⟩], .int .i64 flt])) W9) := by
      rw [← hW9]
      exact ⟨by rw [RS2.out], below_two JB5.out (by omega) _ _⟩
    have c0 := JR5.out.c0
    have c1 := JR5.out.c1
    have cf0 := JR5.out.fr 0
    have cf1 := JR5.out.fr 1
    obtain ⟨r0, r1, _, _⟩ := id R9
    unfold two at hW9
    clear R9
    go_wp2_with fail
    exact bodyPost_ret (v := .tuple #[.agg #[.string ⟨#[]⟩, .string ⟨#[]⟩], .int .i64 flt]) (by simp [results, Tryz.results13, go_sem, r0, r1]) rfl PP.out
end Go.Proofs.YtdkphfafcmogmaaGreatDoor
namespace Go.Proofs.YtdkphfafcmogmaaGreatDoor
open Go.RowKit

structure B3 (W : World) (g : Nat) (x0 x1 x2 : Value) : Prop where
  c0 : W.cell? ⟨g, 0, none⟩ = some x0
  c1 : W.cell? ⟨g, 1, none⟩ = some x1
  c2 : W.cell? ⟨g, 2, none⟩ = some x2
  fr : ∀ o, W.frozen? ⟨g, o, none⟩ = false
  lt : g < W.heap.size
theorem B3.keep {W W' : World} {g : Nat} {x0 x1 x2 : Value} (h : B3 W g x0 x1 x2) (hb : Below W.heap.size W W') : B3 W' g x0 x1 x2 := by
  have c := fun (o : Nat) => hb.cell (p := ⟨g, o, none⟩) h.lt
  exact ⟨(c 0).trans h.c0, (c 1).trans h.c1, (c 2).trans h.c2, fun o => (hb.frozen (p := ⟨g, o, none⟩) h.lt).trans (h.fr o), Nat.lt_of_lt_of_le h.lt hb.size⟩
theorem B3.made (W : World) (x0 x1 x2 : Value) (T : TypeId) : B3 (W.alloc (.cells #[x0, x1, x2] T)) W.heap.size x0 x1 x2 := by
  refine ⟨?_, ?_, ?_, fun o => by simp, by simp⟩
  all_goals (rw [World.cell?_alloc_new]; rfl)
/-- All three cells are stored. -/
def three (W : World) (g : Nat) (y0 y1 y2 : Value) : World := ((W.setCell ⟨g, 0, none⟩ y0).setCell ⟨g, 1, none⟩ y1).setCell ⟨g, 2, none⟩ y2
theorem three_size (W : World) (g : Nat) (y0 y1 y2 : Value) : (three W g y0 y1 y2).heap.size = W.heap.size := by unfold three; simp
theorem B3.set {W : World} {g : Nat} {x0 x1 x2 : Value} (h : B3 W g x0 x1 x2) (y0 y1 y2 : Value) : B3 (three W g y0 y1 y2) g y0 y1 y2 := by
  unfold three
  refine ⟨?_, ?_, ?_, fun o => by simp only [World.frozen?_setCell]; exact h.fr o, by simpa using h.lt⟩
  · rw [World.cell?_setCell_other _ _ _ _ (addr_ne (by decide)), World.cell?_setCell_other _ _ _ _ (addr_ne (by decide)), World.cell?_setCell_same _ _ _ h.c0]
  · rw [World.cell?_setCell_other _ _ _ _ (addr_ne (by decide)), World.cell?_setCell_same _ _ _ (u := x1) (by rw [World.cell?_setCell_other _ _ _ _ (addr_ne (by decide))]; exact h.c1)]
  · rw [World.cell?_setCell_same _ _ _ (u := x2) (by rw [World.cell?_setCell_other _ _ _ _ (addr_ne (by decide)), World.cell?_setCell_other _ _ _ _ (addr_ne (by decide))]; exact h.c2)]
theorem three_cell {W : World} {g h : Nat} (hne : h ≠ g) (y0 y1 y2 : Value) (o : Nat) : (three W h y0 y1 y2).cell? ⟨g, o, none⟩ = W.cell? ⟨g, o, none⟩ := by
  unfold three
  rw [World.cell?_setCell_other _ _ _ _ (addr_ne' hne), World.cell?_setCell_other _ _ _ _ (addr_ne' hne), World.cell?_setCell_other _ _ _ _ (addr_ne' hne)]
theorem B3.other {W : World} {g h : Nat} {x0 x1 x2 : Value} (hb : B3 W g x0 x1 x2) (hne : h ≠ g) (y0 y1 y2 : Value) : B3 (three W h y0 y1 y2) g x0 x1 x2 :=
  ⟨(three_cell hne _ _ _ 0).trans hb.c0, (three_cell hne _ _ _ 1).trans hb.c1, (three_cell hne _ _ _ 2).trans hb.c2, fun o => by unfold three; simp only [World.frozen?_setCell]; exact hb.fr o, by rw [three_size]; exact hb.lt⟩
theorem B3.other2 {W : World} {g h : Nat} {x0 x1 x2 : Value} (hb : B3 W g x0 x1 x2) (hne : h ≠ g) (y0 y1 : Value) : B3 (two W h y0 y1) g x0 x1 x2 :=
  ⟨(two_cell hne _ _ 0).trans hb.c0, (two_cell hne _ _ 1).trans hb.c1, (two_cell hne _ _ 2).trans hb.c2, fun o => by unfold two; simp only [World.frozen?_setCell]; exact hb.fr o, by rw [two_size]; exact hb.lt⟩
theorem B2.other3 {W : World} {g h : Nat} {x0 x1 : Value} (hb : B2 W g x0 x1) (hne : h ≠ g) (y0 y1 y2 : Value) : B2 (three W h y0 y1 y2) g x0 x1 :=
  ⟨(three_cell hne _ _ _ 0).trans hb.c0, (three_cell hne _ _ _ 1).trans hb.c1, fun o => by unfold three; simp only [World.frozen?_setCell]; exact hb.fr o, by rw [three_size]; exact hb.lt⟩
theorem below_three {W0 W : World} {g : Nat} (h : Below W0.heap.size W0 W) (hg : W0.heap.size ≤ g) (y0 y1 y2 : Value) : Below W0.heap.size W0 (three W g y0 y1 y2) :=
  ((h.setCell (p := ⟨g, 0, none⟩) hg y0).setCell (p := ⟨g, 1, none⟩) hg y1).setCell (p := ⟨g, 2, none⟩) hg y2

/-! ### The texts of lowest terms -/
def shV (b : Bool) (m e : Nat) : ByteArray × ByteArray × Int :=
  if (decide ((Lib.decDigits m).length ≤ 2000) && decide ((Lib.decDigits e).length ≤ 2000)) = true then ((if (b && decide (0 < m)) = true then ⟨#[45]⟩ ++ decB m else decB m), decB e, 0) else (⟨#[]⟩, ⟨#[]⟩, 2)
theorem tdiv_zv (b : Bool) (p g : Nat) : (zv b p).tdiv (g : Int) = zv b (p / g) := by
  cases b
  · show (p : Int).tdiv g = ((p / g : Nat) : Int)
    rw [Int.tdiv_eq_ediv_of_nonneg (by omega)]
    omega
  · show (-(p : Int)).tdiv g = -((p / g : Nat) : Int)
    rw [Int.neg_tdiv, Int.tdiv_eq_ediv_of_nonneg (by omega)]
    omega
theorem tzB_zv (b : Bool) (m : Nat) : tzB (zv b m) = if (b && decide (0 < m)) = true then ⟨#[45]⟩ ++ decB m else decB m := by
  unfold tzB tz
  cases b
  · rw [zv_false, if_neg (by omega), Bool.false_and, if_neg (by simp)]
    rfl
  · rw [zv_true]
    rcases Nat.eq_zero_or_pos m with e | e
    · subst e; rfl
    · rw [if_pos (by omega), Bool.true_and, if_pos (by simpa using e), Int.natAbs_neg]
      apply ByteArray.ext
      simp [decB, ByteArray.data_append]
theorem raR_zv (b : Bool) (p d : Nat) (hd : 0 < d) : raR (zv b p) d = shV b (p / Nat.gcd p d) (d / Nat.gcd p d) := by
  have hg : ovG (zv b p) (d : Int) = ((Nat.gcd p d : Nat) : Int) := by
    unfold ovG
    rw [if_neg (by omega)]
    unfold Int.gcd
    rw [zv_abs, Int.natAbs_natCast]
  have h2 : (d : Int).tdiv ((Nat.gcd p d : Nat) : Int) = ((d / Nat.gcd p d : Nat) : Int) := tdiv_zv false d _
  unfold raR red
  rw [hg, tdiv_zv, h2]
  generalize p / Nat.gcd p d = m
  generalize d / Nat.gcd p d = e
  unfold ra fits shV
  rw [zv_abs, Int.natAbs_natCast, tzB_zv]
  have : tzB (e : Int) = decB e := tzB_zv false e
  rw [this]
end Go.Proofs.YtdkphfafcmogmaaGreatDoor
namespace Go.Proofs.YtdkphfafcmogmaaGreatDoor
open Go.RowKit

/-- The boxes of shut, and what lies in memory. -/
structure Sh (w : World) (b : Bool) (a1 : Option Addr) (k1 c1 : Nat) (a2 : Option Addr) (k2 c2 p d : Nat) (W : World) : Prop where
  x : B3 W w.heap.size (.bool b) (.slice a1 k1 c1) (.slice a2 k2 c2)
  r : B2 W (w.heap.size + 1) (.string ⟨#[]⟩) (.string ⟨#[]⟩)
  n : Nt W a1 k1 c1 p
  e : Nt W a2 k2 c2 d
  pow : Pow W
  bel : Below w.heap.size w W
theorem Sh.keep {w : World} {b : Bool} {a1 : Option Addr} {k1 c1 : Nat} {a2 : Option Addr} {k2 c2 p d : Nat} {W W' : World} (h : Sh w b a1 k1 c1 a2 k2 c2 p d W) (hb : Below W.heap.size W W') : Sh w b a1 k1 c1 a2 k2 c2 p d W' :=
  ⟨h.x.keep hb, h.r.keep hb, h.n.below hb, h.e.below hb, h.pow.below hb, h.bel.trans (hb.mono h.bel.size)⟩
set_option maxRecDepth 100000 in
set_option maxHeartbeats 4000000 in
theorem shut_c (b : Bool) (a1 a2 : Option Addr) (k1 k2 c1 c2 p d : Nat) (w : World) (h1 : Nt w a1 k1 c1 p) (h2 : Nt w a2 k2 c2 d) (hd : 0 < d) (hk1 : k1 ≤ 99000) (hk2 : k2 ≤ 99000) (hE : Pow w) :
    Calls Tryz.prog 26 #[.agg #[.bool b, .slice a1 k1 c1, .slice a2 k2 c2]] w (OpPost (raR (zv b p) d) w) := by
  obtain ⟨W0, hW0⟩ : ∃ W0, (w.alloc (.cells #[.bool b, .slice a1 k1 c1, .slice a2 k2 c2] 53)).alloc (.cells #[.string ⟨#[]⟩, .string ⟨#[]⟩] 23) = W0 := ⟨_, rfl⟩
  have s1 : (w.alloc (.cells #[.bool b, .slice a1 k1 c1, .slice a2 k2 c2] 53)).heap.size = w.heap.size + 1 := by simp
  have B0 : Below w.heap.size w W0 := by rw [← hW0]; exact ((Below.refl _ _).alloc (Nat.le_refl _) _).alloc (by simp) _
  have J0 : Hid (Sh w b a1 k1 c1 a2 k2 c2 p d W0) := ⟨by rw [← hW0]; exact (B3.made w _ _ _ _).keep (bel_one _ _), by rw [← hW0, ← s1]; exact B2.made _ _ _ _, h1.below B0, h2.below B0, hE.below B0, B0⟩
  obtain ⟨g, hg⟩ : ∃ g, Nat.gcd p d = g := ⟨_, rfl⟩
  obtain ⟨m, hm⟩ : ∃ m, p / g = m := ⟨_, rfl⟩
  obtain ⟨e, he⟩ : ∃ e, d / g = e := ⟨_, rfl⟩
  have hgp : 0 < g := by rw [← hg]; exact Nat.gcd_pos_of_pos_right _ hd
  have RS : Hid (raR (zv b p) d = shV b m e) := by unfold Hid; rw [raR_zv b p d hd, hg, hm, he]
  have HC := Lib.hid (fun W (h : Sh w b a1 k1 c1 a2 k2 c2 p d W) => ncommon_c a1 a2 k1 k2 c1 c2 p d W h.n h.e hk1 hk2)
  rw [hg] at HC
  have HN := Lib.hid (fun W q k c (h : Sh w b a1 k1 c1 a2 k2 c2 p d W) (hq : Nt W q k c g) => nover_c a1 q k1 k c1 c p g W h.n hq hgp hk1)
  have HM := Lib.hid (fun W q k c (h : Sh w b a1 k1 c1 a2 k2 c2 p d W) (hq : Nt W q k c g) => nover_c a2 q k2 k c2 c d g W h.e hq hgp hk2)
  rw [hm] at HN
  rw [he] at HM
  clear s1 B0 h1 h2 hE hd hk1 hk2 hg hm he hgp
  have x0 := J0.out.x.c0
  have x1 := J0.out.x.c1
  have x2 := J0.out.x.c2
  go_enter Tryz.func26, Tryz.ntmps26
  go_wp2_with fail
  clear hW0
  (with_reducible refine (HC.out _ J0.out).mono ?_)
  rintro e w1 ⟨ga, gk, gc, rfl, hg, b1⟩
  have J1 := Lib.hid (J0.out.keep b1)
  clear x0 x1 x2
  have HG := Lib.hid hg
  clear hg b1 J0 HC
  have x0 := J1.out.x.c0
  have x1 := J1.out.x.c1
  have x2 := J1.out.x.c2
  go_wp2_with fail
  (with_reducible refine (HN.out _ _ _ _ J1.out HG.out).mono ?_)
  rintro e w2 ⟨na, nk, nc, ra, rk, rc, rfl, hn, _, b2⟩
  have J2 := Lib.hid (J1.out.keep b2)
  clear x0 x1 x2
  have HG2 := Lib.hid (HG.out.below b2)
  have HNN := Lib.hid hn
  clear hn b2 J1 HN HG
  have x0 := J2.out.x.c0
  have x1 := J2.out.x.c1
  have x2 := J2.out.x.c2
  go_wp2_with fail
  (with_reducible refine (HM.out _ _ _ _ J2.out HG2.out).mono ?_)
  rintro e w3 ⟨ea, ek, ec, ra2, rk2, rc2, rfl, hn, _, b3⟩
  have J3 := Lib.hid (J2.out.keep b3)
  clear x0 x1 x2
  have HNN3 := Lib.hid (HNN.out.below b3)
  have HEE := Lib.hid hn
  clear hn b3 J2 HM HG2 HNN
  have x0 := J3.out.x.c0
  have x1 := J3.out.x.c1
  have x2 := J3.out.x.c2
  have HT1 := Lib.hid (rtext_c na nk nc m w3 HNN3.out J3.out.pow)
  have HL : Hid (0 < nk ↔ 0 < m) := ⟨fun h => Nat.lt_of_lt_of_le (tp_pos (nk - 1)) (HNN3.out.pos h), fun h => HNN3.out.one h⟩
  go_wp2_with fail
  (with_reducible refine (HT1.out).mono ?_)
  rintro e w4 ⟨rfl, b4⟩
  have J4 := Lib.hid (J3.out.keep b4)
  clear x0 x1 x2
  have HEE4 := Lib.hid (HEE.out.below b4)
  clear b4 J3 HT1 HNN3 HEE
  have x0 := J4.out.x.c0
  have x1 := J4.out.x.c1
  have x2 := J4.out.x.c2
  have HT2 := Lib.hid (rtext_c ea ek ec e w4 HEE4.out J4.out.pow)
  go_wp2_with fail
  (with_reducible refine (HT2.out).mono ?_)
  rintro e w5 ⟨rfl, b5⟩
  have J5 := Lib.hid (J4.out.keep b5)
  clear x0 x1 x2
  clear b5 J4 HT2 HEE4
  have x0 := J5.out.x.c0
  have x1 := J5.out.x.c1
  have x2 := J5.out.x.c2
  clear x0 x1 x2
  obtain ⟨WA, hWA⟩ : ∃ W, w5.alloc (.cells #[.string ⟨#[]⟩, .string ⟨#[]⟩] 23) = W := ⟨_, rfl⟩
  have D1 : B2 WA w5.heap.size (.string ⟨#[]⟩) (.string ⟨#[]⟩) := by rw [← hWA]; exact B2.made _ _ _ _
  obtain ⟨WB, hWB⟩ : ∃ W, two WA w5.heap.size (.string (decB m)) (.string (decB e)) = W := ⟨_, rfl⟩
  have hb : Below w5.heap.size w5 WB := by rw [← hWB]; exact below_two (by rw [← hWA]; exact bel_one _ _) (Nat.le_refl _) _ _
  have J6 := Lib.hid (J5.out.keep hb)
  have GE : Hid (w.heap.size + 1 < w5.heap.size) := J5.out.r.lt
  have D2 : Hid (B2 WB w5.heap.size (.string (decB m)) (.string (decB e))) := by rw [← hWB]; exact D1.set _ _
  have a0 := D1.c0
  have a1' := D1.c1
  have af0 := D1.fr 0
  have af1 := D1.fr 1
  unfold two at hWB
  clear D1 hb J5
  have JR := Lib.hid J6.out.r
  have JB := Lib.hid J6.out.bel
  have p0 := D2.out.c0
  have p1 := D2.out.c1
  have q0 := J6.out.x.c0
  have hms := decB_size m
  have hes := decB_size e
  by_cases f1 : (Lib.decDigits m).length ≤ 2000
  · have i1 : ¬ (2000 : Int) < ((decB m).size : Int) := by omega
    by_cases f2 : (Lib.decDigits e).length ≤ 2000
    · have i2 : ¬ (2000 : Int) < ((decB e).size : Int) := by omega
      have VS : Hid (shV b m e = ((if (b && decide (0 < m)) = true then ⟨#[45]⟩ ++ decB m else decB m), decB e, 0)) := by unfold Hid shV; rw [if_pos (by simp [f1, f2])]
      have hmb : ¬ (9223372036854775807 : Int) < 1 + ((decB m).size : Int) := by omega
      have hmb' : ¬ 9223372036854775807 < 1 + (decB m).size := by omega
      clear f1 f2 hms hes
      cases b
      · have RS2 : Hid (raR (zv false p) d = (decB m, decB e, 0)) := by unfold Hid; rw [RS.out, VS.out]; rfl
        clear RS VS hmb hmb'
        obtain ⟨W9, hW9⟩ : ∃ W9, two WB (w.heap.size + 1) (.string (decB m)) (.string (decB e)) = W9 := ⟨_, rfl⟩
        have R9 : B2 W9 (w.heap.size + 1) (.string (decB m)) (.string (decB e)) := by rw [← hW9]; exact JR.out.set _ _
        have PP : Hid (OpPost (raR (zv false p) d) w (.returned (.tuple #[.agg #[.string (decB m), .string (decB e)], .int .i64 0])) W9) := by
          rw [← hW9]
          exact ⟨by rw [RS2.out], below_two JB.out (by omega) _ _⟩
        have c0 := JR.out.c0
        have c1' := JR.out.c1
        have cf0 := JR.out.fr 0
        have cf1 := JR.out.fr 1
        obtain ⟨r0, r1, _, _⟩ := id R9
        unfold two at hW9
        clear R9
        go_wp2_with fail
        exact bodyPost_ret (v := .tuple #[.agg #[.string (decB m), .string (decB e)], .int .i64 0]) (by simp [results, Tryz.results26, go_sem, r0, r1]) rfl PP.out
      · rcases Nat.eq_zero_or_pos nk with e0 | e0
        · subst e0
          have RS2 : Hid (raR (zv true p) d = (decB m, decB e, 0)) := by
            unfold Hid
            rw [RS.out, VS.out]
            have : ¬ 0 < m := fun h => absurd (HL.out.2 h) (by omega)
            simp [this]
          clear RS VS HL hmb hmb'
          obtain ⟨W9, hW9⟩ : ∃ W9, two WB (w.heap.size + 1) (.string (decB m)) (.string (decB e)) = W9 := ⟨_, rfl⟩
          have R9 : B2 W9 (w.heap.size + 1) (.string (decB m)) (.string (decB e)) := by rw [← hW9]; exact JR.out.set _ _
          have PP : Hid (OpPost (raR (zv true p) d) w (.returned (.tuple #[.agg #[.string (decB m), .string (decB e)], .int .i64 0])) W9) := by
            rw [← hW9]
            exact ⟨by rw [RS2.out], below_two JB.out (by omega) _ _⟩
          have c0 := JR.out.c0
          have c1' := JR.out.c1
          have cf0 := JR.out.fr 0
          have cf1 := JR.out.fr 1
          obtain ⟨r0, r1, _, _⟩ := id R9
          unfold two at hW9
          clear R9
          go_wp2_with fail
          exact bodyPost_ret (v := .tuple #[.agg #[.string (decB m), .string (decB e)], .int .i64 0]) (by simp [results, Tryz.results26, go_sem, r0, r1]) rfl PP.out
        · have e0' : (0 : Int) < (nk : Int) := by omega
          have hm0 : 0 < m := HL.out.1 e0
          have RS2 : Hid (raR (zv true p) d = (⟨#[45]⟩ ++ decB m, decB e, 0)) := by
            unfold Hid
            rw [RS.out, VS.out]
            simp [hm0]
          clear RS VS HL hm0
          obtain ⟨WC, hWC⟩ : ∃ W, WB.setCell ⟨w5.heap.size, 0, none⟩ (.string (⟨#[45]⟩ ++ decB m)) = W := ⟨_, rfl⟩
          have JR2 : Hid (B2 WC (w.heap.size + 1) (.string ⟨#[]⟩) (.string ⟨#[]⟩)) := by
            rw [← hWC]
            have ne : ∀ o, (⟨w5.heap.size, 0, none⟩ : Addr) ≠ ⟨w.heap.size + 1, o, none⟩ := fun o e => by injection e with e1 _; have := GE.out; omega
            exact ⟨(World.cell?_setCell_other _ _ _ _ (ne 0)).trans JR.out.c0, (World.cell?_setCell_other _ _ _ _ (ne 1)).trans JR.out.c1, fun o => by rw [World.frozen?_setCell]; exact JR.out.fr o, by simpa using JR.out.lt⟩
          have JB2 : Hid (Below w.heap.size w WC) := by
            rw [← hWC]
            exact JB.out.setCell (p := ⟨w5.heap.size, 0, none⟩) (by have := GE.out; show w.heap.size ≤ w5.heap.size; omega) _
          have v0 : WC.cell? ⟨w5.heap.size, 0, none⟩ = some (.string (⟨#[45]⟩ ++ decB m)) := by rw [← hWC]; exact World.cell?_setCell_same _ _ _ p0
          have v1 : WC.cell? ⟨w5.heap.size, 1, none⟩ = some (.string (decB e)) := by rw [← hWC, World.cell?_setCell_other _ _ _ _ (addr_ne (by decide))]; exact p1
          have pf0 := D2.out.fr 0
          clear JR JB D2 J6
          have JR := JR2
          have JB := JB2
          clear JR2 JB2
          obtain ⟨W9, hW9⟩ : ∃ W9, two WC (w.heap.size + 1) (.string (⟨#[45]⟩ ++ decB m)) (.string (decB e)) = W9 := ⟨_, rfl⟩
          have R9 : B2 W9 (w.heap.size + 1) (.string (⟨#[45]⟩ ++ decB m)) (.string (decB e)) := by rw [← hW9]; exact JR.out.set _ _
          have PP : Hid (OpPost (raR (zv true p) d) w (.returned (.tuple #[.agg #[.string (⟨#[45]⟩ ++ decB m), .string (decB e)], .int .i64 0])) W9) := by
            rw [← hW9]
            exact ⟨by rw [RS2.out], below_two JB.out (by omega) _ _⟩
          have c0 := JR.out.c0
          have c1' := JR.out.c1
          have cf0 := JR.out.fr 0
          have cf1 := JR.out.fr 1
          obtain ⟨r0, r1, _, _⟩ := id R9
          unfold two at hW9
          clear R9
          go_wp2_with fail
          exact bodyPost_ret (v := .tuple #[.agg #[.string (⟨#[45]⟩ ++ decB m), .string (decB e)], .int .i64 0]) (by simp [results, Tryz.results26, go_sem, r0, r1]) rfl PP.out
    · have i2 : (2000 : Int) < ((decB e).size : Int) := by omega
      have RS2 : Hid (raR (zv b p) d = (⟨#[]⟩, ⟨#[]⟩, 2)) := by unfold Hid; rw [RS.out]; unfold shV; rw [if_neg (by simp [f2])]
      clear f1 f2 RS hms hes
      obtain ⟨W9, hW9⟩ : ∃ W9, two WB (w.heap.size + 1) (.string ⟨#[]⟩) (.string ⟨#[]⟩) = W9 := ⟨_, rfl⟩
      have R9 : B2 W9 (w.heap.size + 1) (.string ⟨#[]⟩) (.string ⟨#[]⟩) := by rw [← hW9]; exact JR.out.set _ _
      have PP : Hid (OpPost (raR (zv b p) d) w (.returned (.tuple #[.agg #[.string ⟨#[]⟩, .string ⟨#[]⟩], .int .i64 2])) W9) := by
        rw [← hW9]
        exact ⟨by rw [RS2.out], below_two JB.out (by omega) _ _⟩
      have c0 := JR.out.c0
      have c1' := JR.out.c1
      have cf0 := JR.out.fr 0
      have cf1 := JR.out.fr 1
      obtain ⟨r0, r1, _, _⟩ := id R9
      unfold two at hW9
      clear R9
      go_wp2_with fail
      exact bodyPost_ret (v := .tuple #[.agg #[.string ⟨#[]⟩, .string ⟨#[]⟩], .int .i64 2]) (by simp [results, Tryz.results26, go_sem, r0, r1]) rfl PP.out
  · have i1 : (2000 : Int) < ((decB m).size : Int) := by omega
    have RS2 : Hid (raR (zv b p) d = (⟨#[]⟩, ⟨#[]⟩, 2)) := by unfold Hid; rw [RS.out]; unfold shV; rw [if_neg (by simp [f1])]
    clear f1 RS hms hes
    obtain ⟨W9, hW9⟩ : ∃ W9, two WB (w.heap.size + 1) (.string ⟨#[]⟩) (.string ⟨#[]⟩) = W9 := ⟨_, rfl⟩
    have R9 : B2 W9 (w.heap.size + 1) (.string ⟨#[]⟩) (.string ⟨#[]⟩) := by rw [← hW9]; exact JR.out.set _ _
    have PP : Hid (OpPost (raR (zv b p) d) w (.returned (.tuple #[.agg #[.string ⟨#[]⟩, .string ⟨#[]⟩], .int .i64 2])) W9) := by
      rw [← hW9]
      exact ⟨by rw [RS2.out], below_two JB.out (by omega) _ _⟩
    have c0 := JR.out.c0
    have c1' := JR.out.c1
    have cf0 := JR.out.fr 0
    have cf1 := JR.out.fr 1
    obtain ⟨r0, r1, _, _⟩ := id R9
    unfold two at hW9
    clear R9
    go_wp2_with fail
    exact bodyPost_ret (v := .tuple #[.agg #[.string ⟨#[]⟩, .string ⟨#[]⟩], .int .i64 2]) (by simp [results, Tryz.results26, go_sem, r0, r1]) rfl PP.out
end Go.Proofs.YtdkphfafcmogmaaGreatDoor
