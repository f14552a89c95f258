/-
  Ratios of package value: Sum, Product, Order.
-/
import Derived.Test.YtaibpppobblnoaaDoorWhVal3
namespace Go.Proofs.YtaibpppobblnoaaDoor
open Go.RowKit

/-- A fraction in lowest terms. -/
def red (n d : Int) : Int × Int := (n.tdiv (ovG n d), d.tdiv (ovG n d))
theorem tdiv_abs_le (a b : Int) : (a.tdiv b).natAbs ≤ a.natAbs := by
  rw [Int.natAbs_tdiv]; exact Nat.div_le_self _ _
theorem red_pos {n d : Int} (h : d ≠ 0) : 0 < (red n d).2 := by
  have hg : 0 < Int.gcd n d := Int.gcd_pos_of_ne_zero_right n h
  obtain ⟨k, hk⟩ : (Int.gcd n d : Int) ∣ d := Int.gcd_dvd_right n d
  show 0 < d.tdiv (ovG n d)
  by_cases hd : d < 0
  · have e : ovG n d = -(Int.gcd n d : Int) := by unfold ovG; rw [if_pos hd]
    rw [e]
    generalize Int.gcd n d = g at *
    have hgz : (g : Int) ≠ 0 := by omega
    rw [Int.tdiv_neg, hk, Int.mul_tdiv_cancel_left _ hgz]
    have h2 : (g : Int) * k < 0 := by rw [← hk]; exact hd
    rcases Int.lt_or_le k 0 with h | h
    · omega
    · have := Int.mul_nonneg (show (0 : Int) ≤ g by omega) h
      omega
  · have e : ovG n d = (Int.gcd n d : Int) := by unfold ovG; rw [if_neg hd]
    rw [e]
    generalize Int.gcd n d = g at *
    have hgz : (g : Int) ≠ 0 := by omega
    rw [hk, Int.mul_tdiv_cancel_left _ hgz]
    have h2 : 0 < (g : Int) * k := by rw [← hk]; omega
    rcases Int.lt_or_le 0 k with h | h
    · exact h
    · have := Int.mul_nonneg (show (0 : Int) ≤ g by omega) (show 0 ≤ -k by omega)
      rw [Int.mul_neg] at this
      omega
/-- The texts of a fraction's lowest terms. -/
def raR (n d : Int) : ByteArray × ByteArray × Int := ra (red n d).1 (red n d).2
/-- An operation on two ratios. -/
def opS (F : Int → Int → Int → Int → Int × Int) (n d n' d' : List UInt8) : ByteArray × ByteArray × Int :=
  match rread n d with
  | none => (⟨#[]⟩, ⟨#[]⟩, rflt n d)
  | some (x, y) => match rread n' d' with
    | none => (⟨#[]⟩, ⟨#[]⟩, rflt n' d')
    | some (x', y') => raR (F x y x' y').1 (F x y x' y').2
def OpPost (r : ByteArray × ByteArray × Int) (w : World) (e : Ending) (w' : World) : Prop := e = .returned (.tuple #[.agg #[.string r.1, .string r.2.1], .int .i64 r.2.2]) ∧ Below w.heap.size w w'
def fSum (x y x' y' : Int) : Int × Int := (x * y' + x' * y, y * y')
def fMul (x y x' y' : Int) : Int × Int := (x * x', y * y')
/-- The boxes of Sum: arguments, result, fractions. -/
structure Sb (w : World) (gf gh : Nat) (s t s' t' : ByteArray) (f h : Fq) (W : World) : Prop where
  x : B2 W w.heap.size (.string s) (.string t)
  y : B2 W (w.heap.size + 1) (.string s') (.string t')
  r : B2 W (w.heap.size + 1 + 1) (.string ⟨#[]⟩) (.string ⟨#[]⟩)
  f : B4q W gf f
  h : B4q W gh h
  bel : Below w.heap.size w W
theorem Sb.keep {w : World} {gf gh : Nat} {s t s' t' : ByteArray} {f h : Fq} {W W' : World} (j : Sb w gf gh s t s' t' f h W) (hb : Below W.heap.size W W') : Sb w gf gh s t s' t' f h W' :=
  ⟨j.x.keep hb, j.y.keep hb, j.r.keep hb, j.f.keep hb, j.h.keep hb, j.bel.trans (hb.mono j.bel.size)⟩
/-- The boxes of the arguments and of the result, made. -/
structure Sa (w : World) (s t s' t' : ByteArray) (W : World) : Prop where
  x : B2 W w.heap.size (.string s) (.string t)
  y : B2 W (w.heap.size + 1) (.string s') (.string t')
  r : B2 W (w.heap.size + 1 + 1) (.string ⟨#[]⟩) (.string ⟨#[]⟩)
  bel : Below w.heap.size w W
theorem Sa.keep {w : World} {s t s' t' : ByteArray} {W W' : World} (j : Sa w s t s' t' W) (hb : Below W.heap.size W W') : Sa w s t s' t' W' :=
  ⟨j.x.keep hb, j.y.keep hb, j.r.keep hb, j.bel.trans (hb.mono j.bel.size)⟩
theorem Sa.made (w : World) (s t s' t' : ByteArray) (T1 T2 T3 : TypeId) :
    Sa w s t s' t' (((w.alloc (.cells #[.string s, .string t] T1)).alloc (.cells #[.string s', .string t'] T2)).alloc (.cells #[.string ⟨#[]⟩, .string ⟨#[]⟩] T3)) := by
  have s1 : (w.alloc (.cells #[.string s, .string t] T1)).heap.size = w.heap.size + 1 := by simp
  have s2 : ((w.alloc (.cells #[.string s, .string t] T1)).alloc (.cells #[.string s', .string t'] T2)).heap.size = w.heap.size + 1 + 1 := by simp
  refine ⟨((B2.made w _ _ T1).keep (bel_one _ _)).keep (bel_one _ _), ?_, ?_, (((Below.refl _ _).alloc (Nat.le_refl _) _).alloc (by simp) _).alloc (by simp; omega) _⟩
  · rw [← s1]; exact (B2.made _ _ _ T2).keep (bel_one _ _)
  · rw [← s2]; exact B2.made _ _ _ T3
/-- Two fractions are laid into two fresh boxes. -/
def laid (W : World) (f h : Fq) (T : TypeId) : World :=
  fourq (fourq ((W.alloc (.cells #[.bool false, .slice none 0 0, .bool false, .slice none 0 0] T)).alloc (.cells #[.bool false, .slice none 0 0, .bool false, .slice none 0 0] T)) W.heap.size f) (W.heap.size + 1) h
theorem laid_is {W : World} (f h : Fq) (T : TypeId) : Below W.heap.size W (laid W f h T) ∧ B4q (laid W f h T) W.heap.size f ∧ B4q (laid W f h T) (W.heap.size + 1) h ∧
    (∀ q x y, Fi W q x y → Fi (laid W f h T) q x y) := by
  have s1 : (W.alloc (.cells #[.bool false, .slice none 0 0, .bool false, .slice none 0 0] T)).heap.size = W.heap.size + 1 := by simp
  have hb : Below W.heap.size W ((W.alloc (.cells #[.bool false, .slice none 0 0, .bool false, .slice none 0 0] T)).alloc (.cells #[.bool false, .slice none 0 0, .bool false, .slice none 0 0] T)) := ((Below.refl _ _).alloc (Nat.le_refl _) _).alloc (by simp) _
  have d1 : B4q ((W.alloc (.cells #[.bool false, .slice none 0 0, .bool false, .slice none 0 0] T)).alloc (.cells #[.bool false, .slice none 0 0, .bool false, .slice none 0 0] T)) W.heap.size Fq.z := (B4.made W _ _ _ _ T).keep (bel_one _ _)
  have d2 : B4q ((W.alloc (.cells #[.bool false, .slice none 0 0, .bool false, .slice none 0 0] T)).alloc (.cells #[.bool false, .slice none 0 0, .bool false, .slice none 0 0] T)) (W.heap.size + 1) Fq.z := by rw [← s1]; exact B4.made _ _ _ _ _ T
  have d3 : B4q (fourq ((W.alloc (.cells #[.bool false, .slice none 0 0, .bool false, .slice none 0 0] T)).alloc (.cells #[.bool false, .slice none 0 0, .bool false, .slice none 0 0] T)) W.heap.size f) (W.heap.size + 1) Fq.z := d2.other (by omega) _ _ _ _
  exact ⟨below_four (below_four hb (Nat.le_refl _) _ _ _ _) (by omega) _ _ _ _, (d1.set _ _ _ _).other (by omega) _ _ _ _, d3.set _ _ _ _, fun q x y hq => ((hq.below hb).set d1 f).set d3 h⟩
theorem fSum_bd (x y x' y' : Int) (n1 : x.natAbs < bp 400) (o1 : y.natAbs < bp 400) (n2 : x'.natAbs < bp 400) (o2 : y'.natAbs < bp 400) : (fSum x y x' y').1.natAbs < bp 2000 ∧ (fSum x y x' y').2.natAbs < bp 2000 :=
  ⟨bpz_add (bpz_mul n1 o2 (show 400 + 400 ≤ 800 by decide)) (bpz_mul n2 o1 (show 400 + 400 ≤ 800 by decide)) (show 800 + 1 ≤ 2000 by decide), bpz_mul o1 o2 (show 400 + 400 ≤ 2000 by decide)⟩
theorem fMul_bd (x y x' y' : Int) (n1 : x.natAbs < bp 400) (o1 : y.natAbs < bp 400) (n2 : x'.natAbs < bp 400) (o2 : y'.natAbs < bp 400) : (fMul x y x' y').1.natAbs < bp 2000 ∧ (fMul x y x' y').2.natAbs < bp 2000 :=
  ⟨bpz_mul n1 n2 (show 400 + 400 ≤ 2000 by decide), bpz_mul o1 o2 (show 400 + 400 ≤ 2000 by decide)⟩
def orS (n d n' d' : List UInt8) : Int × Int :=
  match rread n d with
  | none => (0, rflt n d)
  | some (x, y) => match rread n' d' with
    | none => (0, rflt n' d')
    | some (x', y') => (zcmp (x * y') (x' * y), 0)
set_option maxRecDepth 100000 in
set_option maxHeartbeats 4000000 in
theorem Sum_c (s t s' t' : ByteArray) (w : World) :
    Calls Tryd.prog 10 #[.agg #[.string s, .string t], .agg #[.string s', .string t']] w (OpPost (opS fSum s.data.toList t.data.toList s'.data.toList t'.data.toList) w) := by
  obtain ⟨W0, hW0⟩ : ∃ W0, ((w.alloc (.cells #[.string s, .string t] 23)).alloc (.cells #[.string s', .string t'] 23)).alloc (.cells #[.string ⟨#[]⟩, .string ⟨#[]⟩] 23) = W0 := ⟨_, rfl⟩
  have J0 : Hid (Sa w s t s' t' W0) := by rw [← hW0]; exact Sa.made _ _ _ _ _ _ _ _
  have x0 := J0.out.x.c0
  have x1 := J0.out.x.c1
  have y0 := J0.out.y.c0
  have y1 := J0.out.y.c1
  have H1 := Lib.hid (fun w => fractionsOf_c s t s' t' w)
  go_enter Tryd.func10, Tryd.ntmps10
  go_wp2_with fail
  clear hW0 x0 x1 y0 y1
  refine (H1.out _).mono ?_
  rintro e w1 ⟨f, h, flt, rfl, b1, hpost⟩
  have P1 := Lib.hid hpost
  have J1 := Lib.hid (J0.out.keep b1)
  clear b1 hpost H1
  have LD := laid_is (W := w1) f h 39
  obtain ⟨W5, hW5⟩ : ∃ W5, laid w1 f h 39 = W5 := ⟨_, rfl⟩
  rw [hW5] at LD
  have L5 := Lib.hid LD
  clear LD
  -- the walk meets the two boxes one after the other
  obtain ⟨WA, hWA⟩ : ∃ WA, (w1.alloc (.cells #[.bool false, .slice none 0 0, .bool false, .slice none 0 0] 39)).alloc (.cells #[.bool false, .slice none 0 0, .bool false, .slice none 0 0] 39) = WA := ⟨_, rfl⟩
  have s1 : (w1.alloc (.cells #[.bool false, .slice none 0 0, .bool false, .slice none 0 0] 39)).heap.size = w1.heap.size + 1 := by simp
  have D1 : B4q WA w1.heap.size Fq.z := by rw [← hWA]; exact (B4.made _ _ _ _ _ _).keep (bel_one _ _)
  have D2 : B4q WA (w1.heap.size + 1) Fq.z := by rw [← hWA, ← s1]; exact B4.made _ _ _ _ _ _
  have hW5' : fourq (fourq WA w1.heap.size f) (w1.heap.size + 1) h = W5 := by rw [← hW5, ← hWA]; rfl
  clear hW5 s1
  have a0 := D1.c0
  have a1 := D1.c1
  have a2 := D1.c2
  have a3 := D1.c3
  have af0 := D1.fr 0
  have af1 := D1.fr 1
  have af2 := D1.fr 2
  have af3 := D1.fr 3
  have b0 := D2.c0
  have b1 := D2.c1
  have b2 := D2.c2
  have b3 := D2.c3
  have bf0 := D2.fr 0
  have bf1 := D2.fr 1
  have bf2 := D2.fr 2
  have bf3 := D2.fr 3
  clear D1 D2
  simp only [Fq.z] at a0 a1 a2 a3 b0 b1 b2 b3
  unfold fourq four at hW5'
  by_cases hz : flt = 0
  · subst hz
    obtain ⟨x, y, x', y', e1, e2, i1, i2⟩ := (P1.out.resolve_right (fun q => q.1 rfl)).2
    have I1 := Lib.hid (L5.out.2.2.2 f x y i1)
    have I2 := Lib.hid (L5.out.2.2.2 h x' y' i2)
    have RS : Hid (opS fSum s.data.toList t.data.toList s'.data.toList t'.data.toList = raR (fSum x y x' y').1 (fSum x y x' y').2) := by unfold Hid opS; rw [e1, e2]
    have JB5 : Hid (Below w.heap.size w W5) := J1.out.bel.trans (L5.out.1.mono J1.out.bel.size)
    have JR5 := Lib.hid (J1.out.r.keep L5.out.1)
    have p0 := L5.out.2.1.c0
    have p1 := L5.out.2.1.c1
    have p2 := L5.out.2.1.c2
    have p3 := L5.out.2.1.c3
    have q0 := L5.out.2.2.1.c0
    have q1 := L5.out.2.2.1.c1
    have q2 := L5.out.2.2.1.c2
    have q3 := L5.out.2.2.1.c3
    clear e1 e2 i1 i2 P1
    have m4 : bp 125 ≤ bp 400 := bp_mono (by decide)
    have HO := Lib.hid (FPlus_c f.b f.a f.k f.c f.b' f.a' f.k' f.c' h.b h.a h.k h.c h.b' h.a' h.k' h.c' x y x' y' W5 I1.out.n I1.out.d I2.out.n I2.out.d (Nat.lt_of_lt_of_le I1.out.nb m4) (Nat.lt_of_lt_of_le I1.out.db m4) (Nat.lt_of_lt_of_le I2.out.nb m4) (Nat.lt_of_lt_of_le I2.out.db m4) (by have := I1.out.pos; omega) (by have := I2.out.pos; omega))
    clear m4
    go_wp2_with fail
    clear hW5' hWA a0 a1 a2 a3 af0 af1 af2 af3 b0 b1 b2 b3 bf0 bf1 bf2 bf3 p0 p1 p2 p3 q0 q1 q2 q3
    (refine HO.out.mono ?_)
    rintro e w6 ⟨ob, oa, ok, oc, ob', oa', ok', oc', rfl, hn, hd, b6⟩
    have JB6 := Lib.hid (JB5.out.trans (b6.mono JB5.out.size))
    have JR6 := Lib.hid (JR5.out.keep b6)
    have m5 : bp 125 ≤ bp 600 := bp_mono (by decide)
    have bnd := fSum_bd x y x' y' (Nat.lt_of_lt_of_le I1.out.nb (bp_mono (by decide))) (Nat.lt_of_lt_of_le I1.out.db (bp_mono (by decide))) (Nat.lt_of_lt_of_le I2.out.nb (bp_mono (by decide))) (Nat.lt_of_lt_of_le I2.out.db (bp_mono (by decide)))
    have HRO := Lib.hid (ratioOf_c ob oa ok oc ob' oa' ok' oc' _ _ w6 hn hd (Nat.lt_of_le_of_lt (tdiv_abs_le _ _) bnd.1) (Nat.lt_of_le_of_lt (tdiv_abs_le _ _) bnd.2) (red_pos (n := (fSum x y x' y').1) (d := (fSum x y x' y').2) (Int.mul_ne_zero (by have := I1.out.pos; omega) (by have := I2.out.pos; omega))))
    clear hn hd b6 m5 bnd
    go_wp2_with fail
    (refine HRO.out.mono ?_)
    rintro e w7 ⟨rfl, b7⟩
    have JB7 := Lib.hid (JB6.out.trans (b7.mono JB6.out.size))
    have JR7 := Lib.hid (JR6.out.keep b7)
    obtain ⟨rr, hrr⟩ : ∃ rr, ra ((x * y' + x' * y).tdiv (ovG (x * y' + x' * y) (y * y'))) ((y * y').tdiv (ovG (x * y' + x' * y) (y * y'))) = rr := ⟨_, rfl⟩
    have RS2 : Hid (opS fSum s.data.toList t.data.toList s'.data.toList t'.data.toList = rr) := by rw [← hrr]; exact RS.out
    rw [hrr]
    clear b7 hrr HRO RS
    obtain ⟨W9, hW9⟩ : ∃ W9, two w7 (w.heap.size + 1 + 1) (.string rr.1) (.string rr.2.1) = W9 := ⟨_, rfl⟩
    have R9 : B2 W9 (w.heap.size + 1 + 1) (.string rr.1) (.string rr.2.1) := by rw [← hW9]; exact JR7.out.set _ _
    have PP : Hid (OpPost (opS fSum s.data.toList t.data.toList s'.data.toList t'.data.toList) w (.returned (.tuple #[.agg #[.string rr.1, .string rr.2.1], .int .i64 rr.2.2])) W9) := by
      rw [← hW9]
      exact ⟨by rw [RS2.out], below_two JB7.out (by omega) _ _⟩
    have c0 := JR7.out.c0
    have c1 := JR7.out.c1
    have cf0 := JR7.out.fr 0
    have cf1 := JR7.out.fr 1
    obtain ⟨r0, r1, _, _⟩ := id R9
    unfold two at hW9
    clear R9
    go_wp2_with fail
    exact bodyPost_ret (v := .tuple #[.agg #[.string rr.1, .string rr.2.1], .int .i64 rr.2.2]) (by simp [results, Tryd.results10, go_sem, r0, r1]) rfl PP.out
  · have hne : (flt == 0) = false := by rw [beq_eq_false_iff_ne]; exact hz
    have hne2 : (flt != 0) = true := by simp [hz]
    have RS2 : Hid (opS fSum s.data.toList t.data.toList s'.data.toList t'.data.toList = (⟨#[]⟩, ⟨#[]⟩, flt)) := by
      unfold Hid opS
      rcases (P1.out.resolve_left (fun q => hz q.1)).2 with ⟨e1, e2⟩ | ⟨⟨p, e1⟩, e2, e3⟩
      · rw [e1, e2]
      · rw [e1, e2, e3]
    have JB7 : Hid (Below w.heap.size w W5) := J1.out.bel.trans (L5.out.1.mono J1.out.bel.size)
    have JR7 := Lib.hid (J1.out.r.keep L5.out.1)
    clear hz P1 L5 J1
    obtain ⟨W9, hW9⟩ : ∃ W9, two W5 (w.heap.size + 1 + 1) (.string ⟨#[]⟩) (.string ⟨#[]⟩) = W9 := ⟨_, rfl⟩
    have R9 : B2 W9 (w.heap.size + 1 + 1) (.string ⟨#[]⟩) (.string ⟨#[]⟩) := by rw [← hW9]; exact JR7.out.set _ _
    have PP : Hid (OpPost (opS fSum s.data.toList t.data.toList s'.data.toList t'.data.toList) w (.returned (.tuple #[.agg #[.string ⟨#[]⟩, .string ⟨#[]⟩], .int .i64 flt])) W9) := by
      rw [← hW9]
      exact ⟨by rw [RS2.out], below_two JB7.out (by omega) _ _⟩
    have c0 := JR7.out.c0
    have c1 := JR7.out.c1
    have cf0 := JR7.out.fr 0
    have cf1 := JR7.out.fr 1
    obtain ⟨r0, r1, _, _⟩ := id R9
    unfold two at hW9
    clear R9
    go_wp2_with fail
    exact bodyPost_ret (v := .tuple #[.agg #[.string ⟨#[]⟩, .string ⟨#[]⟩], .int .i64 flt]) (by simp [results, Tryd.results10, go_sem, r0, r1]) rfl PP.out
set_option maxRecDepth 100000 in
set_option maxHeartbeats 4000000 in
theorem Product_c (s t s' t' : ByteArray) (w : World) :
    Calls Tryd.prog 11 #[.agg #[.string s, .string t], .agg #[.string s', .string t']] w (OpPost (opS fMul s.data.toList t.data.toList s'.data.toList t'.data.toList) w) := by
  obtain ⟨W0, hW0⟩ : ∃ W0, ((w.alloc (.cells #[.string s, .string t] 23)).alloc (.cells #[.string s', .string t'] 23)).alloc (.cells #[.string ⟨#[]⟩, .string ⟨#[]⟩] 23) = W0 := ⟨_, rfl⟩
  have J0 : Hid (Sa w s t s' t' W0) := by rw [← hW0]; exact Sa.made _ _ _ _ _ _ _ _
  have x0 := J0.out.x.c0
  have x1 := J0.out.x.c1
  have y0 := J0.out.y.c0
  have y1 := J0.out.y.c1
  have H1 := Lib.hid (fun w => fractionsOf_c s t s' t' w)
  go_enter Tryd.func11, Tryd.ntmps11
  go_wp2_with fail
  clear hW0 x0 x1 y0 y1
  refine (H1.out _).mono ?_
  rintro e w1 ⟨f, h, flt, rfl, b1, hpost⟩
  have P1 := Lib.hid hpost
  have J1 := Lib.hid (J0.out.keep b1)
  clear b1 hpost H1
  have LD := laid_is (W := w1) f h 39
  obtain ⟨W5, hW5⟩ : ∃ W5, laid w1 f h 39 = W5 := ⟨_, rfl⟩
  rw [hW5] at LD
  have L5 := Lib.hid LD
  clear LD
  -- the walk meets the two boxes one after the other
  obtain ⟨WA, hWA⟩ : ∃ WA, (w1.alloc (.cells #[.bool false, .slice none 0 0, .bool false, .slice none 0 0] 39)).alloc (.cells #[.bool false, .slice none 0 0, .bool false, .slice none 0 0] 39) = WA := ⟨_, rfl⟩
  have s1 : (w1.alloc (.cells #[.bool false, .slice none 0 0, .bool false, .slice none 0 0] 39)).heap.size = w1.heap.size + 1 := by simp
  have D1 : B4q WA w1.heap.size Fq.z := by rw [← hWA]; exact (B4.made _ _ _ _ _ _).keep (bel_one _ _)
  have D2 : B4q WA (w1.heap.size + 1) Fq.z := by rw [← hWA, ← s1]; exact B4.made _ _ _ _ _ _
  have hW5' : fourq (fourq WA w1.heap.size f) (w1.heap.size + 1) h = W5 := by rw [← hW5, ← hWA]; rfl
  clear hW5 s1
  have a0 := D1.c0
  have a1 := D1.c1
  have a2 := D1.c2
  have a3 := D1.c3
  have af0 := D1.fr 0
  have af1 := D1.fr 1
  have af2 := D1.fr 2
  have af3 := D1.fr 3
  have b0 := D2.c0
  have b1 := D2.c1
  have b2 := D2.c2
  have b3 := D2.c3
  have bf0 := D2.fr 0
  have bf1 := D2.fr 1
  have bf2 := D2.fr 2
  have bf3 := D2.fr 3
  clear D1 D2
  simp only [Fq.z] at a0 a1 a2 a3 b0 b1 b2 b3
  unfold fourq four at hW5'
  by_cases hz : flt = 0
  · subst hz
    obtain ⟨x, y, x', y', e1, e2, i1, i2⟩ := (P1.out.resolve_right (fun q => q.1 rfl)).2
    have I1 := Lib.hid (L5.out.2.2.2 f x y i1)
    have I2 := Lib.hid (L5.out.2.2.2 h x' y' i2)
    have RS : Hid (opS fMul s.data.toList t.data.toList s'.data.toList t'.data.toList = raR (fMul x y x' y').1 (fMul x y x' y').2) := by unfold Hid opS; rw [e1, e2]
    have JB5 : Hid (Below w.heap.size w W5) := J1.out.bel.trans (L5.out.1.mono J1.out.bel.size)
    have JR5 := Lib.hid (J1.out.r.keep L5.out.1)
    have p0 := L5.out.2.1.c0
    have p1 := L5.out.2.1.c1
    have p2 := L5.out.2.1.c2
    have p3 := L5.out.2.1.c3
    have q0 := L5.out.2.2.1.c0
    have q1 := L5.out.2.2.1.c1
    have q2 := L5.out.2.2.1.c2
    have q3 := L5.out.2.2.1.c3
    clear e1 e2 i1 i2 P1
    have m4 : bp 125 ≤ bp 400 := bp_mono (by decide)
    have HO := Lib.hid (FTimes_c f.b f.a f.k f.c f.b' f.a' f.k' f.c' h.b h.a h.k h.c h.b' h.a' h.k' h.c' x y x' y' W5 I1.out.n I1.out.d I2.out.n I2.out.d (Nat.lt_of_lt_of_le I1.out.nb m4) (Nat.lt_of_lt_of_le I1.out.db m4) (Nat.lt_of_lt_of_le I2.out.nb m4) (Nat.lt_of_lt_of_le I2.out.db m4) (by have := I1.out.pos; omega) (by have := I2.out.pos; omega))
    clear m4
    go_wp2_with fail
    clear hW5' hWA a0 a1 a2 a3 af0 af1 af2 af3 b0 b1 b2 b3 bf0 bf1 bf2 bf3 p0 p1 p2 p3 q0 q1 q2 q3
    (refine HO.out.mono ?_)
    rintro e w6 ⟨ob, oa, ok, oc, ob', oa', ok', oc', rfl, hn, hd, b6⟩
    have JB6 := Lib.hid (JB5.out.trans (b6.mono JB5.out.size))
    have JR6 := Lib.hid (JR5.out.keep b6)
    have m5 : bp 125 ≤ bp 600 := bp_mono (by decide)
    have bnd := fMul_bd x y x' y' (Nat.lt_of_lt_of_le I1.out.nb (bp_mono (by decide))) (Nat.lt_of_lt_of_le I1.out.db (bp_mono (by decide))) (Nat.lt_of_lt_of_le I2.out.nb (bp_mono (by decide))) (Nat.lt_of_lt_of_le I2.out.db (bp_mono (by decide)))
    have HRO := Lib.hid (ratioOf_c ob oa ok oc ob' oa' ok' oc' _ _ w6 hn hd (Nat.lt_of_le_of_lt (tdiv_abs_le _ _) bnd.1) (Nat.lt_of_le_of_lt (tdiv_abs_le _ _) bnd.2) (red_pos (n := (fMul x y x' y').1) (d := (fMul x y x' y').2) (Int.mul_ne_zero (by have := I1.out.pos; omega) (by have := I2.out.pos; omega))))
    clear hn hd b6 m5 bnd
    go_wp2_with fail
    (refine HRO.out.mono ?_)
    rintro e w7 ⟨rfl, b7⟩
    have JB7 := Lib.hid (JB6.out.trans (b7.mono JB6.out.size))
    have JR7 := Lib.hid (JR6.out.keep b7)
    obtain ⟨rr, hrr⟩ : ∃ rr, ra ((x * x').tdiv (ovG (x * x') (y * y'))) ((y * y').tdiv (ovG (x * x') (y * y'))) = rr := ⟨_, rfl⟩
    have RS2 : Hid (opS fMul s.data.toList t.data.toList s'.data.toList t'.data.toList = rr) := by rw [← hrr]; exact RS.out
    rw [hrr]
    clear b7 hrr HRO RS
    obtain ⟨W9, hW9⟩ : ∃ W9, two w7 (w.heap.size + 1 + 1) (.string rr.1) (.string rr.2.1) = W9 := ⟨_, rfl⟩
    have R9 : B2 W9 (w.heap.size + 1 + 1) (.string rr.1) (.string rr.2.1) := by rw [← hW9]; exact JR7.out.set _ _
    have PP : Hid (OpPost (opS fMul s.data.toList t.data.toList s'.data.toList t'.data.toList) w (.returned (.tuple #[.agg #[.string rr.1, .string rr.2.1], .int .i64 rr.2.2])) W9) := by
      rw [← hW9]
      exact ⟨by rw [RS2.out], below_two JB7.out (by omega) _ _⟩
    have c0 := JR7.out.c0
    have c1 := JR7.out.c1
    have cf0 := JR7.out.fr 0
    have cf1 := JR7.out.fr 1
    obtain ⟨r0, r1, _, _⟩ := id R9
    unfold two at hW9
    clear R9
    go_wp2_with fail
    exact bodyPost_ret (v := .tuple #[.agg #[.string rr.1, .string rr.2.1], .int .i64 rr.2.2]) (by simp [results, Tryd.results11, go_sem, r0, r1]) rfl PP.out
  · have hne : (flt == 0) = false := by rw [beq_eq_false_iff_ne]; exact hz
    have hne2 : (flt != 0) = true := by simp [hz]
    have RS2 : Hid (opS fMul s.data.toList t.data.toList s'.data.toList t'.data.toList = (⟨#[]⟩, ⟨#[]⟩, flt)) := by
      unfold Hid opS
      rcases (P1.out.resolve_left (fun q => hz q.1)).2 with ⟨e1, e2⟩ | ⟨⟨p, e1⟩, e2, e3⟩
      · rw [e1, e2]
      · rw [e1, e2, e3]
    have JB7 : Hid (Below w.heap.size w W5) := J1.out.bel.trans (L5.out.1.mono J1.out.bel.size)
    have JR7 := Lib.hid (J1.out.r.keep L5.out.1)
    clear hz P1 L5 J1
    obtain ⟨W9, hW9⟩ : ∃ W9, two W5 (w.heap.size + 1 + 1) (.string ⟨#[]⟩) (.string ⟨#[]⟩) = W9 := ⟨_, rfl⟩
    have R9 : B2 W9 (w.heap.size + 1 + 1) (.string ⟨#[]⟩) (.string ⟨#[]⟩) := by rw [← hW9]; exact JR7.out.set _ _
    have PP : Hid (OpPost (opS fMul s.data.toList t.data.toList s'.data.toList t'.data.toList) w (.returned (.tuple #[.agg #[.string ⟨#[]⟩, .string ⟨#[]⟩], .int .i64 flt])) W9) := by
      rw [← hW9]
      exact ⟨by rw [RS2.out], below_two JB7.out (by omega) _ _⟩
    have c0 := JR7.out.c0
    have c1 := JR7.out.c1
    have cf0 := JR7.out.fr 0
    have cf1 := JR7.out.fr 1
    obtain ⟨r0, r1, _, _⟩ := id R9
    unfold two at hW9
    clear R9
    go_wp2_with fail
    exact bodyPost_ret (v := .tuple #[.agg #[.string ⟨#[]⟩, .string ⟨#[]⟩], .int .i64 flt]) (by simp [results, Tryd.results11, go_sem, r0, r1]) rfl PP.out
set_option maxRecDepth 100000 in
set_option maxHeartbeats 4000000 in
theorem Order_c (s t s' t' : ByteArray) (w : World) :
    Calls Tryd.prog 9 #[.agg #[.string s, .string t], .agg #[.string s', .string t']] w fun e w' => e = .returned (.tuple #[.int .i64 (orS s.data.toList t.data.toList s'.data.toList t'.data.toList).1, .int .i64 (orS s.data.toList t.data.toList s'.data.toList t'.data.toList).2]) ∧ Below w.heap.size w w' := by
  obtain ⟨W0, hW0⟩ : ∃ W0, (w.alloc (.cells #[.string s, .string t] 23)).alloc (.cells #[.string s', .string t'] 23) = W0 := ⟨_, rfl⟩
  have s1 : (w.alloc (.cells #[.string s, .string t] 23)).heap.size = w.heap.size + 1 := by simp
  have X0 : B2 W0 w.heap.size (.string s) (.string t) := by rw [← hW0]; exact (B2.made w _ _ _).keep (bel_one _ _)
  have Y0 : B2 W0 (w.heap.size + 1) (.string s') (.string t') := by rw [← hW0, ← s1]; exact B2.made _ _ _ _
  have BB0 : Hid (Below w.heap.size w W0) := by rw [← hW0]; exact ((Below.refl _ _).alloc (Nat.le_refl _) _).alloc (by simp) _
  have x0 := X0.c0
  have x1 := X0.c1
  have y0 := Y0.c0
  have y1 := Y0.c1
  clear X0 Y0 s1
  have H1 := Lib.hid (fun w => fractionsOf_c s t s' t' w)
  go_enter Tryd.func9, Tryd.ntmps9
  go_wp2_with fail
  clear hW0 x0 x1 y0 y1
  refine (H1.out _).mono ?_
  rintro e w1 ⟨f, h, flt, rfl, b1, hpost⟩
  have P1 := Lib.hid hpost
  have J1 := Lib.hid (BB0.out.trans (b1.mono BB0.out.size))
  clear b1 hpost H1
  have LD := laid_is (W := w1) f h 39
  obtain ⟨W5, hW5⟩ : ∃ W5, laid w1 f h 39 = W5 := ⟨_, rfl⟩
  rw [hW5] at LD
  have L5 := Lib.hid LD
  clear LD
  -- the walk meets the two boxes one after the other
  obtain ⟨WA, hWA⟩ : ∃ WA, (w1.alloc (.cells #[.bool false, .slice none 0 0, .bool false, .slice none 0 0] 39)).alloc (.cells #[.bool false, .slice none 0 0, .bool false, .slice none 0 0] 39) = WA := ⟨_, rfl⟩
  have s1 : (w1.alloc (.cells #[.bool false, .slice none 0 0, .bool false, .slice none 0 0] 39)).heap.size = w1.heap.size + 1 := by simp
  have D1 : B4q WA w1.heap.size Fq.z := by rw [← hWA]; exact (B4.made _ _ _ _ _ _).keep (bel_one _ _)
  have D2 : B4q WA (w1.heap.size + 1) Fq.z := by rw [← hWA, ← s1]; exact B4.made _ _ _ _ _ _
  have hW5' : fourq (fourq WA w1.heap.size f) (w1.heap.size + 1) h = W5 := by rw [← hW5, ← hWA]; rfl
  clear hW5 s1
  have a0 := D1.c0
  have a1 := D1.c1
  have a2 := D1.c2
  have a3 := D1.c3
  have af0 := D1.fr 0
  have af1 := D1.fr 1
  have af2 := D1.fr 2
  have af3 := D1.fr 3
  have b0 := D2.c0
  have b1 := D2.c1
  have b2 := D2.c2
  have b3 := D2.c3
  have bf0 := D2.fr 0
  have bf1 := D2.fr 1
  have bf2 := D2.fr 2
  have bf3 := D2.fr 3
  clear D1 D2
  simp only [Fq.z] at a0 a1 a2 a3 b0 b1 b2 b3
  unfold fourq four at hW5'
  by_cases hz : flt = 0
  · subst hz
    obtain ⟨x, y, x', y', e1, e2, i1, i2⟩ := (P1.out.resolve_right (fun q => q.1 rfl)).2
    have I1 := Lib.hid (L5.out.2.2.2 f x y i1)
    have I2 := Lib.hid (L5.out.2.2.2 h x' y' i2)
    have RS : Hid (orS s.data.toList t.data.toList s'.data.toList t'.data.toList = (zcmp (x * y') (x' * y), 0)) := by unfold Hid orS; rw [e1, e2]
    have JB5 : Hid (Below w.heap.size w W5) := J1.out.trans (L5.out.1.mono J1.out.size)
    have p0 := L5.out.2.1.c0
    have p1 := L5.out.2.1.c1
    have p2 := L5.out.2.1.c2
    have p3 := L5.out.2.1.c3
    have q0 := L5.out.2.2.1.c0
    have q1 := L5.out.2.2.1.c1
    have q2 := L5.out.2.2.1.c2
    have q3 := L5.out.2.2.1.c3
    clear e1 e2 i1 i2 P1
    have m4 : bp 125 ≤ bp 400 := bp_mono (by decide)
    have HO := Lib.hid (FCompare_c f.b f.a f.k f.c f.b' f.a' f.k' f.c' h.b h.a h.k h.c h.b' h.a' h.k' h.c' x y x' y' W5 I1.out.n I1.out.d I2.out.n I2.out.d (Nat.lt_of_lt_of_le I1.out.nb m4) (Nat.lt_of_lt_of_le I1.out.db m4) (Nat.lt_of_lt_of_le I2.out.nb m4) (Nat.lt_of_lt_of_le I2.out.db m4))
    clear m4
    go_wp2_with fail
    clear hW5' hWA a0 a1 a2 a3 af0 af1 af2 af3 b0 b1 b2 b3 bf0 bf1 bf2 bf3 p0 p1 p2 p3 q0 q1 q2 q3
    (with_reducible refine HO.out.mono ?_)
    rintro e w6 ⟨rfl, b6⟩
    have PP : Hid (Below w.heap.size w w6) := JB5.out.trans (b6.mono JB5.out.size)
    clear b6
    go_wp2_with fail
    go_ret2
    exact ⟨by rw [RS.out]; rfl, PP.out⟩
  · have hne : (flt == 0) = false := by rw [beq_eq_false_iff_ne]; exact hz
    have hne2 : (flt != 0) = true := by simp [hz]
    have RS : Hid (orS s.data.toList t.data.toList s'.data.toList t'.data.toList = (0, flt)) := by
      unfold Hid orS
      rcases (P1.out.resolve_left (fun q => hz q.1)).2 with ⟨e1, e2⟩ | ⟨⟨p, e1⟩, e2, e3⟩
      · rw [e1, e2]
      · rw [e1, e2, e3]
    have JB5 : Hid (Below w.heap.size w W5) := J1.out.trans (L5.out.1.mono J1.out.size)
    clear hz P1 L5 J1
    go_wp2_with fail
    go_ret2
    exact ⟨by rw [RS.out]; rfl, JB5.out⟩
end Go.Proofs.YtaibpppobblnoaaDoor
