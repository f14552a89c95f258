/-
  Ratios of package value: Inverse.
-/
import Derived.Test.YtaibpppobblnoaaDoorWhVal4
namespace Go.Proofs.YtaibpppobblnoaaDoor
open Go.RowKit

def ivS (n d : List UInt8) : ByteArray × ByteArray × Int :=
  match rread n d with
  | none => (⟨#[]⟩, ⟨#[]⟩, rflt n d)
  | some (x, y) => if x = 0 then (⟨#[]⟩, ⟨#[]⟩, 19) else raR y x
/-- A fraction is laid into a fresh box. -/
def laid1 (W : World) (f : Fq) (T : TypeId) : World := fourq (W.alloc (.cells #[.bool false, .slice none 0 0, .bool false, .slice none 0 0] T)) W.heap.size f
theorem laid1_is {W : World} (f : Fq) (T : TypeId) : Below W.heap.size W (laid1 W f T) ∧ B4q (laid1 W f T) W.heap.size f ∧ (∀ q x y, Fi W q x y → Fi (laid1 W f T) q x y) := by
  have hb := bel_one W (.cells #[.bool false, .slice none 0 0, .bool false, .slice none 0 0] T)
  have d1 : B4q (W.alloc (.cells #[.bool false, .slice none 0 0, .bool false, .slice none 0 0] T)) W.heap.size Fq.z := B4.made W _ _ _ _ T
  exact ⟨below_four hb (Nat.le_refl _) _ _ _ _, d1.set _ _ _ _, fun q x y hq => (hq.below hb).set d1 f⟩
set_option maxRecDepth 100000 in
set_option maxHeartbeats 4000000 in
theorem Inverse_c (s t : ByteArray) (w : World) :
    Calls Tryd.prog 8 #[.agg #[.string s, .string t]] w (OpPost (ivS s.data.toList t.data.toList) w) := by
  obtain ⟨W0, hW0⟩ : ∃ W0, (w.alloc (.cells #[.string s, .string t] 23)).alloc (.cells #[.string ⟨#[]⟩, .string ⟨#[]⟩] 23) = W0 := ⟨_, rfl⟩
  have s1 : (w.alloc (.cells #[.string s, .string t] 23)).heap.size = w.heap.size + 1 := by simp
  have X0 : B2 W0 w.heap.size (.string s) (.string t) := by rw [← hW0]; exact (B2.made w _ _ _).keep (bel_one _ _)
  have JR0 : Hid (B2 W0 (w.heap.size + 1) (.string ⟨#[]⟩) (.string ⟨#[]⟩)) := by rw [← hW0, ← s1]; exact B2.made _ _ _ _
  have BB0 : Hid (Below w.heap.size w W0) := by rw [← hW0]; exact ((Below.refl _ _).alloc (Nat.le_refl _) _).alloc (by simp) _
  have x0 := X0.c0
  have x1 := X0.c1
  clear X0 s1
  have H1 := Lib.hid (fun w => fractionOf_q s t w)
  go_enter Tryd.func8, Tryd.ntmps8
  go_wp2_with fail
  clear hW0 x0 x1
  refine (H1.out _).mono ?_
  rintro e w1 ⟨f, flt, rfl, b1, hpost⟩
  have P1 := Lib.hid hpost
  have J1 := Lib.hid (BB0.out.trans (b1.mono BB0.out.size))
  have JR1 := Lib.hid (JR0.out.keep b1)
  clear b1 hpost H1 BB0 JR0
  have LD := laid1_is (W := w1) f 39
  obtain ⟨W5, hW5⟩ : ∃ W5, laid1 w1 f 39 = W5 := ⟨_, rfl⟩
  rw [hW5] at LD
  have L5 := Lib.hid LD
  clear LD
  obtain ⟨WA, hWA⟩ : ∃ WA, w1.alloc (.cells #[.bool false, .slice none 0 0, .bool false, .slice none 0 0] 39) = WA := ⟨_, rfl⟩
  have D1 : B4q WA w1.heap.size Fq.z := by rw [← hWA]; exact B4.made _ _ _ _ _ _
  have hW5' : fourq WA w1.heap.size f = W5 := by rw [← hW5, ← hWA]; rfl
  clear hW5
  have a0 := D1.c0
  have a1 := D1.c1
  have a2 := D1.c2
  have a3 := D1.c3
  have af0 := D1.fr 0
  have af1 := D1.fr 1
  have af2 := D1.fr 2
  have af3 := D1.fr 3
  clear D1
  simp only [Fq.z] at a0 a1 a2 a3
  unfold fourq four at hW5'
  have JB5 : Hid (Below w.heap.size w W5) := J1.out.trans (L5.out.1.mono J1.out.size)
  have JR5 := Lib.hid (JR1.out.keep L5.out.1)
  have p0 := L5.out.2.1.c0
  have p1 := L5.out.2.1.c1
  have p2 := L5.out.2.1.c2
  have p3 := L5.out.2.1.c3
  have HBX := Lib.hid L5.out.2.1
  by_cases hz : flt = 0
  · subst hz
    obtain ⟨x, y, e1, i1⟩ := (P1.out.resolve_right (fun q => q.1 rfl)).2
    have I1 := Lib.hid (L5.out.2.2 f x y i1)
    have HSG := Lib.hid (Sign_c f.b f.a f.k f.c x W5 I1.out.n)
    have E1 := Lib.hid e1
    clear e1 i1 P1 L5
    by_cases hx : x = 0
    · have RS : Hid (ivS s.data.toList t.data.toList = (⟨#[]⟩, ⟨#[]⟩, 19)) := by
        unfold Hid ivS
        rw [E1.out]
        show (if x = 0 then _ else _) = _
        rw [if_pos hx]
      have hsg : (x.sign == 0) = true := by rw [hx]; rfl
      have hsg2 : x.sign = 0 := by rw [hx]; rfl
      clear hx
      generalize x.sign = sx at *
      go_wp2_with fail
      clear hW5' hWA a0 a1 a2 a3 af0 af1 af2 af3 p0 p1 p2 p3
      (refine HSG.out.mono ?_)
      rintro e w6 ⟨rfl, b6⟩
      have JB6 := Lib.hid (JB5.out.trans (b6.mono JB5.out.size))
      have JR6 := Lib.hid (JR5.out.keep b6)
      clear b6 HSG
      obtain ⟨W9, hW9⟩ : ∃ W9, two w6 (w.heap.size + 1) (.string ⟨#[]⟩) (.string ⟨#[]⟩) = W9 := ⟨_, rfl⟩
      have R9 : B2 W9 (w.heap.size + 1) (.string ⟨#[]⟩) (.string ⟨#[]⟩) := by rw [← hW9]; exact JR6.out.set _ _
      have PP : Hid (OpPost (ivS s.data.toList t.data.toList) w (.returned (.tuple #[.agg #[.string ⟨#[]⟩, .string ⟨#[]⟩], .int .i64 19])) W9) := by
        rw [← hW9]
        exact ⟨by rw [RS.out], below_two JB6.out (by omega) _ _⟩
      have c0 := JR6.out.c0
      have c1 := JR6.out.c1
      have cf0 := JR6.out.fr 0
      have cf1 := JR6.out.fr 1
      obtain ⟨r0, r1, _, _⟩ := id R9
      unfold two at hW9
      clear R9
      go_wp2_with fail
      exact bodyPost_ret (v := .tuple #[.agg #[.string ⟨#[]⟩, .string ⟨#[]⟩], .int .i64 19]) (by simp [results, Tryd.results8, go_sem, r0, r1]) rfl PP.out
    · have RS : Hid (ivS s.data.toList t.data.toList = raR y x) := by
        unfold Hid ivS
        rw [E1.out]
        show (if x = 0 then _ else _) = _
        rw [if_neg hx]
      have hsg : (x.sign == 0) = false := by
        rw [beq_eq_false_iff_ne]
        intro h
        exact hx (Int.sign_eq_zero_iff_zero.1 h)
      have HX := Lib.hid hx
      have hsg2 : ¬ x.sign = 0 := fun h => hx (Int.sign_eq_zero_iff_zero.1 h)
      clear hx
      generalize x.sign = sx at *
      go_wp2_with fail
      clear hW5' hWA a0 a1 a2 a3 af0 af1 af2 af3 p0 p1 p2 p3
      (refine HSG.out.mono ?_)
      rintro e w6 ⟨rfl, b6⟩
      have JB6 := Lib.hid (JB5.out.trans (b6.mono JB5.out.size))
      have JR6 := Lib.hid (JR5.out.keep b6)
      have I6 := Lib.hid (I1.out.below b6)
      have BX := HBX.out.keep b6
      have p0 := BX.c0
      have p1 := BX.c1
      have p2 := BX.c2
      have p3 := BX.c3
      have HI := Lib.hid (FInverse_c f.b f.a f.k f.c f.b' f.a' f.k' f.c' x y w6 I6.out.n I6.out.d (Nat.lt_of_lt_of_le I6.out.nb (bp_mono (by decide))) (Nat.lt_of_lt_of_le I6.out.db (bp_mono (by decide))) HX.out)
      clear b6 HSG BX HBX I1 JB5 JR5
      go_wp2_with fail
      clear p0 p1 p2 p3
      (refine HI.out.mono ?_)
      rintro e w7 ⟨ob, oa, ok, oc, ob', oa', ok', oc', rfl, hn, hd, b7⟩
      have JB7 := Lib.hid (JB6.out.trans (b7.mono JB6.out.size))
      have JR7 := Lib.hid (JR6.out.keep b7)
      have HRO := Lib.hid (ratioOf_c ob oa ok oc ob' oa' ok' oc' _ _ w7 hn hd (Nat.lt_of_le_of_lt (tdiv_abs_le _ _) (Nat.lt_of_lt_of_le I6.out.db (bp_mono (by decide)))) (Nat.lt_of_le_of_lt (tdiv_abs_le _ _) (Nat.lt_of_lt_of_le I6.out.nb (bp_mono (by decide)))) (red_pos (n := y) (d := x) HX.out))
      clear hn hd b7 HI
      go_wp2_with fail
      (refine HRO.out.mono ?_)
      rintro e w8 ⟨rfl, b8⟩
      have JB8 := Lib.hid (JB7.out.trans (b8.mono JB7.out.size))
      have JR8 := Lib.hid (JR7.out.keep b8)
      obtain ⟨rr, hrr⟩ : ∃ rr, ra (y.tdiv (ovG y x)) (x.tdiv (ovG y x)) = rr := ⟨_, rfl⟩
      have RS2 : Hid (ivS s.data.toList t.data.toList = rr) := by rw [← hrr]; exact RS.out
      rw [hrr]
      clear b8 hrr HRO RS
      obtain ⟨W9, hW9⟩ : ∃ W9, two w8 (w.heap.size + 1) (.string rr.1) (.string rr.2.1) = W9 := ⟨_, rfl⟩
      have R9 : B2 W9 (w.heap.size + 1) (.string rr.1) (.string rr.2.1) := by rw [← hW9]; exact JR8.out.set _ _
      have PP : Hid (OpPost (ivS s.data.toList t.data.toList) w (.returned (.tuple #[.agg #[.string rr.1, .string rr.2.1], .int .i64 rr.2.2])) W9) := by
        rw [← hW9]
        exact ⟨by rw [RS2.out], below_two JB8.out (by omega) _ _⟩
      have c0 := JR8.out.c0
      have c1 := JR8.out.c1
      have cf0 := JR8.out.fr 0
      have cf1 := JR8.out.fr 1
      obtain ⟨r0, r1, _, _⟩ := id R9
      unfold two at hW9
      clear R9
      go_wp2_with fail
      exact bodyPost_ret (v := .tuple #[.agg #[.string rr.1, .string rr.2.1], .int .i64 rr.2.2]) (by simp [results, Tryd.results8, go_sem, r0, r1]) rfl PP.out
  · have hne : (flt == 0) = false := by rw [beq_eq_false_iff_ne]; exact hz
    have hne2 : (flt != 0) = true := by simp [hz]
    have RS2 : Hid (ivS s.data.toList t.data.toList = (⟨#[]⟩, ⟨#[]⟩, flt)) := by
      unfold Hid ivS
      obtain ⟨e1, e2⟩ := (P1.out.resolve_left (fun q => hz q.1)).2
      rw [e1, e2]
    clear hz P1 L5 J1 HBX
    obtain ⟨W9, hW9⟩ : ∃ W9, two W5 (w.heap.size + 1) (.string ⟨#[]⟩) (.string ⟨#[]⟩) = W9 := ⟨_, rfl⟩
    have R9 : B2 W9 (w.heap.size + 1) (.string ⟨#[]⟩) (.string ⟨#[]⟩) := by rw [← hW9]; exact JR5.out.set _ _
    have PP : Hid (OpPost (ivS s.data.toList t.data.toList) w (.returned (.tuple #[.agg #[.string ⟨#[]⟩, .string ⟨#[]⟩], .int .i64 flt])) W9) := by
      rw [← hW9]
      exact ⟨by rw [RS2.out], below_two JB5.out (by omega) _ _⟩
    have c0 := JR5.out.c0
    have c1 := JR5.out.c1
    have cf0 := JR5.out.fr 0
    have cf1 := JR5.out.fr 1
    obtain ⟨r0, r1, _, _⟩ := id R9
    unfold two at hW9
    clear R9
    go_wp2_with fail
    exact bodyPost_ret (v := .tuple #[.agg #[.string ⟨#[]⟩, .string ⟨#[]⟩], .int .i64 flt]) (by simp [results, Tryd.results8, go_sem, r0, r1]) rfl PP.out
end Go.Proofs.YtaibpppobblnoaaDoor
