/-
  Fractions of whole numbers of any size: the opposite side up.
  Ratios of package value: Inverse.
  Ratios: lowest terms are one thing.
  Ratios: the arithmetic of fractions in lowest terms.
-/
import Derived.Test.YtfijhkaalpinhaaDoorWh12
import Derived.Test.YtfijhkaalpinhaaDoorWh10
namespace Go.Proofs.YtfijhkaalpinhaaDoor
open Go.RowKit

theorem low_pos {x y : Int} (h : Int.gcd x y = 1) (hx : 0 < x) : y.tdiv (ovG y x) = y ∧ x.tdiv (ovG y x) = x := by
  have e : ovG y x = 1 := by unfold ovG; rw [if_neg (by omega), Int.gcd_comm, h]; rfl
  rw [e, Int.tdiv_one, Int.tdiv_one]
  exact ⟨rfl, rfl⟩
theorem low_neg {x y : Int} (h : Int.gcd x y = 1) (hx : x < 0) : y.tdiv (ovG y x) = -y ∧ x.tdiv (ovG y x) = -x := by
  have e : ovG y x = -1 := by unfold ovG; rw [if_pos hx, Int.gcd_comm, h]; rfl
  rw [e, Int.tdiv_neg, Int.tdiv_neg, Int.tdiv_one, Int.tdiv_one]
  exact ⟨rfl, rfl⟩
/-- A fraction's box, and the box of a result. -/
structure F1 (w : World) (b1 : Bool) (a1 : Option Addr) (k1 c1 : Nat) (d1 : Bool) (e1 : Option Addr) (m1 q1 : Nat) (W : World) : Prop where
  x : B4 W w.heap.size (.bool b1) (.slice a1 k1 c1) (.bool d1) (.slice e1 m1 q1)
  r : B4 W (w.heap.size + 1) (.bool false) (.slice none 0 0) (.bool false) (.slice none 0 0)
  bel : Below w.heap.size w W
theorem F1.keep {w : World} {b1 : Bool} {a1 : Option Addr} {k1 c1 : Nat} {d1 : Bool} {e1 : Option Addr} {m1 q1 : Nat} {W W' : World} (h : F1 w b1 a1 k1 c1 d1 e1 m1 q1 W) (hb : Below W.heap.size W W') : F1 w b1 a1 k1 c1 d1 e1 m1 q1 W' := ⟨h.x.keep hb, h.r.keep hb, h.bel.trans (hb.mono h.bel.size)⟩
def S1 (g : Nat) (b1 : Bool) (a1 : Option Addr) (k1 c1 : Nat) (d1 : Bool) (e1 : Option Addr) (m1 q1 : Nat) (W : World) : Prop :=
  W.cell? ⟨g, 0, none⟩ = some (.bool b1) ∧ W.cell? ⟨g, 1, none⟩ = some (.slice a1 k1 c1) ∧ W.cell? ⟨g, 2, none⟩ = some (.bool d1) ∧ W.cell? ⟨g, 3, none⟩ = some (.slice e1 m1 q1)
theorem F1.s1 {w : World} {b1 : Bool} {a1 : Option Addr} {k1 c1 : Nat} {d1 : Bool} {e1 : Option Addr} {m1 q1 : Nat} {W : World} (h : F1 w b1 a1 k1 c1 d1 e1 m1 q1 W) : S1 w.heap.size b1 a1 k1 c1 d1 e1 m1 q1 W := ⟨h.x.c0, h.x.c1, h.x.c2, h.x.c3⟩
theorem F1.done {w : World} {b1 : Bool} {a1 : Option Addr} {k1 c1 : Nat} {d1 : Bool} {e1 : Option Addr} {m1 q1 : Nat} {W : World} (h : F1 w b1 a1 k1 c1 d1 e1 m1 q1 W) (y0 y1 y2 y3 : Value) : S1 w.heap.size b1 a1 k1 c1 d1 e1 m1 q1 (four W (w.heap.size + 1) y0 y1 y2 y3) := by
  have u := h.x.other (h := w.heap.size + 1) (by omega) y0 y1 y2 y3
  exact ⟨u.c0, u.c1, u.c2, u.c3⟩
set_option maxRecDepth 100000 in
set_option maxHeartbeats 4000000 in
theorem FInverse_neg (a1 : Option Addr) (k1 c1 : Nat) (d1 : Bool) (e1 : Option Addr) (m1 q1 : Nat) (z1 y1 : Int) (w : World) (h1 : Zn w true a1 k1 c1 z1) (g1 : Zn w d1 e1 m1 q1 y1) :
    Calls Tryd.prog 15 #[.agg #[.bool true, .slice a1 k1 c1, .bool d1, .slice e1 m1 q1]] w (FrPost (-y1) (-z1) w) := by
  obtain ⟨W0, hW0⟩ : ∃ W0, (w.alloc (.cells #[.bool true, .slice a1 k1 c1, .bool d1, .slice e1 m1 q1] 39)).alloc (.cells #[.bool false, .slice none 0 0, .bool false, .slice none 0 0] 39) = W0 := ⟨_, rfl⟩
  have J0 : Hid (F1 w true a1 k1 c1 d1 e1 m1 q1 W0) := by
    have s1 : (w.alloc (.cells #[.bool true, .slice a1 k1 c1, .bool d1, .slice e1 m1 q1] 39)).heap.size = w.heap.size + 1 := by simp
    rw [← hW0]
    refine ⟨(B4.made w _ _ _ _ _).keep (bel_one _ _), ?_, ((Below.refl _ _).alloc (Nat.le_refl _) _).alloc (by simp) _⟩
    rw [← s1]; exact B4.made _ _ _ _ _ _
  have M1 := Lib.hid (fun W (h : F1 w true a1 k1 c1 d1 e1 m1 q1 W) => h1.below h.bel)
  have D1 := Lib.hid (fun W (h : F1 w true a1 k1 c1 d1 e1 m1 q1 W) => g1.below h.bel)
  have x0 := J0.out.x.c0
  clear h1 g1
  go_enter Tryd.func15, Tryd.ntmps15
  go_wp2_with fail
  clear hW0 x0
  refine wp_region_noPanic ?_
  refine wp_region_held_drew (S := S1 w.heap.size true a1 k1 c1 d1 e1 m1 q1) (by kernel_rfl) (J0.out.keep (Below.refl _ _).drew).s1 (fun hS => ?_)
  have J1 := Lib.hid (J0.out.keep (Below.refl _ _).drew)
  clear J0
  refine wpAnyH_take (i := 0) (v := ?v0z65) rfl (by kernel_rfl) (by kernel_rfl) (by kernel_rfl) (fun _ _ _ h => h) (Or.inl ⟨by rfl, ?hy0z65⟩) (by assumption) ?rest0z65
  case hy0z65 =>
    intro w hSw
    dsimp only [S1] at hSw
    go_simp
    try with_reducible rfl
  simp only [Act.put, List.getElem_toArray, List.getElem_cons_succ, List.getElem_cons_zero, List.setIfInBounds_toArray, List.set_cons_zero, List.set_cons_succ]
  refine wpAnyH_take (i := 1) (v := ?v1z66) rfl (by kernel_rfl) (by kernel_rfl) (by kernel_rfl) (fun _ _ _ h => h) (Or.inl ⟨by rfl, ?hy1z66⟩) (by assumption) ?rest1z66
  case hy1z66 =>
    intro w hSw
    dsimp only [S1] at hSw
    go_simp
    try with_reducible rfl
  simp only [Act.put, List.getElem_toArray, List.getElem_cons_succ, List.getElem_cons_zero, List.setIfInBounds_toArray, List.set_cons_zero, List.set_cons_succ]
  refine wpAnyH_take (i := 3) (v := ?v3z67) rfl (by kernel_rfl) (by kernel_rfl) (by kernel_rfl) (fun _ _ _ h => h) (Or.inl ⟨by rfl, ?hy3z67⟩) (by assumption) ?rest3z67
  case hy3z67 =>
    intro w hSw
    dsimp only [S1] at hSw
    go_simp
    try with_reducible rfl
  simp only [Act.put, List.getElem_toArray, List.getElem_cons_succ, List.getElem_cons_zero, List.setIfInBounds_toArray, List.set_cons_zero, List.set_cons_succ]
  refine wpAnyH_take (i := 4) (v := ?v4z68) rfl (by kernel_rfl) (by kernel_rfl) (by kernel_rfl) (fun _ _ _ h => h) (Or.inl ⟨by rfl, ?hy4z68⟩) (by assumption) ?rest4z68
  case hy4z68 =>
    intro w hSw
    dsimp only [S1] at hSw
    go_simp
    try with_reducible rfl
  simp only [Act.put, List.getElem_toArray, List.getElem_cons_succ, List.getElem_cons_zero, List.setIfInBounds_toArray, List.set_cons_zero, List.set_cons_succ]
  refine wpAnyH_ready (rs := [2]) (by kernel_rfl) (by simp) ?_
  refine AllReadyH.cons rfl (fun K hK => ?_) AllReadyH.nil
  go_simp
  refine (Minus_c d1 e1 m1 q1 y1 _ (D1.out _ J1.out)).mono ?_
  rintro e W3 ⟨ob, oa, ok, oc, rfl, hn, bc⟩
  try go_simp
  have J3 := Lib.hid (J1.out.keep bc)
  have hT := J3.out.s1
  have N3 := Lib.hid hn
  refine hK.out _ _ hT (fun _ => ?_)
  clear hK K hS bc J1 hn
  have hS := hT
  clear hT
  try simp only [Act.put, List.setIfInBounds_toArray, List.set_cons_zero, List.set_cons_succ]
  refine wpAnyH_ready (rs := [5]) (by kernel_rfl) (by simp) ?_
  refine AllReadyH.cons rfl (fun K hK => ?_) AllReadyH.nil
  go_simp
  refine (Minus_c true a1 k1 c1 z1 _ (M1.out _ J3.out)).mono ?_
  rintro e W8 ⟨ob', oa', ok', oc', rfl, hn, bc⟩
  try go_simp
  have J8 := Lib.hid (J3.out.keep bc)
  have hT := J8.out.s1
  have ON := Lib.hid (N3.out.below bc)
  have OD := Lib.hid hn
  refine hK.out _ _ hT (fun _ => ?_)
  clear hK K hS bc J3 hn N3
  have hS := hT
  clear hT
  try simp only [Act.put, List.setIfInBounds_toArray, List.set_cons_zero, List.set_cons_succ]
  refine wpAnyH_take (i := 6) (v := ?v6z69) rfl (by kernel_rfl) (by kernel_rfl) (by kernel_rfl) (fun _ _ _ h => h) (Or.inl ⟨by rfl, ?hy6z69⟩) (by assumption) ?rest6z69
  case hy6z69 =>
    intro w hSw
    dsimp only [S1] at hSw
    go_simp
    try with_reducible rfl
  simp only [Act.put, List.getElem_toArray, List.getElem_cons_succ, List.getElem_cons_zero, List.setIfInBounds_toArray, List.set_cons_zero, List.set_cons_succ]
  refine wpAnyH_ready (rs := [7]) (by kernel_rfl) (by simp) ?_
  refine AllReadyH.cons rfl (fun K hK => ?_) AllReadyH.nil
  have q0' := J8.out.r.c0
  have q1' := J8.out.r.c1
  have q2' := J8.out.r.c2
  have q3' := J8.out.r.c3
  have g0' := J8.out.r.fr 0
  have g1' := J8.out.r.fr 1
  have g2' := J8.out.r.fr 2
  have g3' := J8.out.r.fr 3
  go_simp
  clear q0' q1' q2' q3' g0' g1' g2' g3'
  have hT := J8.out.done (.bool ob) (.slice oa ok oc) (.bool ob') (.slice oa' ok' oc')
  have R9 := J8.out.r.set (.bool ob) (.slice oa ok oc) (.bool ob') (.slice oa' ok' oc')
  have PP : Hid (FrPost (-y1) (-z1) w (.returned (.agg #[.bool ob, .slice oa ok oc, .bool ob', .slice oa' ok' oc'])) (four W8 (w.heap.size + 1) (.bool ob) (.slice oa ok oc) (.bool ob') (.slice oa' ok' oc'))) :=
    ⟨_, _, _, _, _, _, _, _, rfl, ON.out.set4 J8.out.r (NL.b _) (NL.s _ _ _) (NL.b _) (NL.s _ _ _) _ _ _ _, OD.out.set4 J8.out.r (NL.b _) (NL.s _ _ _) (NL.b _) (NL.s _ _ _) _ _ _ _, below_four J8.out.bel (by omega) _ _ _ _⟩
  unfold four at hT R9 PP
  refine hK.out _ _ hT (fun _ => ?_)
  clear hK K hS
  try simp only [Act.put, List.setIfInBounds_toArray, List.set_cons_zero, List.set_cons_succ]
  refine wpAnyH_done (by kernel_rfl) ?_ _
  refine NoPanic.normal ?_
  obtain ⟨r0, r1, r2, r3, _, _⟩ := id R9
  clear hT R9
  go_wp2_with fail
  exact bodyPost_ret (v := .agg #[.bool ob, .slice oa ok oc, .bool ob', .slice oa' ok' oc']) (by simp [results, Tryd.results15, go_sem, r0, r1, r2, r3]) rfl PP.out
theorem FInverse_c (b1 : Bool) (a1 : Option Addr) (k1 c1 : Nat) (d1 : Bool) (e1 : Option Addr) (m1 q1 : Nat) (z1 y1 : Int) (w : World) (h1 : Zn w b1 a1 k1 c1 z1) (g1 : Zn w d1 e1 m1 q1 y1) (hz : z1 ≠ 0) (hg : Int.gcd z1 y1 = 1) :
    Calls Tryd.prog 15 #[.agg #[.bool b1, .slice a1 k1 c1, .bool d1, .slice e1 m1 q1]] w (FrPost (y1.tdiv (ovG y1 z1)) (z1.tdiv (ovG y1 z1)) w) := by
  have hs := h1.sign
  cases b1
  · have hp : 0 < z1 := by
      have : ¬ z1 < 0 := by simpa using hs.symm
      omega
    rw [(low_pos hg hp).1, (low_pos hg hp).2]
    exact FInverse_pos a1 k1 c1 d1 e1 m1 q1 z1 y1 w h1 g1
  · have hp : z1 < 0 := by simpa using hs.symm
    rw [(low_neg hg hp).1, (low_neg hg hp).2]
    exact FInverse_neg a1 k1 c1 d1 e1 m1 q1 z1 y1 w h1 g1
end Go.Proofs.YtfijhkaalpinhaaDoor
namespace Go.Proofs.YtfijhkaalpinhaaDoor
open Go.RowKit

set_option maxRecDepth 100000 in
set_option maxHeartbeats 4000000 in
theorem Inverse_c (s t : ByteArray) (w : World) :
    Calls Tryd.prog 8 #[.agg #[.string s, .string t]] w (OpPost (ivS s.data.toList t.data.toList) w) := by
  obtain ⟨W0, hW0⟩ : ∃ W0, (w.alloc (.cells #[.string s, .string t] 23)).alloc (.cells #[.string ⟨#[]⟩, .string ⟨#[]⟩] 23) = W0 := ⟨_, rfl⟩
  have s1 : (w.alloc (.cells #[.string s, .string t] 23)).heap.size = w.heap.size + 1 := by simp
  have X0 : B2 W0 w.heap.size (.string s) (.string t) := by rw [← hW0]; exact (B2.made w _ _ _).keep (bel_one _ _)
  have JR0 : Hid (B2 W0 (w.heap.size + 1) (.string ⟨#[]⟩) (.string ⟨#[]⟩)) := by rw [← hW0, ← s1]; exact B2.made _ _ _ _
  have BB0 : Hid (Below w.heap.size w W0) := by rw [← hW0]; exact ((Below.refl _ _).alloc (Nat.le_refl _) _).alloc (by simp) _
  have x0 := X0.c0
  have x1 := X0.c1
  clear X0 s1
  have H1 := Lib.hid (fun w => fractionOf_q s t w)
  go_enter Tryd.func8, Tryd.ntmps8
  go_wp2_with fail
  clear hW0 x0 x1
  refine (H1.out _).mono ?_
  rintro e w1 ⟨f, flt, rfl, b1, hpost⟩
  have P1 := Lib.hid hpost
  have J1 := Lib.hid (BB0.out.trans (b1.mono BB0.out.size))
  have JR1 := Lib.hid (JR0.out.keep b1)
  clear b1 hpost H1 BB0 JR0
  have LD := laid1_is (W := w1) f 39
  obtain ⟨W5, hW5⟩ : ∃ W5, laid1 w1 f 39 = W5 := ⟨_, rfl⟩
  rw [hW5] at LD
  have L5 := Lib.hid LD
  clear LD
  obtain ⟨WA, hWA⟩ : ∃ WA, w1.alloc (.cells #[.bool false, .slice none 0 0, .bool false, .slice none 0 0] 39) = WA := ⟨_, rfl⟩
  have D1 : B4q WA w1.heap.size Fq.z := by rw [← hWA]; exact B4.made _ _ _ _ _ _
  have hW5' : fourq WA w1.heap.size f = W5 := by rw [← hW5, ← hWA]; rfl
  clear hW5
  have a0 := D1.c0
  have a1 := D1.c1
  have a2 := D1.c2
  have a3 := D1.c3
  have af0 := D1.fr 0
  have af1 := D1.fr 1
  have af2 := D1.fr 2
  have af3 := D1.fr 3
  clear D1
  simp only [Fq.z] at a0 a1 a2 a3
  unfold fourq four at hW5'
  have JB5 : Hid (Below w.heap.size w W5) := J1.out.trans (L5.out.1.mono J1.out.size)
  have JR5 := Lib.hid (JR1.out.keep L5.out.1)
  have p0 := L5.out.2.1.c0
  have p1 := L5.out.2.1.c1
  have p2 := L5.out.2.1.c2
  have p3 := L5.out.2.1.c3
  have HBX := Lib.hid L5.out.2.1
  by_cases hz : flt = 0
  · subst hz
    obtain ⟨x, y, e1, i1⟩ := (P1.out.resolve_right (fun q => q.1 rfl)).2
    have I1 := Lib.hid (L5.out.2.2 f x y i1)
    have HSG := Lib.hid (Sign_c f.b f.a f.k f.c x W5 I1.out.n)
    have E1 := Lib.hid e1
    clear e1 i1 P1 L5
    by_cases hx : x = 0
    · have RS : Hid (ivS s.data.toList t.data.toList = (⟨#[]⟩, ⟨#[]⟩, 19)) := by
        unfold Hid ivS
        rw [E1.out]
        show (if x = 0 then _ else _) = _
        rw [if_pos hx]
      have hsg : (x.sign == 0) = true := by rw [hx]; rfl
      have hsg2 : x.sign = 0 := by rw [hx]; rfl
      clear hx
      generalize x.sign = sx at *
      go_wp2_with fail
      clear hW5' hWA a0 a1 a2 a3 af0 af1 af2 af3 p0 p1 p2 p3
      (refine HSG.out.mono ?_)
      rintro e w6 ⟨rfl, b6⟩
      have JB6 := Lib.hid (JB5.out.trans (b6.mono JB5.out.size))
      have JR6 := Lib.hid (JR5.out.keep b6)
      clear b6 HSG
      obtain ⟨W9, hW9⟩ : ∃ W9, two w6 (w.heap.size + 1) (.string ⟨#[]⟩) (.string ⟨#[]⟩) = W9 := ⟨_, rfl⟩
      have R9 : B2 W9 (w.heap.size + 1) (.string ⟨#[]⟩) (.string ⟨#[]⟩) := by rw [← hW9]; exact JR6.out.set _ _
      have PP : Hid (OpPost (ivS s.data.toList t.data.toList) w (.returned (.tuple #[.agg #[.string ⟨#[]⟩, .string ⟨#[]⟩], .int .i64 19])) W9) := by
        rw [← hW9]
        exact ⟨by rw [RS.out], below_two JB6.out (by omega) _ _⟩
      have c0 := JR6.out.c0
      have c1 := JR6.out.c1
      have cf0 := JR6.out.fr 0
      have cf1 := JR6.out.fr 1
      obtain ⟨r0, r1, _, _⟩ := id R9
      unfold two at hW9
      clear R9
      go_wp2_with fail
      exact bodyPost_ret (v := .tuple #[.agg #[.string ⟨#[]⟩, .string ⟨#[]⟩], .int .i64 19]) (by simp [results, Tryd.results8, go_sem, r0, r1]) rfl PP.out
    · have RS : Hid (ivS s.data.toList t.data.toList = raR y x) := by
        unfold Hid ivS
        rw [E1.out]
        show (if x = 0 then _ else _) = _
        rw [if_neg hx]
      have hsg : (x.sign == 0) = false := by
        rw [beq_eq_false_iff_ne]
        intro h
        exact hx (Int.sign_eq_zero_iff_zero.1 h)
      have HX := Lib.hid hx
      have hsg2 : ¬ x.sign = 0 := fun h => hx (Int.sign_eq_zero_iff_zero.1 h)
      clear hx
      generalize x.sign = sx at *
      go_wp2_with fail
      clear hW5' hWA a0 a1 a2 a3 af0 af1 af2 af3 p0 p1 p2 p3
      (refine HSG.out.mono ?_)
      rintro e w6 ⟨rfl, b6⟩
      have JB6 := Lib.hid (JB5.out.trans (b6.mono JB5.out.size))
      have JR6 := Lib.hid (JR5.out.keep b6)
      have I6 := Lib.hid (I1.out.below b6)
      have BX := HBX.out.keep b6
      have p0 := BX.c0
      have p1 := BX.c1
      have p2 := BX.c2
      have p3 := BX.c3
      have HI := Lib.hid (FInverse_c f.b f.a f.k f.c f.b' f.a' f.k' f.c' x y w6 I6.out.n I6.out.d HX.out I6.out.one)
      clear b6 HSG BX HBX I1 JB5 JR5
      go_wp2_with fail
      clear p0 p1 p2 p3
      (refine HI.out.mono ?_)
      rintro e w7 ⟨ob, oa, ok, oc, ob', oa', ok', oc', rfl, hn, hd, b7⟩
      have JB7 := Lib.hid (JB6.out.trans (b7.mono JB6.out.size))
      have JR7 := Lib.hid (JR6.out.keep b7)
      have HRO := Lib.hid (ratioOf_c ob oa ok oc ob' oa' ok' oc' _ _ w7 hn hd (Nat.lt_of_le_of_lt (tdiv_abs_le _ _) (Nat.lt_of_lt_of_le I6.out.db (bp_mono (by decide)))) (Nat.lt_of_le_of_lt (tdiv_abs_le _ _) (Nat.lt_of_lt_of_le I6.out.nb (bp_mono (by decide)))) (red_pos (n := y) (d := x) HX.out))
      clear hn hd b7 HI
      go_wp2_with fail
      (refine HRO.out.mono ?_)
      rintro e w8 ⟨rfl, b8⟩
      have JB8 := Lib.hid (JB7.out.trans (b8.mono JB7.out.size))
      have JR8 := Lib.hid (JR7.out.keep b8)
      obtain ⟨rr, hrr⟩ : ∃ rr, ra (y.tdiv (ovG y x)) (x.tdiv (ovG y x)) = rr := ⟨_, rfl⟩
      have RS2 : Hid (ivS s.data.toList t.data.toList = rr) := by rw [← hrr]; exact RS.out
      rw [hrr]
      clear b8 hrr HRO RS
      obtain ⟨W9, hW9⟩ : ∃ W9, two w8 (w.heap.size + 1) (.string rr.1) (.string rr.2.1) = W9 := ⟨_, rfl⟩
      have R9 : B2 W9 (w.heap.size + 1) (.string rr.1) (.string rr.2.1) := by rw [← hW9]; exact JR8.out.set _ _
      have PP : Hid (OpPost (ivS s.data.toList t.data.toList) w (.returned (.tuple #[.agg #[.string rr.1, .string rr.2.1], .int .i64 rr.2.2])) W9) := by
        rw [← hW9]
        exact ⟨by rw [RS2.out], below_two JB8.out (by omega) _ _⟩
      have c0 := JR8.out.c0
      have c1 := JR8.out.c1
      have cf0 := JR8.out.fr 0
      have cf1 := JR8.out.fr 1
      obtain ⟨r0, r1, _, _⟩ := id R9
      unfold two at hW9
      clear R9
      go_wp2_with fail
      exact bodyPost_ret (v := .tuple #[.agg #[.string rr.1, .string rr.2.1], .int .i64 rr.2.2]) (by simp [results, Tryd.results8, go_sem, r0, r1]) rfl PP.out
  · have hne : (flt == 0) = false := by rw [beq_eq_false_iff_ne]; exact hz
    have hne2 : (flt != 0) = true := by simp [hz]
    have RS2 : Hid (ivS s.data.toList t.data.toList = (⟨#[]⟩, ⟨#[]⟩, flt)) := by
      unfold Hid ivS
      obtain ⟨e1, e2⟩ := (P1.out.resolve_left (fun q => hz q.1)).2
      rw [e1, e2]
    clear hz P1 L5 J1 HBX
    obtain ⟨W9, hW9⟩ : ∃ W9, two W5 (w.heap.size + 1) (.string ⟨#[]⟩) (.string ⟨#[]⟩) = W9 := ⟨_, rfl⟩
    have R9 : B2 W9 (w.heap.size + 1) (.string ⟨#[]⟩) (.string ⟨#[]⟩) := by rw [← hW9]; exact JR5.out.set _ _
    have PP : Hid (OpPost (ivS s.data.toList t.data.toList) w (.returned (.tuple #[.agg #[.string ⟨#[]⟩, .string ⟨#[]⟩], .int .i64 flt])) W9) := by
      rw [← hW9]
      exact ⟨by rw [RS2.out], below_two JB5.out (by omega) _ _⟩
    have c0 := JR5.out.c0
    have c1 := JR5.out.c1
    have cf0 := JR5.out.fr 0
    have cf1 := JR5.out.fr 1
    obtain ⟨r0, r1, _, _⟩ := id R9
    unfold two at hW9
    clear R9
    go_wp2_with fail
    exact bodyPost_ret (v := .tuple #[.agg #[.string ⟨#[]⟩, .string ⟨#[]⟩], .int .i64 flt]) (by simp [results, Tryd.results8, go_sem, r0, r1]) rfl PP.out
end Go.Proofs.YtfijhkaalpinhaaDoor
namespace Go.Proofs.YtfijhkaalpinhaaDoor

theorem cop_dvd {a b c : Nat} (h : Nat.gcd a b = 1) (hd : a ∣ b * c) : a ∣ c := Nat.Coprime.dvd_of_dvd_mul_left h hd
/-- A fraction in lowest terms is one alone. -/
theorem low_eq {p q p' q' : Int} (hq : 0 < q) (hq' : 0 < q') (h1 : Int.gcd p q = 1) (h2 : Int.gcd p' q' = 1) (h : p * q' = p' * q) : p = p' ∧ q = q' := by
  have e : p.natAbs * q'.natAbs = p'.natAbs * q.natAbs := by rw [← Int.natAbs_mul, h, Int.natAbs_mul]
  have g1 : Nat.gcd q.natAbs p.natAbs = 1 := by rw [Nat.gcd_comm]; exact h1
  have g2 : Nat.gcd q'.natAbs p'.natAbs = 1 := by rw [Nat.gcd_comm]; exact h2
  have d1 : q.natAbs ∣ q'.natAbs := cop_dvd g1 (by rw [e]; exact Nat.dvd_mul_left _ _)
  have d2 : q'.natAbs ∣ q.natAbs := cop_dvd g2 (by rw [← e]; exact Nat.dvd_mul_left _ _)
  have e2 : q.natAbs = q'.natAbs := Nat.dvd_antisymm d1 d2
  have e3 : q = q' := by omega
  subst e3
  exact ⟨Int.eq_of_mul_eq_mul_right (by omega) h, rfl⟩
/-- What the lowest terms of a fraction are. -/
structure Low (n d p q : Int) : Prop where
  pos : 0 < q
  one : Int.gcd p q = 1
  eq : p * d = n * q
theorem red_low {n d : Int} (h : d ≠ 0) : Low n d (red n d).1 (red n d).2 := by
  have hp := red_pos (n := n) h
  have hg : 0 < Int.gcd n d := Int.gcd_pos_of_ne_zero_right n h
  have hgn : ovG n d ≠ 0 := ovG_ne h
  have habs := ovG_abs n d
  have hdn : ovG n d ∣ n := by rw [← Int.natAbs_dvd, habs]; exact Int.gcd_dvd_left n d
  have hdd : ovG n d ∣ d := by rw [← Int.natAbs_dvd, habs]; exact Int.gcd_dvd_right n d
  refine ⟨hp, ?_, ?_⟩
  · show Nat.gcd (n.tdiv (ovG n d)).natAbs (d.tdiv (ovG n d)).natAbs = 1
    rw [Int.natAbs_tdiv, Int.natAbs_tdiv, habs]
    have hg2 : 0 < Nat.gcd n.natAbs d.natAbs := hg
    show Nat.gcd (n.natAbs / Nat.gcd n.natAbs d.natAbs) (d.natAbs / Nat.gcd n.natAbs d.natAbs) = 1
    rw [Nat.gcd_div (Nat.gcd_dvd_left _ _) (Nat.gcd_dvd_right _ _), Nat.div_self hg2]
  · show n.tdiv (ovG n d) * d = n * d.tdiv (ovG n d)
    have a := Int.tdiv_mul_cancel hdn
    have b := Int.tdiv_mul_cancel hdd
    generalize n.tdiv (ovG n d) = u at *
    generalize d.tdiv (ovG n d) = v at *
    generalize ovG n d = g at *
    rw [← a, ← b, Int.mul_assoc, Int.mul_comm g v]
theorem red_eq {n d n' d' : Int} (h : d ≠ 0) (h' : d' ≠ 0) (e : n * d' = n' * d) : red n d = red n' d' := by
  have l := red_low (n := n) h
  have l' := red_low (n := n') h'
  generalize red n d = r at *
  generalize red n' d' = r' at *
  have hx : r.1 * r'.2 = r'.1 * r.2 := by
    have a := l.eq
    have b := l'.eq
    have t : (r.1 * r'.2) * (d * d') = (r'.1 * r.2) * (d * d') := by
      have c1 : (r.1 * r'.2) * (d * d') = (r.1 * d) * (d' * r'.2) := by grind
      have c2 : (r'.1 * r.2) * (d * d') = (r'.1 * d') * (d * r.2) := by grind
      rw [c1, c2, a, b]
      have c3 : n * r.2 * (d' * r'.2) = (n * d') * (r.2 * r'.2) := by grind
      have c4 : n' * r'.2 * (d * r.2) = (n' * d) * (r.2 * r'.2) := by grind
      rw [c3, c4, e]
    exact Int.eq_of_mul_eq_mul_right (Int.mul_ne_zero h h') t
  have := low_eq l.pos l'.pos l.one l'.one hx
  exact Prod.ext this.1 this.2
/-- A fraction in lowest terms is written as it is. -/
theorem raR_low {x y : Int} (hy : 0 < y) (h : Int.gcd x y = 1) : raR x y = ra x y := by
  have l := red_low (n := x) (d := y) (by omega)
  have e := low_eq l.pos hy l.one h l.eq
  unfold raR
  rw [e.1, e.2]
/-- Equal fractions are written alike. -/
theorem raR_eq {n d n' d' : Int} (h : d ≠ 0) (h' : d' ≠ 0) (e : n * d' = n' * d) : raR n d = raR n' d' := by
  unfold raR
  rw [red_eq h h' e]
end Go.Proofs.YtfijhkaalpinhaaDoor
namespace Go.Proofs.YtfijhkaalpinhaaDoor

theorem red_self {n : Int} (h : n ≠ 0) : red n n = (1, 1) := by
  have l := red_low (n := n) h
  generalize red n n = r at *
  have h1 : r.1 = r.2 := Int.eq_of_mul_eq_mul_right h (by rw [l.eq, Int.mul_comm])
  have := low_eq (p := r.1) (q := r.2) (p' := 1) (q' := 1) l.pos (by decide) l.one rfl (by omega)
  exact Prod.ext this.1 this.2
theorem low_cancel {a b k : Int} (hk : k ≠ 0) (h : a * k = b * k) : a = b := Int.eq_of_mul_eq_mul_right hk h
/-- Sums are associative. -/
theorem assoc_cross {xa ya xb yb xc yc p1 q1 p2 q2 : Int} (hb : yb ≠ 0) (h1 : p1 * (ya * yb) = (xa * yb + xb * ya) * q1) (h2 : p2 * (yb * yc) = (xb * yc + xc * yb) * q2) :
    (p1 * yc + xc * q1) * (ya * q2) = (xa * q2 + p2 * ya) * (q1 * yc) := by
  refine low_cancel hb ?_
  have c1 : (p1 * yc + xc * q1) * (ya * q2) * yb = (p1 * (ya * yb)) * (yc * q2) + xc * q1 * ya * q2 * yb := by grind
  have c2 : (xa * q2 + p2 * ya) * (q1 * yc) * yb = xa * q2 * q1 * yc * yb + (p2 * (yb * yc)) * (ya * q1) := by grind
  rw [c1, c2, h1, h2]
  grind
/-- Products distribute over sums. -/
theorem distr_cross {xa ya xb yb xc yc p2 q2 p3 q3 p4 q4 : Int} (ha : ya ≠ 0) (hb : yb ≠ 0) (hc : yc ≠ 0) (h2 : p2 * (yb * yc) = (xb * yc + xc * yb) * q2) (h3 : p3 * (ya * yb) = (xa * xb) * q3) (h4 : p4 * (ya * yc) = (xa * xc) * q4) :
    (xa * p2) * (q3 * q4) = (p3 * q4 + p4 * q3) * (ya * q2) := by
  refine low_cancel (Int.mul_ne_zero ha (Int.mul_ne_zero hb hc)) ?_
  have c1 : (xa * p2) * (q3 * q4) * (ya * (yb * yc)) = (p2 * (yb * yc)) * (xa * q3 * q4 * ya) := by grind
  have c2 : (p3 * q4 + p4 * q3) * (ya * q2) * (ya * (yb * yc)) = (p3 * (ya * yb)) * (q4 * ya * q2 * yc) + (p4 * (ya * yc)) * (q3 * ya * q2 * yb) := by grind
  rw [c1, c2, h2, h3, h4]
  grind
theorem zcmp_scale {u v u' v' k m : Int} (hk : 0 < k) (hm : 0 < m) (h : (u - v) * k = m * (u' - v')) : zcmp u v = zcmp u' v' := by
  have s1 : (u - v).sign = (u' - v').sign := by
    have e := congrArg Int.sign h
    rw [Int.sign_mul, Int.sign_mul, Int.sign_eq_one_of_pos hk, Int.sign_eq_one_of_pos hm] at e
    omega
  unfold zcmp
  rcases Int.lt_trichotomy u v with l | l | l
  · have e : (u - v).sign = -1 := Int.sign_eq_neg_one_of_neg (by omega)
    rcases Int.lt_trichotomy u' v' with l' | l' | l'
    · rw [if_pos l, if_pos l']
    · rw [l', Int.sub_self] at s1; rw [e] at s1; cases s1
    · rw [e, Int.sign_eq_one_of_pos (show 0 < u' - v' by omega)] at s1; cases s1
  · subst l
    rw [Int.sub_self] at s1
    have : u' - v' = 0 := Int.sign_eq_zero_iff_zero.1 s1.symm
    have e2 : u' = v' := by omega
    rw [e2, if_neg (by omega), if_neg (by omega), if_neg (by omega), if_neg (by omega)]
  · have e : (u - v).sign = 1 := Int.sign_eq_one_of_pos (by omega)
    rcases Int.lt_trichotomy u' v' with l' | l' | l'
    · rw [e, Int.sign_eq_neg_one_of_neg (show u' - v' < 0 by omega)] at s1; cases s1
    · rw [l', Int.sub_self] at s1; rw [e] at s1; cases s1
    · rw [if_neg (by omega), if_pos l, if_neg (by omega), if_pos l']
theorem order_cross {xa ya xb yb xc yc p5 q5 p2 q2 : Int} (ha : 0 < ya) (hb : 0 < yb) (hc : 0 < yc) (h5p : 0 < q5) (h2p : 0 < q2) (h5 : p5 * (ya * yc) = (xa * yc + xc * ya) * q5) (h2 : p2 * (yb * yc) = (xb * yc + xc * yb) * q2) :
    zcmp (xa * yb) (xb * ya) = zcmp (p5 * q2) (p2 * q5) := by
  refine (zcmp_scale (k := ya * yb * yc) (m := q5 * q2 * yc) ?_ ?_ ?_).symm
  · exact Int.mul_pos (Int.mul_pos ha hb) hc
  · exact Int.mul_pos (Int.mul_pos h5p h2p) hc
  · have c1 : (p5 * q2 - p2 * q5) * (ya * yb * yc) = (p5 * (ya * yc)) * (q2 * yb) - (p2 * (yb * yc)) * (q5 * ya) := by grind
    rw [c1, h5, h2]
    grind
end Go.Proofs.YtfijhkaalpinhaaDoor
