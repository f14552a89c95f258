/-
  Fractions of whole numbers of any size: the opposite side up.
  Ratios of package value: Inverse.
  The law ValueRatiosMatchSpec, walked.
-/
import Derived.Test.YtfijhkaalpinhaaGreatDoorRa20
import Derived.Test.YtfijhkaalpinhaaGreatDoorRa18
import Derived.Test.YtfijhkaalpinhaaGreatDoorRaRnProd
import Derived.Test.YtfijhkaalpinhaaGreatDoorRaRnSum
import Derived.Test.YtfijhkaalpinhaaGreatDoorRaRnOrd
namespace Go.Proofs.YtfijhkaalpinhaaGreatDoor
open Go.RowKit

theorem low_pos {x y : Int} (h : Int.gcd x y = 1) (hx : 0 < x) : y.tdiv (ovG y x) = y ∧ x.tdiv (ovG y x) = x := by
  have e : ovG y x = 1 := by unfold ovG; rw [if_neg (by omega), Int.gcd_comm, h]; rfl
  rw [e, Int.tdiv_one, Int.tdiv_one]
  exact ⟨rfl, rfl⟩
theorem low_neg {x y : Int} (h : Int.gcd x y = 1) (hx : x < 0) : y.tdiv (ovG y x) = -y ∧ x.tdiv (ovG y x) = -x := by
  have e : ovG y x = -1 := by unfold ovG; rw [if_pos hx, Int.gcd_comm, h]; rfl
  rw [e, Int.tdiv_neg, Int.tdiv_neg, Int.tdiv_one, Int.tdiv_one]
  exact ⟨rfl, rfl⟩
/-- A fraction's box, and the box of a result. -/
structure F1 (w : World) (b1 : Bool) (a1 : Option Addr) (k1 c1 : Nat) (d1 : Bool) (e1 : Option Addr) (m1 q1 : Nat) (W : World) : Prop where
  x : B4 W w.heap.size (.bool b1) (.slice a1 k1 c1) (.bool d1) (.slice e1 m1 q1)
  r : B4 W (w.heap.size + 1) (.bool false) (.slice none 0 0) (.bool false) (.slice none 0 0)
  bel : Below w.heap.size w W
theorem F1.keep {w : World} {b1 : Bool} {a1 : Option Addr} {k1 c1 : Nat} {d1 : Bool} {e1 : Option Addr} {m1 q1 : Nat} {W W' : World} (h : F1 w b1 a1 k1 c1 d1 e1 m1 q1 W) (hb : Below W.heap.size W W') : F1 w b1 a1 k1 c1 d1 e1 m1 q1 W' := ⟨h.x.keep hb, h.r.keep hb, h.bel.trans (hb.mono h.bel.size)⟩
def S1 (g : Nat) (b1 : Bool) (a1 : Option Addr) (k1 c1 : Nat) (d1 : Bool) (e1 : Option Addr) (m1 q1 : Nat) (W : World) : Prop :=
  W.cell? ⟨g, 0, none⟩ = some (.bool b1) ∧ W.cell? ⟨g, 1, none⟩ = some (.slice a1 k1 c1) ∧ W.cell? ⟨g, 2, none⟩ = some (.bool d1) ∧ W.cell? ⟨g, 3, none⟩ = some (.slice e1 m1 q1)
theorem F1.s1 {w : World} {b1 : Bool} {a1 : Option Addr} {k1 c1 : Nat} {d1 : Bool} {e1 : Option Addr} {m1 q1 : Nat} {W : World} (h : F1 w b1 a1 k1 c1 d1 e1 m1 q1 W) : S1 w.heap.size b1 a1 k1 c1 d1 e1 m1 q1 W := ⟨h.x.c0, h.x.c1, h.x.c2, h.x.c3⟩
theorem F1.done {w : World} {b1 : Bool} {a1 : Option Addr} {k1 c1 : Nat} {d1 : Bool} {e1 : Option Addr} {m1 q1 : Nat} {W : World} (h : F1 w b1 a1 k1 c1 d1 e1 m1 q1 W) (y0 y1 y2 y3 : Value) : S1 w.heap.size b1 a1 k1 c1 d1 e1 m1 q1 (four W (w.heap.size + 1) y0 y1 y2 y3) := by
  have u := h.x.other (h := w.heap.size + 1) (by omega) y0 y1 y2 y3
  exact ⟨u.c0, u.c1, u.c2, u.c3⟩
set_option maxRecDepth 100000 in
set_option maxHeartbeats 4000000 in
theorem FInverse_neg (a1 : Option Addr) (k1 c1 : Nat) (d1 : Bool) (e1 : Option Addr) (m1 q1 : Nat) (z1 y1 : Int) (w : World) (h1 : Zn w true a1 k1 c1 z1) (g1 : Zn w d1 e1 m1 q1 y1) :
    Calls Tryz.prog 44 #[.agg #[.bool true, .slice a1 k1 c1, .bool d1, .slice e1 m1 q1]] w (FrPost (-y1) (-z1) w) := by
  obtain ⟨W0, hW0⟩ : ∃ W0, (w.alloc (.cells #[.bool true, .slice a1 k1 c1, .bool d1, .slice e1 m1 q1] 46)).alloc (.cells #[.bool false, .slice none 0 0, .bool false, .slice none 0 0] 46) = W0 := ⟨_, rfl⟩
  have J0 : Hid (F1 w true a1 k1 c1 d1 e1 m1 q1 W0) := by
    have s1 : (w.alloc (.cells #[.bool true, .slice a1 k1 c1, .bool d1, .slice e1 m1 q1] 46)).heap.size = w.heap.size + 1 := by simp
    rw [← hW0]
    refine ⟨(B4.made w _ _ _ _ _).keep (bel_one _ _), ?_, ((Below.refl _ _).alloc (Nat.le_refl _) _).alloc (by simp) _⟩
    rw [← s1]; exact B4.made _ _ _ _ _ _
  have M1 := Lib.hid (fun W (h : F1 w true a1 k1 c1 d1 e1 m1 q1 W) => h1.below h.bel)
  have D1 := Lib.hid (fun W (h : F1 w true a1 k1 c1 d1 e1 m1 q1 W) => g1.below h.bel)
  have x0 := J0.out.x.c0
  clear h1 g1
  go_enter Tryz.func44, Tryz.ntmps44
  go_wp2_with fail
  clear hW0 x0
  refine wp_region_noPanic ?_
  refine wp_region_held_drew (S := S1 w.heap.size true a1 k1 c1 d1 e1 m1 q1) (by kernel_rfl) (J0.out.keep (Below.refl _ _).drew).s1 (fun hS => ?_)
  have J1 := Lib.hid (J0.out.keep (Below.refl _ _).drew)
  clear J0
  refine wpAnyH_take (i := 0) (v := ?v0z65) rfl (by kernel_rfl) (by kernel_rfl) (by kernel_rfl) (fun _ _ _ h => h) (Or.inl ⟨by rfl, ?hy0z65⟩) (by assumption) ?rest0z65
  case hy0z65 =>
    intro w hSw
    dsimp only [S1] at hSw
    go_simp
    try with_reducible rfl
  simp only [Act.put, List.getElem_toArray, List.getElem_cons_succ, List.getElem_cons_zero, List.setIfInBounds_toArray, List.set_cons_zero, List.set_cons_succ]
  refine wpAnyH_take (i := 1) (v := ?v1z66) rfl (by kernel_rfl) (by kernel_rfl) (by kernel_rfl) (fun _ _ _ h => h) (Or.inl ⟨by rfl, ?hy1z66⟩) (by assumption) ?rest1z66
  case hy1z66 =>
    intro w hSw
    dsimp only [S1] at hSw
    go_simp
    try with_reducible rfl
  simp only [Act.put, List.getElem_toArray, List.getElem_cons_succ, List.getElem_cons_zero, List.setIfInBounds_toArray, List.set_cons_zero, List.set_cons_succ]
  refine wpAnyH_take (i := 3) (v := ?v3z67) rfl (by kernel_rfl) (by kernel_rfl) (by kernel_rfl) (fun _ _ _ h => h) (Or.inl ⟨by rfl, ?hy3z67⟩) (by assumption) ?rest3z67
  case hy3z67 =>
    intro w hSw
    dsimp only [S1] at hSw
    go_simp
    try with_reducible rfl
  simp only [Act.put, List.getElem_toArray, List.getElem_cons_succ, List.getElem_cons_zero, List.setIfInBounds_toArray, List.set_cons_zero, List.set_cons_succ]
  refine wpAnyH_take (i := 4) (v := ?v4z68) rfl (by kernel_rfl) (by kernel_rfl) (by kernel_rfl) (fun _ _ _ h => h) (Or.inl ⟨by rfl, ?hy4z68⟩) (by assumption) ?rest4z68
  case hy4z68 =>
    intro w hSw
    dsimp only [S1] at hSw
    go_simp
    try with_reducible rfl
  simp only [Act.put, List.getElem_toArray, List.getElem_cons_succ, List.getElem_cons_zero, List.setIfInBounds_toArray, List.set_cons_zero, List.set_cons_succ]
  refine wpAnyH_ready (rs := [2]) (by kernel_rfl) (by simp) ?_
  refine AllReadyH.cons rfl (fun K hK => ?_) AllReadyH.nil
  go_simp
  refine (Minus_c d1 e1 m1 q1 y1 _ (D1.out _ J1.out)).mono ?_
  rintro e W3 ⟨ob, oa, ok, oc, rfl, hn, bc⟩
  try go_simp
  have J3 := Lib.hid (J1.out.keep bc)
  have hT := J3.out.s1
  have N3 := Lib.hid hn
  refine hK.out _ _ hT (fun _ => ?_)
  clear hK K hS bc J1 hn
  have hS := hT
  clear hT
  try simp only [Act.put, List.setIfInBounds_toArray, List.set_cons_zero, List.set_cons_succ]
  refine wpAnyH_ready (rs := [5]) (by kernel_rfl) (by simp) ?_
  refine AllReadyH.cons rfl (fun K hK => ?_) AllReadyH.nil
  go_simp
  refine (Minus_c true a1 k1 c1 z1 _ (M1.out _ J3.out)).mono ?_
  rintro e W8 ⟨ob', oa', ok', oc', rfl, hn, bc⟩
  try go_simp
  have J8 := Lib.hid (J3.out.keep bc)
  have hT := J8.out.s1
  have ON := Lib.hid (N3.out.below bc)
  have OD := Lib.hid hn
  refine hK.out _ _ hT (fun _ => ?_)
  clear hK K hS bc J3 hn N3
  have hS := hT
  clear hT
  try simp only [Act.put, List.setIfInBounds_toArray, List.set_cons_zero, List.set_cons_succ]
  refine wpAnyH_take (i := 6) (v := ?v6z69) rfl (by kernel_rfl) (by kernel_rfl) (by kernel_rfl) (fun _ _ _ h => h) (Or.inl ⟨by rfl, ?hy6z69⟩) (by assumption) ?rest6z69
  case hy6z69 =>
    intro w hSw
    dsimp only [S1] at hSw
    go_simp
    try with_reducible rfl
  simp only [Act.put, List.getElem_toArray, List.getElem_cons_succ, List.getElem_cons_zero, List.setIfInBounds_toArray, List.set_cons_zero, List.set_cons_succ]
  refine wpAnyH_ready (rs := [7]) (by kernel_rfl) (by simp) ?_
  refine AllReadyH.cons rfl (fun K hK => ?_) AllReadyH.nil
  have q0' := J8.out.r.c0
  have q1' := J8.out.r.c1
  have q2' := J8.out.r.c2
  have q3' := J8.out.r.c3
  have g0' := J8.out.r.fr 0
  have g1' := J8.out.r.fr 1
  have g2' := J8.out.r.fr 2
  have g3' := J8.out.r.fr 3
  go_simp
  clear q0' q1' q2' q3' g0' g1' g2' g3'
  have hT := J8.out.done (.bool ob) (.slice oa ok oc) (.bool ob') (.slice oa' ok' oc')
  have R9 := J8.out.r.set (.bool ob) (.slice oa ok oc) (.bool ob') (.slice oa' ok' oc')
  have PP : Hid (FrPost (-y1) (-z1) w (.returned (.agg #[.bool ob, .slice oa ok oc, .bool ob', .slice oa' ok' oc'])) (four W8 (w.heap.size + 1) (.bool ob) (.slice oa ok oc) (.bool ob') (.slice oa' ok' oc'))) :=
    ⟨_, _, _, _, _, _, _, _, rfl, ON.out.set4 J8.out.r (NL.b _) (NL.s _ _ _) (NL.b _) (NL.s _ _ _) _ _ _ _, OD.out.set4 J8.out.r (NL.b _) (NL.s _ _ _) (NL.b _) (NL.s _ _ _) _ _ _ _, below_four J8.out.bel (by omega) _ _ _ _⟩
  unfold four at hT R9 PP
  refine hK.out _ _ hT (fun _ => ?_)
  clear hK K hS
  try simp only [Act.put, List.setIfInBounds_toArray, List.set_cons_zero, List.set_cons_succ]
  refine wpAnyH_done (by kernel_rfl) ?_ _
  refine NoPanic.normal ?_
  obtain ⟨r0, r1, r2, r3, _, _⟩ := id R9
  clear hT R9
  go_wp2_with fail
  exact bodyPost_ret (v := .agg #[.bool ob, .slice oa ok oc, .bool ob', .slice oa' ok' oc']) (by simp [results, Tryz.results44, go_sem, r0, r1, r2, r3]) rfl PP.out
theorem FInverse_c (b1 : Bool) (a1 : Option Addr) (k1 c1 : Nat) (d1 : Bool) (e1 : Option Addr) (m1 q1 : Nat) (z1 y1 : Int) (w : World) (h1 : Zn w b1 a1 k1 c1 z1) (g1 : Zn w d1 e1 m1 q1 y1) (hz : z1 ≠ 0) (hg : Int.gcd z1 y1 = 1) :
    Calls Tryz.prog 44 #[.agg #[.bool b1, .slice a1 k1 c1, .bool d1, .slice e1 m1 q1]] w (FrPost (y1.tdiv (ovG y1 z1)) (z1.tdiv (ovG y1 z1)) w) := by
  have hs := h1.sign
  cases b1
  · have hp : 0 < z1 := by
      have : ¬ z1 < 0 := by simpa using hs.symm
      omega
    rw [(low_pos hg hp).1, (low_pos hg hp).2]
    exact FInverse_pos a1 k1 c1 d1 e1 m1 q1 z1 y1 w h1 g1
  · have hp : z1 < 0 := by simpa using hs.symm
    rw [(low_neg hg hp).1, (low_neg hg hp).2]
    exact FInverse_neg a1 k1 c1 d1 e1 m1 q1 z1 y1 w h1 g1
end Go.Proofs.YtfijhkaalpinhaaGreatDoor
namespace Go.Proofs.YtfijhkaalpinhaaGreatDoor
open Go.RowKit

set_option maxRecDepth 100000 in
set_option maxHeartbeats 4000000 in
theorem Inverse_c (s t : ByteArray) (w : World) :
    Calls Tryz.prog 13 #[.agg #[.string s, .string t]] w (OpPost (ivS s.data.toList t.data.toList) w) := by
  obtain ⟨W0, hW0⟩ : ∃ W0, (w.alloc (.cells #[.string s, .string t] 23)).alloc (.cells #[.string ⟨#[]⟩, .string ⟨#[]⟩] 23) = W0 := ⟨_, rfl⟩
  have s1 : (w.alloc (.cells #[.string s, .string t] 23)).heap.size = w.heap.size + 1 := by simp
  have X0 : B2 W0 w.heap.size (.string s) (.string t) := by rw [← hW0]; exact (B2.made w _ _ _).keep (bel_one _ _)
  have JR0 : Hid (B2 W0 (w.heap.size + 1) (.string ⟨#[]⟩) (.string ⟨#[]⟩)) := by rw [← hW0, ← s1]; exact B2.made _ _ _ _
  have BB0 : Hid (Below w.heap.size w W0) := by rw [← hW0]; exact ((Below.refl _ _).alloc (Nat.le_refl _) _).alloc (by simp) _
  have x0 := X0.c0
  have x1 := X0.c1
  clear X0 s1
  have H1 := Lib.hid (fun w => fractionOf_q s t w)
  go_enter Tryz.func13, Tryz.ntmps13
  go_wp2_with fail
  clear hW0 x0 x1
  refine (H1.out _).mono ?_
  rintro e w1 ⟨f, flt, rfl, b1, hpost⟩
  have P1 := Lib.hid hpost
  have J1 := Lib.hid (BB0.out.trans (b1.mono BB0.out.size))
  have JR1 := Lib.hid (JR0.out.keep b1)
  clear b1 hpost H1 BB0 JR0
  have LD := laid1_is (W := w1) f 46
  obtain ⟨W5, hW5⟩ : ∃ W5, laid1 w1 f 46 = W5 := ⟨_, rfl⟩
  rw [hW5] at LD
  have L5 := Lib.hid LD
  clear LD
  obtain ⟨WA, hWA⟩ : ∃ WA, w1.alloc (.cells #[.bool false, .slice none 0 0, .bool false, .slice none 0 0] 46) = WA := ⟨_, rfl⟩
  have D1 : B4q WA w1.heap.size Fq.z := by rw [← hWA]; exact B4.made _ _ _ _ _ _
  have hW5' : fourq WA w1.heap.size f = W5 := by rw [← hW5, ← hWA]; rfl
  clear hW5
  have a0 := D1.c0
  have a1 := D1.c1
  have a2 := D1.c2
  have a3 := D1.c3
  have af0 := D1.fr 0
  have af1 := D1.fr 1
  have af2 := D1.fr 2
  have af3 := D1.fr 3
  clear D1
  simp only [Fq.z] at a0 a1 a2 a3
  unfold fourq four at hW5'
  have JB5 : Hid (Below w.heap.size w W5) := J1.out.trans (L5.out.1.mono J1.out.size)
  have JR5 := Lib.hid (JR1.out.keep L5.out.1)
  have p0 := L5.out.2.1.c0
  have p1 := L5.out.2.1.c1
  have p2 := L5.out.2.1.c2
  have p3 := L5.out.2.1.c3
  have HBX := Lib.hid L5.out.2.1
  by_cases hz : flt = 0
  · subst hz
    obtain ⟨x, y, e1, i1⟩ := (P1.out.resolve_right (fun q => q.1 rfl)).2
    have I1 := Lib.hid (L5.out.2.2 f x y i1)
    have HSG := Lib.hid (Sign_c f.b f.a f.k f.c x W5 I1.out.n)
    have E1 := Lib.hid e1
    clear e1 i1 P1 L5
    by_cases hx : x = 0
    · have RS : Hid (ivS s.data.toList t.data.toList = (⟨#[]⟩, ⟨#[]⟩, 19)) := by
        unfold Hid ivS
        rw [E1.out]
        show (if x = 0 then _ else _) = _
        rw [if_pos hx]
      have hsg : (x.sign == 0) = true := by rw [hx]; rfl
      have hsg2 : x.sign = 0 := by rw [hx]; rfl
      clear hx
      generalize x.sign = sx at *
      go_wp2_with fail
      clear hW5' hWA a0 a1 a2 a3 af0 af1 af2 af3 p0 p1 p2 p3
      (refine HSG.out.mono ?_)
      rintro e w6 ⟨rfl, b6⟩
      have JB6 := Lib.hid (JB5.out.trans (b6.mono JB5.out.size))
      have JR6 := Lib.hid (JR5.out.keep b6)
      clear b6 HSG
      obtain ⟨W9, hW9⟩ : ∃ W9, two w6 (w.heap.size + 1) (.string ⟨#[]⟩) (.string ⟨#[]⟩) = W9 := ⟨_, rfl⟩
      have R9 : B2 W9 (w.heap.size + 1) (.string ⟨#[]⟩) (.string ⟨#[]⟩) := by rw [← hW9]; exact JR6.out.set _ _
      have PP : Hid (OpPost (ivS s.data.toList t.data.toList) w (.returned (.tuple #[.agg #[.string ⟨#[]⟩, .string ⟨#[]⟩], .int .i64 19])) W9) := by
        rw [← hW9]
        exact ⟨by rw [RS.out], below_two JB6.out (by omega) _ _⟩
      have c0 := JR6.out.c0
      have c1 := JR6.out.c1
      have cf0 := JR6.out.fr 0
      have cf1 := JR6.out.fr 1
      obtain ⟨r0, r1, _, _⟩ := id R9
      unfold two at hW9
      clear R9
      go_wp2_with fail
      exact bodyPost_ret (v := .tuple #[.agg #[.string ⟨#[]⟩, .string ⟨#[]⟩], .int .i64 19]) (by simp [results, Tryz.results13, go_sem, r0, r1]) rfl PP.out
    · have RS : Hid (ivS s.data.toList t.data.toList = raR y x) := by
        unfold Hid ivS
        rw [E1.out]
        show (if x = 0 then _ else _) = _
        rw [if_neg hx]
      have hsg : (x.sign == 0) = false := by
        rw [beq_eq_false_iff_ne]
        intro h
        exact hx (Int.sign_eq_zero_iff_zero.1 h)
      have HX := Lib.hid hx
      have hsg2 : ¬ x.sign = 0 := fun h => hx (Int.sign_eq_zero_iff_zero.1 h)
      clear hx
      generalize x.sign = sx at *
      go_wp2_with fail
      clear hW5' hWA a0 a1 a2 a3 af0 af1 af2 af3 p0 p1 p2 p3
      (refine HSG.out.mono ?_)
      rintro e w6 ⟨rfl, b6⟩
      have JB6 := Lib.hid (JB5.out.trans (b6.mono JB5.out.size))
      have JR6 := Lib.hid (JR5.out.keep b6)
      have I6 := Lib.hid (I1.out.below b6)
      have BX := HBX.out.keep b6
      have p0 := BX.c0
      have p1 := BX.c1
      have p2 := BX.c2
      have p3 := BX.c3
      have HI := Lib.hid (FInverse_c f.b f.a f.k f.c f.b' f.a' f.k' f.c' x y w6 I6.out.n I6.out.d HX.out I6.out.one)
      clear b6 HSG BX HBX I1 JB5 JR5
      go_wp2_with fail
      clear p0 p1 p2 p3
      (refine HI.out.mono ?_)
      rintro e w7 ⟨ob, oa, ok, oc, ob', oa', ok', oc', rfl, hn, hd, b7⟩
      have JB7 := Lib.hid (JB6.out.trans (b7.mono JB6.out.size))
      have JR7 := Lib.hid (JR6.out.keep b7)
      have HRO := Lib.hid (ratioOf_c ob oa ok oc ob' oa' ok' oc' _ _ w7 hn hd (Nat.lt_of_le_of_lt (tdiv_abs_le _ _) (Nat.lt_of_lt_of_le I6.out.db (bp_mono (by decide)))) (Nat.lt_of_le_of_lt (tdiv_abs_le _ _) (Nat.lt_of_lt_of_le I6.out.nb (bp_mono (by decide)))) (red_pos (n := y) (d := x) HX.out))
      clear hn hd b7 HI
      go_wp2_with fail
      (refine HRO.out.mono ?_)
      rintro e w8 ⟨rfl, b8⟩
      have JB8 := Lib.hid (JB7.out.trans (b8.mono JB7.out.size))
      have JR8 := Lib.hid (JR7.out.keep b8)
      obtain ⟨rr, hrr⟩ : ∃ rr, ra (y.tdiv (ovG y x)) (x.tdiv (ovG y x)) = rr := ⟨_, rfl⟩
      have RS2 : Hid (ivS s.data.toList t.data.toList = rr) := by rw [← hrr]; exact RS.out
      rw [hrr]
      clear b8 hrr HRO RS
      obtain ⟨W9, hW9⟩ : ∃ W9, two w8 (w.heap.size + 1) (.string rr.1) (.string rr.2.1) = W9 := ⟨_, rfl⟩
      have R9 : B2 W9 (w.heap.size + 1) (.string rr.1) (.string rr.2.1) := by rw [← hW9]; exact JR8.out.set _ _
      have PP : Hid (OpPost (ivS s.data.toList t.data.toList) w (.returned (.tuple #[.agg #[.string rr.1, .string rr.2.1], .int .i64 rr.2.2])) W9) := by
        rw [← hW9]
        exact ⟨by rw [RS2.out], below_two JB8.out (by omega) _ _⟩
      have c0 := JR8.out.c0
      have c1 := JR8.out.c1
      have cf0 := JR8.out.fr 0
      have cf1 := JR8.out.fr 1
      obtain ⟨r0, r1, _, _⟩ := id R9
      unfold two at hW9
      clear R9
      go_wp2_with fail
      exact bodyPost_ret (v := .tuple #[.agg #[.string rr.1, .string rr.2.1], .int .i64 rr.2.2]) (by simp [results, Tryz.results13, go_sem, r0, r1]) rfl PP.out
  · have hne : (flt == 0) = false := by rw [beq_eq_false_iff_ne]; exact hz
    have hne2 : (flt != 0) = true := by simp [hz]
    have RS2 : Hid (ivS s.data.toList t.data.toList = (⟨#[]⟩, ⟨#[]⟩, flt)) := by
      unfold Hid ivS
      obtain ⟨e1, e2⟩ := (P1.out.resolve_left (fun q => hz q.1)).2
      rw [e1, e2]
    clear hz P1 L5 J1 HBX
    obtain ⟨W9, hW9⟩ : ∃ W9, two W5 (w.heap.size + 1) (.string ⟨#[]⟩) (.string ⟨#[]⟩) = W9 := ⟨_, rfl⟩
    have R9 : B2 W9 (w.heap.size + 1) (.string ⟨#[]⟩) (.string ⟨#[]⟩) := by rw [← hW9]; exact JR5.out.set _ _
    have PP : Hid (OpPost (ivS s.data.toList t.data.toList) w (.returned (.tuple #[.agg #[.string ⟨#[]⟩, .string ⟨#[]⟩], .int .i64 flt])) W9) := by
      rw [← hW9]
      exact ⟨by rw [RS2.out], below_two JB5.out (by omega) _ _⟩
    have c0 := JR5.out.c0
    have c1 := JR5.out.c1
    have cf0 := JR5.out.fr 0
    have cf1 := JR5.out.fr 1
    obtain ⟨r0, r1, _, _⟩ := id R9
    unfold two at hW9
    clear R9
    go_wp2_with fail
    exact bodyPost_ret (v := .tuple #[.agg #[.string ⟨#[]⟩, .string ⟨#[]⟩], .int .i64 flt]) (by simp [results, Tryz.results13, go_sem, r0, r1]) rfl PP.out
end Go.Proofs.YtfijhkaalpinhaaGreatDoor
namespace Go.Proofs.YtfijhkaalpinhaaGreatDoor
open Go.RowKit

abbrev Rp := ByteArray × ByteArray
abbrev pv (a : Rp) : Value := .agg #[.string a.1, .string a.2]
/-- The boxes of the law. -/
structure Lw (w : World) (a1 a2 b1 b2 : ByteArray) (g h : Nat) (x0 x1 y0 y1 : ByteArray) (W : World) : Prop where
  a : B2 W w.heap.size (.string a1) (.string a2)
  b : B2 W (w.heap.size + 1) (.string b1) (.string b2)
  r : B2 W g (.string x0) (.string x1)
  s : B2 W h (.string y0) (.string y1)
  lg : w.heap.size + 1 < g
  gh : g < h
  bel : Below w.heap.size w W
theorem Lw.keep {w : World} {a1 a2 b1 b2 : ByteArray} {g h : Nat} {x0 x1 y0 y1 : ByteArray} {W W' : World} (l : Lw w a1 a2 b1 b2 g h x0 x1 y0 y1 W) (hb : Below W.heap.size W W') : Lw w a1 a2 b1 b2 g h x0 x1 y0 y1 W' :=
  ⟨l.a.keep hb, l.b.keep hb, l.r.keep hb, l.s.keep hb, l.lg, l.gh, l.bel.trans (hb.mono l.bel.size)⟩
theorem Lw.setr {w : World} {a1 a2 b1 b2 : ByteArray} {g h : Nat} {x0 x1 y0 y1 : ByteArray} {W : World} (l : Lw w a1 a2 b1 b2 g h x0 x1 y0 y1 W) (z0 z1 : ByteArray) : Lw w a1 a2 b1 b2 g h z0 z1 y0 y1 (two W g (.string z0) (.string z1)) :=
  have h1 := l.lg; have h2 := l.gh
  ⟨l.a.other (by omega) _ _, l.b.other (by omega) _ _, l.r.set _ _, l.s.other (by omega) _ _, h1, h2, below_two l.bel (by omega) _ _⟩
theorem Lw.sets {w : World} {a1 a2 b1 b2 : ByteArray} {g h : Nat} {x0 x1 y0 y1 : ByteArray} {W : World} (l : Lw w a1 a2 b1 b2 g h x0 x1 y0 y1 W) (z0 z1 : ByteArray) : Lw w a1 a2 b1 b2 g h x0 x1 z0 z1 (two W h (.string z0) (.string z1)) :=
  have h1 := l.lg; have h2 := l.gh
  ⟨l.a.other (by omega) _ _, l.b.other (by omega) _ _, l.r.other (by omega) _ _, l.s.set _ _, h1, h2, below_two l.bel (by omega) _ _⟩
/-- What region 3 reads. -/
def S6 (u g h : Nat) (a1 a2 x0 x1 y0 y1 : ByteArray) (W : World) : Prop :=
  W.cell? ⟨u, 0, none⟩ = some (.string a1) ∧ W.cell? ⟨u, 1, none⟩ = some (.string a2) ∧ W.cell? ⟨g, 0, none⟩ = some (.string x0) ∧ W.cell? ⟨g, 1, none⟩ = some (.string x1) ∧ W.cell? ⟨h, 0, none⟩ = some (.string y0) ∧ W.cell? ⟨h, 1, none⟩ = some (.string y1)
theorem Lw.s6 {w : World} {a1 a2 b1 b2 : ByteArray} {g h : Nat} {x0 x1 y0 y1 : ByteArray} {W : World} (l : Lw w a1 a2 b1 b2 g h x0 x1 y0 y1 W) : S6 w.heap.size g h a1 a2 x0 x1 y0 y1 W := ⟨l.a.c0, l.a.c1, l.r.c0, l.r.c1, l.s.c0, l.s.c1⟩
set_option maxRecDepth 100000 in
set_option maxHeartbeats 4000000 in
theorem law_ratios (a1 a2 b1 b2 : ByteArray) (n d : Int) (w : World) (n0 : -9223372036854775808 ≤ n) (n1 : n ≤ 9223372036854775807) (d0 : -9223372036854775808 ≤ d) (d1 : d ≤ 9223372036854775807) (hE : Pow w) :
    Calls Tryz.prog 3 #[.agg #[.string a1, .string a2], .agg #[.string b1, .string b2], .int .i64 n, .int .i64 d] w fun e w' => e = .returned (.bool true) ∧ Below w.heap.size w w' := by
  obtain ⟨ro, hro⟩ : ∃ r, roS n d = r := ⟨_, rfl⟩
  obtain ⟨ckv, hck⟩ : ∃ r, ck a1.data.toList a2.data.toList = r := ⟨_, rfl⟩
  obtain ⟨su, hsu⟩ : ∃ r, opS fSum a1.data.toList a2.data.toList b1.data.toList b2.data.toList = r := ⟨_, rfl⟩
  obtain ⟨mu, hmu⟩ : ∃ r, opS fMul a1.data.toList a2.data.toList b1.data.toList b2.data.toList = r := ⟨_, rfl⟩
  obtain ⟨iv, hiv⟩ : ∃ r, ivS a1.data.toList a2.data.toList = r := ⟨_, rfl⟩
  obtain ⟨orr, hor⟩ : ∃ r, orS a1.data.toList a2.data.toList b1.data.toList b2.data.toList = r := ⟨_, rfl⟩
  have K1 := fun W => RatioOf_c n d W n0 n1 d0 d1
  have K2 := fun W (h : Below w.heap.size w W) => rRatioOf_c n d W n0 n1 d0 d1 (hE.below h)
  have K3 := fun W => CheckRatio_c a1 a2 W
  have K4 := fun W (h : Below w.heap.size w W) => rCheckRatio_c a1 a2 W (hE.below h)
  have K5 := fun W => Sum_c a1 a2 b1 b2 W
  have K6 := fun W (h : Below w.heap.size w W) => rSum_c a1 a2 b1 b2 W (hE.below h)
  have K7 := fun W => Product_c a1 a2 b1 b2 W
  have K8 := fun W (h : Below w.heap.size w W) => rProduct_c a1 a2 b1 b2 W (hE.below h)
  have K9 := fun W => Inverse_c a1 a2 W
  have K10 := fun W (h : Below w.heap.size w W) => rInverse_c a1 a2 W (hE.below h)
  have K11 := fun W => Order_c a1 a2 b1 b2 W
  have K12 := fun W (h : Below w.heap.size w W) => rOrder_c a1 a2 b1 b2 W (hE.below h)
  unfold CkPost at K3 K4
  unfold OrPost at K12
  unfold OpPost at K1 K2 K5 K6 K7 K8 K9 K10
  rw [hro] at K1 K2
  rw [hck] at K3 K4
  rw [hsu] at K5 K6
  rw [hmu] at K7 K8
  rw [hiv] at K9 K10
  rw [hor] at K11 K12
  clear hro hck hsu hmu hiv hor n0 n1 d0 d1 hE
  obtain ⟨o1, o2, f1⟩ := ro
  obtain ⟨p1, p2, f2⟩ := su
  obtain ⟨q1, q2, f3⟩ := mu
  obtain ⟨i1, i2, f4⟩ := iv
  obtain ⟨z, f5⟩ := orr
  have C1 : Hid (∀ W, Calls Tryz.prog 5 #[.int .i64 n, .int .i64 d] W fun e w' => e = .returned (.tuple #[.agg #[.string o1, .string o2], .int .i64 f1]) ∧ Below W.heap.size W w') := K1
  have C2 : Hid (∀ W, Below w.heap.size w W → Calls Tryz.prog 6 #[.int .i64 n, .int .i64 d] W fun e w' => e = .returned (.tuple #[.agg #[.string o1, .string o2], .int .i64 f1]) ∧ Below W.heap.size W w') := K2
  have C3 : Hid (∀ W, Calls Tryz.prog 7 #[.agg #[.string a1, .string a2]] W fun e w' => e = .returned (.int .i64 ckv) ∧ Below W.heap.size W w') := K3
  have C4 : Hid (∀ W, Below w.heap.size w W → Calls Tryz.prog 8 #[.agg #[.string a1, .string a2]] W fun e w' => e = .returned (.int .i64 ckv) ∧ Below W.heap.size W w') := K4
  have C5 : Hid (∀ W, Calls Tryz.prog 9 #[.agg #[.string a1, .string a2], .agg #[.string b1, .string b2]] W fun e w' => e = .returned (.tuple #[.agg #[.string p1, .string p2], .int .i64 f2]) ∧ Below W.heap.size W w') := K5
  have C6 : Hid (∀ W, Below w.heap.size w W → Calls Tryz.prog 10 #[.agg #[.string a1, .string a2], .agg #[.string b1, .string b2]] W fun e w' => e = .returned (.tuple #[.agg #[.string p1, .string p2], .int .i64 f2]) ∧ Below W.heap.size W w') := K6
  have C7 : Hid (∀ W, Calls Tryz.prog 11 #[.agg #[.string a1, .string a2], .agg #[.string b1, .string b2]] W fun e w' => e = .returned (.tuple #[.agg #[.string q1, .string q2], .int .i64 f3]) ∧ Below W.heap.size W w') := K7
  have C8 : Hid (∀ W, Below w.heap.size w W → Calls Tryz.prog 12 #[.agg #[.string a1, .string a2], .agg #[.string b1, .string b2]] W fun e w' => e = .returned (.tuple #[.agg #[.string q1, .string q2], .int .i64 f3]) ∧ Below W.heap.size W w') := K8
  have C9 : Hid (∀ W, Calls Tryz.prog 13 #[.agg #[.string a1, .string a2]] W fun e w' => e = .returned (.tuple #[.agg #[.string i1, .string i2], .int .i64 f4]) ∧ Below W.heap.size W w') := K9
  have C10 : Hid (∀ W, Below w.heap.size w W → Calls Tryz.prog 14 #[.agg #[.string a1, .string a2]] W fun e w' => e = .returned (.tuple #[.agg #[.string i1, .string i2], .int .i64 f4]) ∧ Below W.heap.size W w') := K10
  have C11 : Hid (∀ W, Calls Tryz.prog 15 #[.agg #[.string a1, .string a2], .agg #[.string b1, .string b2]] W fun e w' => e = .returned (.tuple #[.int .i64 z, .int .i64 f5]) ∧ Below W.heap.size W w') := K11
  have C12 : Hid (∀ W, Below w.heap.size w W → Calls Tryz.prog 16 #[.agg #[.string a1, .string a2], .agg #[.string b1, .string b2]] W fun e w' => e = .returned (.tuple #[.int .i64 z, .int .i64 f5]) ∧ Below W.heap.size W w') := K12
  clear K1 K2 K3 K4 K5 K6 K7 K8 K9 K10 K11 K12
  obtain ⟨W0, hW0⟩ : ∃ W, (w.alloc (.cells #[.string a1, .string a2] 23)).alloc (.cells #[.string b1, .string b2] 23) = W := ⟨_, rfl⟩
  have J0 : Hid (Two w a1 a2 b1 b2 W0) := by rw [← hW0]; exact Two.made _ _ _ _ _ _ _
  go_enter Tryz.func3, Tryz.ntmps3
  go_wp2_with fail
  clear hW0
  (with_reducible refine (C1.out _).mono ?_)
  rintro e w1 ⟨rfl, b1'⟩
  have J1 := J0.out.keep b1'
  obtain ⟨WA, hWA⟩ : ∃ W, w1.alloc (.cells #[.string ⟨#[]⟩, .string ⟨#[]⟩] 23) = W := ⟨_, rfl⟩
  have D1 : B2 WA w1.heap.size (.string ⟨#[]⟩) (.string ⟨#[]⟩) := by rw [← hWA]; exact B2.made _ _ _ _
  obtain ⟨WB, hWB⟩ : ∃ W, two WA w1.heap.size (.string o1) (.string o2) = W := ⟨_, rfl⟩
  have hb : Below w1.heap.size w1 WB := by rw [← hWB]; exact below_two (by rw [← hWA]; exact bel_one _ _) (Nat.le_refl _) _ _
  have J2 := Lib.hid (J1.keep hb)
  have LG : Hid (w.heap.size + 1 < w1.heap.size) := J1.lo
  have R2 : Hid (B2 WB w1.heap.size (.string o1) (.string o2)) := by rw [← hWB]; exact D1.set _ _
  have a0 := D1.c0
  have a1' := D1.c1
  have af0 := D1.fr 0
  have af1 := D1.fr 1
  unfold two at hWB
  clear D1 hb b1' J1 J0
  go_wp2_with fail
  clear hWA hWB a0 a1' af0 af1
  generalize w1.heap.size = g at *
  (with_reducible refine (C2.out _ J2.out.bel).mono ?_)
  rintro e w2 ⟨rfl, b2'⟩
  have J3 := J2.out.keep b2'
  have R3 := R2.out.keep b2'
  obtain ⟨WA, hWA⟩ : ∃ W, w2.alloc (.cells #[.string ⟨#[]⟩, .string ⟨#[]⟩] 23) = W := ⟨_, rfl⟩
  have D1 : B2 WA w2.heap.size (.string ⟨#[]⟩) (.string ⟨#[]⟩) := by rw [← hWA]; exact B2.made _ _ _ _
  obtain ⟨WB2, hWB⟩ : ∃ W, two WA w2.heap.size (.string o1) (.string o2) = W := ⟨_, rfl⟩
  have hb : Below w2.heap.size w2 WB2 := by rw [← hWB]; exact below_two (by rw [← hWA]; exact bel_one _ _) (Nat.le_refl _) _ _
  have J4 := J3.keep hb
  have S4 : B2 WB2 w2.heap.size (.string o1) (.string o2) := by rw [← hWB]; exact D1.set _ _
  have L0 : Hid (Lw w a1 a2 b1 b2 g w2.heap.size o1 o2 o1 o2 WB2) := ⟨J4.x, J4.y, R3.keep hb, S4, LG.out, R3.lt, J4.bel⟩
  have a0 := D1.c0
  have a1' := D1.c1
  have af0 := D1.fr 0
  have af1 := D1.fr 1
  unfold two at hWB
  clear D1 hb b2' J3 J4 R3 S4 J2 R2 LG
  go_wp2_with fail
  clear hWA hWB a0 a1' af0 af1
  generalize w2.heap.size = h at *
  refine wp_region_noPanic ?_
  refine wp_region_held_drew (S := S6 w.heap.size g h a1 a2 o1 o2 o1 o2) (by kernel_rfl) (L0.out.keep (Below.refl _ _).drew).s6 (fun hS => ?_)
  have L1 := Lib.hid (L0.out.keep (Below.refl _ _).drew)
  clear L0
  refine wpAnyH_take (i := 0) (v := ?v0z29) rfl (by kernel_rfl) (by kernel_rfl) (by kernel_rfl) (fun _ _ _ h => h) (Or.inl ⟨by rfl, ?hy0z29⟩) (by assumption) ?rest0z29
  case hy0z29 =>
    intro w hSw
    dsimp only [S6] at hSw
    go_simp
    try with_reducible rfl
  simp only [Act.put, List.getElem_toArray, List.getElem_cons_succ, List.getElem_cons_zero, List.setIfInBounds_toArray, List.set_cons_zero, List.set_cons_succ]
  refine wpAnyH_take (i := 1) (v := ?v1z30) rfl (by kernel_rfl) (by kernel_rfl) (by kernel_rfl) (fun _ _ _ h => h) (Or.inl ⟨by rfl, ?hy1z30⟩) (by assumption) ?rest1z30
  case hy1z30 =>
    intro w hSw
    dsimp only [S6] at hSw
    go_simp
    try with_reducible rfl
  simp only [Act.put, List.getElem_toArray, List.getElem_cons_succ, List.getElem_cons_zero, List.setIfInBounds_toArray, List.set_cons_zero, List.set_cons_succ]
  refine wpAnyH_take (i := 2) (v := ?v2z31) rfl (by kernel_rfl) (by kernel_rfl) (by kernel_rfl) (fun _ _ _ h => h) (Or.inl ⟨by rfl, ?hy2z31⟩) (by assumption) ?rest2z31
  case hy2z31 =>
    intro w hSw
    dsimp only [S6] at hSw
    go_simp
    try with_reducible rfl
  simp only [Act.put, List.getElem_toArray, List.getElem_cons_succ, List.getElem_cons_zero, List.setIfInBounds_toArray, List.set_cons_zero, List.set_cons_succ]
  refine wpAnyH_take (i := 3) (v := ?v3z32) rfl (by kernel_rfl) (by kernel_rfl) (by kernel_rfl) (fun _ _ _ h => h) (Or.inl ⟨by rfl, ?hy3z32⟩) (by assumption) ?rest3z32
  case hy3z32 =>
    intro w hSw
    dsimp only [S6] at hSw
    go_simp
    try with_reducible rfl
  simp only [Act.put, List.getElem_toArray, List.getElem_cons_succ, List.getElem_cons_zero, List.setIfInBounds_toArray, List.set_cons_zero, List.set_cons_succ]
  refine wpAnyH_take (i := 4) (v := ?v4z33) rfl (by kernel_rfl) (by kernel_rfl) (by kernel_rfl) (fun _ _ _ h => h) (Or.inl ⟨by rfl, ?hy4z33⟩) (by assumption) ?rest4z33
  case hy4z33 =>
    intro w hSw
    dsimp only [S6] at hSw
    go_simp
    try with_reducible rfl
  simp only [Act.put, List.getElem_toArray, List.getElem_cons_succ, List.getElem_cons_zero, List.setIfInBounds_toArray, List.set_cons_zero, List.set_cons_succ]
  refine wpAnyH_take (i := 5) (v := ?v5z34) rfl (by kernel_rfl) (by kernel_rfl) (by kernel_rfl) (fun _ _ _ h => h) (Or.inl ⟨by rfl, ?hy5z34⟩) (by assumption) ?rest5z34
  case hy5z34 =>
    intro w hSw
    dsimp only [S6] at hSw
    go_simp
    try with_reducible rfl
  simp only [Act.put, List.getElem_toArray, List.getElem_cons_succ, List.getElem_cons_zero, List.setIfInBounds_toArray, List.set_cons_zero, List.set_cons_succ]
  refine wpAnyH_take (i := 6) (v := ?v6z35) rfl (by kernel_rfl) (by kernel_rfl) (by kernel_rfl) (fun _ _ _ h => h) (Or.inl ⟨by rfl, ?hy6z35⟩) (by assumption) ?rest6z35
  case hy6z35 =>
    intro w hSw
    dsimp only [S6] at hSw
    go_simp
    try with_reducible rfl
  simp only [Act.put, List.getElem_toArray, List.getElem_cons_succ, List.getElem_cons_zero, List.setIfInBounds_toArray, List.set_cons_zero, List.set_cons_succ]
  refine wpAnyH_take (i := 7) (v := ?v7z36) rfl (by kernel_rfl) (by kernel_rfl) (by kernel_rfl) (fun _ _ _ h => h) (Or.inl ⟨by rfl, ?hy7z36⟩) (by assumption) ?rest7z36
  case hy7z36 =>
    intro w hSw
    dsimp only [S6] at hSw
    go_simp
    try with_reducible rfl
  simp only [Act.put, List.getElem_toArray, List.getElem_cons_succ, List.getElem_cons_zero, List.setIfInBounds_toArray, List.set_cons_zero, List.set_cons_succ]
  refine wpAnyH_take (i := 8) (v := ?v8z37) rfl (by kernel_rfl) (by kernel_rfl) (by kernel_rfl) (fun _ _ _ h => h) (Or.inl ⟨by rfl, ?hy8z37⟩) (by assumption) ?rest8z37
  case hy8z37 =>
    intro w hSw
    dsimp only [S6] at hSw
    go_simp
    try with_reducible rfl
  simp only [Act.put, List.getElem_toArray, List.getElem_cons_succ, List.getElem_cons_zero, List.setIfInBounds_toArray, List.set_cons_zero, List.set_cons_succ]
  refine wpAnyH_take (i := 9) (v := ?v9z38) rfl (by kernel_rfl) (by kernel_rfl) (by kernel_rfl) (fun _ _ _ h => h) (Or.inl ⟨by rfl, ?hy9z38⟩) (by assumption) ?rest9z38
  case hy9z38 =>
    intro w hSw
    dsimp only [S6] at hSw
    go_simp
    try with_reducible rfl
  simp only [Act.put, List.getElem_toArray, List.getElem_cons_succ, List.getElem_cons_zero, List.setIfInBounds_toArray, List.set_cons_zero, List.set_cons_succ]
  refine wpAnyH_take (i := 11) (v := ?v11z39) rfl (by kernel_rfl) (by kernel_rfl) (by kernel_rfl) (fun _ _ _ h => h) (Or.inl ⟨by rfl, ?hy11z39⟩) (by assumption) ?rest11z39
  case hy11z39 =>
    intro w hSw
    dsimp only [S6] at hSw
    go_simp
    try with_reducible rfl
  simp only [Act.put, List.getElem_toArray, List.getElem_cons_succ, List.getElem_cons_zero, List.setIfInBounds_toArray, List.set_cons_zero, List.set_cons_succ]
  refine wpAnyH_ready (rs := [10]) (by kernel_rfl) (by simp) ?_
  refine AllReadyH.cons rfl (fun K hK => ?_) AllReadyH.nil
  go_simp
  (refine (C3.out _).mono ?_)
  rintro e V1 ⟨rfl, bc⟩
  try go_simp
  have L2 := Lib.hid (L1.out.keep bc)
  have hT := L2.out.s6
  refine hK.out _ _ hT (fun _ => ?_)
  clear hK K hS bc L1
  have hS := hT
  clear hT
  try simp only [Act.put, List.setIfInBounds_toArray, List.set_cons_zero, List.set_cons_succ]
  refine wpAnyH_ready (rs := [12]) (by kernel_rfl) (by simp) ?_
  refine AllReadyH.cons rfl (fun K hK => ?_) AllReadyH.nil
  go_simp
  (refine (C4.out _ L2.out.bel).mono ?_)
  rintro e V2 ⟨rfl, bc⟩
  try go_simp
  have L3 := Lib.hid (L2.out.keep bc)
  have hT := L3.out.s6
  refine hK.out _ _ hT (fun _ => ?_)
  clear hK K hS bc L2
  have hS := hT
  clear hT
  try simp only [Act.put, List.setIfInBounds_toArray, List.set_cons_zero, List.set_cons_succ]
  refine wpAnyH_take (i := 13) (v := ?v13z40) rfl (by kernel_rfl) (by kernel_rfl) (by kernel_rfl) (fun _ _ _ h => h) (Or.inl ⟨by rfl, ?hy13z40⟩) (by assumption) ?rest13z40
  case hy13z40 =>
    intro w hSw
    dsimp only [S6] at hSw
    go_simp
    try with_reducible rfl
  simp only [Act.put, List.getElem_toArray, List.getElem_cons_succ, List.getElem_cons_zero, List.setIfInBounds_toArray, List.set_cons_zero, List.set_cons_succ]
  refine wpAnyH_take (i := 14) (v := ?v14z41) rfl (by kernel_rfl) (by kernel_rfl) (by kernel_rfl) (fun _ _ _ h => h) (Or.inl ⟨by rfl, ?hy14z41⟩) (by assumption) ?rest14z41
  case hy14z41 =>
    intro w hSw
    dsimp only [S6] at hSw
    go_simp
    try with_reducible rfl
  simp only [Act.put, List.getElem_toArray, List.getElem_cons_succ, List.getElem_cons_zero, List.setIfInBounds_toArray, List.set_cons_zero, List.set_cons_succ]
  refine wpAnyH_done (by kernel_rfl) ?_ _
  refine NoPanic.normal ?_
  clear hS
  have la0 := L3.out.a.c0
  have la1 := L3.out.a.c1
  have lb0 := L3.out.b.c0
  have lb1 := L3.out.b.c1
  go_wp2_with fail
  clear la0 la1 lb0 lb1
  (with_reducible refine (C5.out _).mono ?_)
  rintro e v3 ⟨rfl, bc⟩
  have LK := L3.out.keep bc
  obtain ⟨WB, hWB⟩ : ∃ W, two v3 g (.string p1) (.string p2) = W := ⟨_, rfl⟩
  have L4 : Hid (Lw w a1 a2 b1 b2 g h p1 p2 o1 o2 WB) := by rw [← hWB]; exact LK.setr _ _
  have k0 := LK.r.c0
  have k1 := LK.r.c1
  have kf0 := LK.r.fr 0
  have kf1 := LK.r.fr 1
  unfold two at hWB
  clear LK bc L3
  have la0 := L4.out.a.c0
  have la1 := L4.out.a.c1
  have lb0 := L4.out.b.c0
  have lb1 := L4.out.b.c1
  go_wp2_with fail
  clear la0 la1 lb0 lb1
  clear hWB k0 k1 kf0 kf1
  (with_reducible refine (C6.out _ L4.out.bel).mono ?_)
  rintro e v4 ⟨rfl, bc⟩
  have LK := L4.out.keep bc
  obtain ⟨WC, hWB⟩ : ∃ W, two v4 h (.string p1) (.string p2) = W := ⟨_, rfl⟩
  have L5 : Hid (Lw w a1 a2 b1 b2 g h p1 p2 p1 p2 WC) := by rw [← hWB]; exact LK.sets _ _
  have k0 := LK.s.c0
  have k1 := LK.s.c1
  have kf0 := LK.s.fr 0
  have kf1 := LK.s.fr 1
  unfold two at hWB
  clear LK bc L4
  have r0 := L5.out.r.c0
  have r1 := L5.out.r.c1
  have s0 := L5.out.s.c0
  have s1 := L5.out.s.c1
  have la0 := L5.out.a.c0
  have la1 := L5.out.a.c1
  have lb0 := L5.out.b.c0
  have lb1 := L5.out.b.c1
  go_wp2_with fail
  clear la0 la1 lb0 lb1 hWB k0 k1 kf0 kf1 r0 r1 s0 s1
  (with_reducible refine (C7.out _).mono ?_)
  rintro e v5 ⟨rfl, bc⟩
  have LK := L5.out.keep bc
  obtain ⟨WB, hWB⟩ : ∃ W, two v5 g (.string q1) (.string q2) = W := ⟨_, rfl⟩
  have L6 : Hid (Lw w a1 a2 b1 b2 g h q1 q2 p1 p2 WB) := by rw [← hWB]; exact LK.setr _ _
  have k0 := LK.r.c0
  have k1 := LK.r.c1
  have kf0 := LK.r.fr 0
  have kf1 := LK.r.fr 1
  unfold two at hWB
  clear LK bc L5
  have la0 := L6.out.a.c0
  have la1 := L6.out.a.c1
  have lb0 := L6.out.b.c0
  have lb1 := L6.out.b.c1
  go_wp2_with fail
  clear la0 la1 lb0 lb1
  clear hWB k0 k1 kf0 kf1
  (with_reducible refine (C8.out _ L6.out.bel).mono ?_)
  rintro e v6 ⟨rfl, bc⟩
  have LK := L6.out.keep bc
  obtain ⟨WC, hWB⟩ : ∃ W, two v6 h (.string q1) (.string q2) = W := ⟨_, rfl⟩
  have L7 : Hid (Lw w a1 a2 b1 b2 g h q1 q2 q1 q2 WC) := by rw [← hWB]; exact LK.sets _ _
  have k0 := LK.s.c0
  have k1 := LK.s.c1
  have kf0 := LK.s.fr 0
  have kf1 := LK.s.fr 1
  unfold two at hWB
  clear LK bc L6
  have r0 := L7.out.r.c0
  have r1 := L7.out.r.c1
  have s0 := L7.out.s.c0
  have s1 := L7.out.s.c1
  have la0 := L7.out.a.c0
  have la1 := L7.out.a.c1
  go_wp2_with fail
  clear la0 la1 hWB k0 k1 kf0 kf1 r0 r1 s0 s1
  (with_reducible refine (C9.out _).mono ?_)
  rintro e v7 ⟨rfl, bc⟩
  have LK := L7.out.keep bc
  obtain ⟨WB, hWB⟩ : ∃ W, two v7 g (.string i1) (.string i2) = W := ⟨_, rfl⟩
  have L8 : Hid (Lw w a1 a2 b1 b2 g h i1 i2 q1 q2 WB) := by rw [← hWB]; exact LK.setr _ _
  have k0 := LK.r.c0
  have k1 := LK.r.c1
  have kf0 := LK.r.fr 0
  have kf1 := LK.r.fr 1
  unfold two at hWB
  clear LK bc L7
  have la0 := L8.out.a.c0
  have la1 := L8.out.a.c1
  go_wp2_with fail
  clear la0 la1
  clear hWB k0 k1 kf0 kf1
  (with_reducible refine (C10.out _ L8.out.bel).mono ?_)
  rintro e v8 ⟨rfl, bc⟩
  have LK := L8.out.keep bc
  obtain ⟨WC, hWB⟩ : ∃ W, two v8 h (.string i1) (.string i2) = W := ⟨_, rfl⟩
  have L9 : Hid (Lw w a1 a2 b1 b2 g h i1 i2 i1 i2 WC) := by rw [← hWB]; exact LK.sets _ _
  have k0 := LK.s.c0
  have k1 := LK.s.c1
  have kf0 := LK.s.fr 0
  have kf1 := LK.s.fr 1
  unfold two at hWB
  clear LK bc L8
  have r0 := L9.out.r.c0
  have r1 := L9.out.r.c1
  have s0 := L9.out.s.c0
  have s1 := L9.out.s.c1
  have la0 := L9.out.a.c0
  have la1 := L9.out.a.c1
  have lb0 := L9.out.b.c0
  have lb1 := L9.out.b.c1
  go_wp2_with fail
  clear la0 la1 lb0 lb1 hWB k0 k1 kf0 kf1 r0 r1 s0 s1
  (with_reducible refine (C11.out _).mono ?_)
  rintro e v20 ⟨rfl, bc⟩
  have L20 := Lib.hid (L9.out.keep bc)
  clear bc L9
  have la0 := L20.out.a.c0
  have la1 := L20.out.a.c1
  have lb0 := L20.out.b.c0
  have lb1 := L20.out.b.c1
  go_wp2_with fail
  clear la0 la1 lb0 lb1
  (with_reducible refine (C12.out _ L20.out.bel).mono ?_)
  rintro e v21 ⟨rfl, bc⟩
  have LB := Lib.hid (L20.out.bel.trans (bc.mono L20.out.bel.size))
  clear bc L20
  go_wp2_with fail
  go_ret
  exact ⟨rfl, LB.out⟩
end Go.Proofs.YtfijhkaalpinhaaGreatDoor
