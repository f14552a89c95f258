/-
  Whole numbers of any size: quotients by divisors.
  Fractions of whole numbers of any size: Over.
  Ratios of package value: the texts of a fraction.
  Ratios: lowest terms are one thing.
-/
import Derived.Test.YtfijhkaalpinhaaGreatDoorRa08
import Derived.Test.YtfijhkaalpinhaaGreatDoorRa10
namespace Go.Proofs.YtfijhkaalpinhaaGreatDoor
open Go.RowKit

set_option maxRecDepth 100000 in
set_option maxHeartbeats 4000000 in
theorem part_c (b1 b2 : Bool) (a1 a2 : Option Addr) (k1 k2 c1 c2 : Nat) (z1 z2 : Int) (w : World) (h1 : Zn w b1 a1 k1 c1 z1) (h2 : Zn w b2 a2 k2 c2 z2) (hz : z2 ≠ 0) (n1 : z1.natAbs < bp 4000) :
    Calls Tryz.prog 57 #[.agg #[.bool b1, .slice a1 k1 c1], .agg #[.bool b2, .slice a2 k2 c2]] w (ZPost (z1.tdiv z2) w) := by
  obtain ⟨W0, hW0⟩ : ∃ W0, ((w.alloc (.cells #[.bool b1, .slice a1 k1 c1] 44)).alloc (.cells #[.bool b2, .slice a2 k2 c2] 44)).alloc (.cells #[.bool false, .slice none 0 0] 44) = W0 := ⟨_, rfl⟩
  have J0 : Hid (I3 w b1 a1 k1 c1 b2 a2 k2 c2 W0) := by rw [← hW0]; exact I3.made _ _ _ _ _ _ _ _ _ _ _ _
  have M1 := Lib.hid (fun W (h : I3 w b1 a1 k1 c1 b2 a2 k2 c2 W) => h1.below h.bel)
  have M2 := Lib.hid (fun W (h : I3 w b1 a1 k1 c1 b2 a2 k2 c2 W) => h2.below h.bel)
  have N1 := Lib.hid n1
  have HZ0 := Lib.hid hz
  clear h1 h2 n1 hz
  go_enter Tryz.func57, Tryz.ntmps57
  go_wp2_with fail
  clear hW0
  refine wp_region_noPanic ?_
  refine wp_region_held_drew (S := SI w.heap.size b1 a1 k1 c1 b2 a2 k2 c2) (by kernel_rfl) (J0.out.keep (Below.refl _ _).drew).si (fun hS => ?_)
  have J1 := Lib.hid (J0.out.keep (Below.refl _ _).drew)
  refine wpAnyH_take (i := 0) (v := ?v0z29) rfl (by kernel_rfl) (by kernel_rfl) (by kernel_rfl) (fun _ _ _ h => h) (Or.inl ⟨by rfl, ?hy0z29⟩) (by assumption) ?rest0z29
  case hy0z29 =>
    intro w hSw
    dsimp only [SI] at hSw
    go_simp
    try with_reducible rfl
  simp only [Act.put, List.getElem_toArray, List.getElem_cons_succ, List.getElem_cons_zero, List.setIfInBounds_toArray, List.set_cons_zero, List.set_cons_succ]
  refine wpAnyH_ready (rs := [1]) (by kernel_rfl) (by simp) ?_
  refine AllReadyH.cons rfl (fun K hK => ?_) AllReadyH.nil
  go_simp
  refine (Of_c 1 _ (by decide) (by decide)).mono ?_
  rintro e W3 ⟨ob, oa, ok, oc, rfl, hn, bc⟩
  try go_simp
  have J3 := Lib.hid (J1.out.keep bc)
  have hT := J3.out.si
  have HO := Lib.hid hn
  refine hK.out _ _ hT (fun _ => ?_)
  clear hK K hS bc J1 hn
  have hS := hT
  clear hT
  try simp only [Act.put, List.setIfInBounds_toArray, List.set_cons_zero, List.set_cons_succ]
  refine wpAnyH_ready (rs := [2]) (by kernel_rfl) (by simp) ?_
  refine AllReadyH.cons rfl (fun K hK => ?_) AllReadyH.nil
  go_simp
  refine (Equal_c b2 ob a2 oa k2 ok c2 oc z2 1 _ (M2.out _ J3.out) HO.out).mono ?_
  rintro e W4 ⟨rfl, bc⟩
  try go_simp
  have J4 := Lib.hid (J3.out.keep bc)
  have hT := J4.out.si
  refine hK.out _ _ hT (fun _ => ?_)
  clear hK K hS bc J3 HO
  have hS := hT
  clear hT
  try simp only [Act.put, List.setIfInBounds_toArray, List.set_cons_zero, List.set_cons_succ]
  refine wpAnyH_done (by kernel_rfl) ?_ _
  refine NoPanic.normal ?_
  clear hS
  have x0 := J4.out.x.c0
  have x1 := J4.out.x.c1
  have y0 := J4.out.y.c0
  have y1 := J4.out.y.c1
  by_cases h1 : z2 = 1
  · have hd : decide (z2 = 1) = true := decide_eq_true h1
    have HZ : Hid (Zn W4 b1 a1 k1 c1 (z1.tdiv z2)) := by
      rw [h1]
      have := M1.out _ J4.out
      rw [Int.tdiv_one]; exact this
    rw [hd]
    clear h1 hd
    obtain ⟨W9, hW9⟩ : ∃ W9, two W4 (w.heap.size + 1 + 1) (.bool b1) (.slice a1 k1 c1) = W9 := ⟨_, rfl⟩
    have R9 : B2 W9 (w.heap.size + 1 + 1) (.bool b1) (.slice a1 k1 c1) := by rw [← hW9]; exact J4.out.r.set _ _
    have PP : Hid (ZPost (z1.tdiv z2) w (.returned (.agg #[.bool b1, .slice a1 k1 c1])) W9) := by
      rw [← hW9]
      exact ⟨_, _, _, _, rfl, HZ.out.set2 J4.out.r _ _, below_two J4.out.bel (by omega) _ _⟩
    have q0 := J4.out.r.c0
    have q1 := J4.out.r.c1
    have g0 := J4.out.r.fr 0
    have g1 := J4.out.r.fr 1
    obtain ⟨r0, r1, _, _⟩ := id R9
    unfold two at hW9
    clear R9
    go_wp2_with fail
    exact bodyPost_ret (v := .agg #[.bool b1, .slice a1 k1 c1]) (by simp [results, Tryz.results57, go_sem, r0, r1]) rfl PP.out
  · have hd : decide (z2 = 1) = false := decide_eq_false h1
    rw [hd]
    clear h1 hd
    have HD := Lib.hid (Divide_c b1 b2 a1 a2 k1 k2 c1 c2 z1 z2 W4 (M1.out _ J4.out) (M2.out _ J4.out) HZ0.out N1.out)
    go_wp2_with fail
    clear x0 x1 y0 y1
    refine HD.out.mono ?_
    rintro e w6 ⟨qb, qa, qk, qc, rb, ra, rk, rc, rfl, hq, _, b6⟩
    have J6 := Lib.hid (J4.out.keep b6)
    have Q6 := Lib.hid hq
    clear hq b6 J4 HD
    obtain ⟨WA, hWA⟩ : ∃ W, w6.alloc (.cells #[.bool false, .slice none 0 0] 44) = W := ⟨_, rfl⟩
    have A1 : B2 WA w6.heap.size (.bool false) (.slice none 0 0) := by rw [← hWA]; exact B2.made _ _ _ _
    have bA : Below w6.heap.size w6 WA := by rw [← hWA]; exact bel_one _ _
    have sA : WA.heap.size = w6.heap.size + 1 := by rw [← hWA]; simp
    obtain ⟨WB, hWB⟩ : ∃ W, WA.alloc (.cells #[.bool false, .slice none 0 0] 44) = W := ⟨_, rfl⟩
    have B1 : B2 WB WA.heap.size (.bool false) (.slice none 0 0) := by rw [← hWB]; exact B2.made _ _ _ _
    have bB : Below WA.heap.size WA WB := by rw [← hWB]; exact bel_one _ _
    have A2 := A1.keep bB
    have BB : Below w6.heap.size w6 WB := bA.trans (bB.mono bA.size)
    obtain ⟨WC, hWC⟩ : ∃ W, two WB w6.heap.size (.bool qb) (.slice qa qk qc) = W := ⟨_, rfl⟩
    have A3 : B2 WC w6.heap.size (.bool qb) (.slice qa qk qc) := by rw [← hWC]; exact A2.set _ _
    have B3_ : B2 WC WA.heap.size (.bool false) (.slice none 0 0) := by rw [← hWC]; exact B1.other (by omega) _ _
    have BC : Below w6.heap.size w6 WC := by rw [← hWC]; exact below_two BB (Nat.le_refl _) _ _
    obtain ⟨WD, hWD⟩ : ∃ W, two WC WA.heap.size (.bool rb) (.slice ra rk rc) = W := ⟨_, rfl⟩
    have A4 : B2 WD w6.heap.size (.bool qb) (.slice qa qk qc) := by rw [← hWD]; exact A3.other (by omega) _ _
    have BD : Below w6.heap.size w6 WD := by rw [← hWD]; exact below_two BC (by omega) _ _
    have J7 := Lib.hid (J6.out.keep BD)
    have HZ := Lib.hid (Q6.out.below BD)
    have a20 := A2.c0
    have a21 := A2.c1
    have a2f0 := A2.fr 0
    have a2f1 := A2.fr 1
    have b30 := B3_.c0
    have b31 := B3_.c1
    have b3f0 := B3_.fr 0
    have b3f1 := B3_.fr 1
    have a40 := A4.c0
    have a41 := A4.c1
    unfold two at hWC hWD
    have HS := Lib.hid sA
    clear A1 bA B1 bB A2 BB A3 B3_ BC A4 BD J6 Q6 sA
    obtain ⟨W9, hW9⟩ : ∃ W9, two WD (w.heap.size + 1 + 1) (.bool qb) (.slice qa qk qc) = W9 := ⟨_, rfl⟩
    have R9 : B2 W9 (w.heap.size + 1 + 1) (.bool qb) (.slice qa qk qc) := by rw [← hW9]; exact J7.out.r.set _ _
    have PP : Hid (ZPost (z1.tdiv z2) w (.returned (.agg #[.bool qb, .slice qa qk qc])) W9) := by
      rw [← hW9]
      exact ⟨_, _, _, _, rfl, HZ.out.set2 J7.out.r _ _, below_two J7.out.bel (by omega) _ _⟩
    have q0 := J7.out.r.c0
    have q1 := J7.out.r.c1
    have g0 := J7.out.r.fr 0
    have g1 := J7.out.r.fr 1
    obtain ⟨r0, r1, _, _⟩ := id R9
    unfold two at hW9
    clear R9
    go_wp2_with fail
    exact bodyPost_ret (v := .agg #[.bool qb, .slice qa qk qc]) (by simp [results, Tryz.results57, go_sem, r0, r1]) rfl PP.out
end Go.Proofs.YtfijhkaalpinhaaGreatDoor
namespace Go.Proofs.YtfijhkaalpinhaaGreatDoor
open Go.RowKit

/-- What the end of Over reads. -/
def SO (g gd : Nat) (b1 : Bool) (a1 : Option Addr) (k1 c1 : Nat) (b2 : Bool) (a2 : Option Addr) (k2 c2 : Nat) (b3 : Bool) (a3 : Option Addr) (k3 c3 : Nat) (W : World) : Prop :=
  W.cell? ⟨g, 0, none⟩ = some (.bool b1) ∧ W.cell? ⟨g, 1, none⟩ = some (.slice a1 k1 c1) ∧ W.cell? ⟨g + 1, 0, none⟩ = some (.bool b2) ∧ W.cell? ⟨g + 1, 1, none⟩ = some (.slice a2 k2 c2) ∧ W.cell? ⟨gd, 0, none⟩ = some (.bool b3) ∧ W.cell? ⟨gd, 1, none⟩ = some (.slice a3 k3 c3)
theorem Ov.so {w : World} {gd : Nat} {b1 : Bool} {a1 : Option Addr} {k1 c1 : Nat} {b2 : Bool} {a2 : Option Addr} {k2 c2 : Nat} {b3 : Bool} {a3 : Option Addr} {k3 c3 : Nat} {W : World} (h : Ov w gd b1 a1 k1 c1 b2 a2 k2 c2 b3 a3 k3 c3 W) : SO w.heap.size gd b1 a1 k1 c1 b2 a2 k2 c2 b3 a3 k3 c3 W := ⟨h.x.c0, h.x.c1, h.y.c0, h.y.c1, h.d.c0, h.d.c1⟩
theorem Ov.done {w : World} {gd : Nat} {b1 : Bool} {a1 : Option Addr} {k1 c1 : Nat} {b2 : Bool} {a2 : Option Addr} {k2 c2 : Nat} {b3 : Bool} {a3 : Option Addr} {k3 c3 : Nat} {W : World} (h : Ov w gd b1 a1 k1 c1 b2 a2 k2 c2 b3 a3 k3 c3 W) (y0 y1 y2 y3 : Value) : SO w.heap.size gd b1 a1 k1 c1 b2 a2 k2 c2 b3 a3 k3 c3 (four W (w.heap.size + 1 + 1) y0 y1 y2 y3) := by
  have hd := h.hd
  exact ⟨(four_cell (by omega) _ _ _ _ 0).trans h.x.c0, (four_cell (by omega) _ _ _ _ 1).trans h.x.c1, (four_cell (by omega) _ _ _ _ 0).trans h.y.c0, (four_cell (by omega) _ _ _ _ 1).trans h.y.c1, (four_cell (by omega) _ _ _ _ 0).trans h.d.c0, (four_cell (by omega) _ _ _ _ 1).trans h.d.c1⟩
set_option maxRecDepth 100000 in
set_option maxHeartbeats 4000000 in
theorem Over_pos (b1 : Bool) (a1 a2 : Option Addr) (k1 k2 c1 c2 : Nat) (z1 z2 : Int) (w : World) (h1 : Zn w b1 a1 k1 c1 z1) (h2 : Zn w false a2 k2 c2 z2) (hz : z2 ≠ 0) (n1 : z1.natAbs < bp 2000) (n2 : z2.natAbs < bp 2000) :
    Calls Tryz.prog 24 #[.agg #[.bool b1, .slice a1 k1 c1], .agg #[.bool false, .slice a2 k2 c2]] w (FrPost (z1.tdiv (ovG z1 z2)) (z2.tdiv (ovG z1 z2)) w) := by
  obtain ⟨W0, hW0⟩ : ∃ W0, ((w.alloc (.cells #[.bool b1, .slice a1 k1 c1] 44)).alloc (.cells #[.bool false, .slice a2 k2 c2] 44)).alloc (.cells #[.bool false, .slice none 0 0, .bool false, .slice none 0 0] 46) = W0 := ⟨_, rfl⟩
  have s2 : ((w.alloc (.cells #[.bool b1, .slice a1 k1 c1] 44)).alloc (.cells #[.bool false, .slice a2 k2 c2] 44)).heap.size = w.heap.size + 1 + 1 := by simp
  have X0 : B2 W0 w.heap.size (.bool b1) (.slice a1 k1 c1) := by rw [← hW0]; exact ((B2.made w _ _ _).keep (bel_one _ _)).keep (bel_one _ _)
  have Y0 : B2 W0 (w.heap.size + 1) (.bool false) (.slice a2 k2 c2) := by
    have s1 : (w.alloc (.cells #[.bool b1, .slice a1 k1 c1] 44)).heap.size = w.heap.size + 1 := by simp
    rw [← hW0, ← s1]; exact (B2.made _ _ _ _).keep (bel_one _ _)
  have R0 : B4 W0 (w.heap.size + 1 + 1) (.bool false) (.slice none 0 0) (.bool false) (.slice none 0 0) := by rw [← hW0, ← s2]; exact B4.made _ _ _ _ _ _
  have B0 : Below w.heap.size w W0 := by rw [← hW0]; exact (((Below.refl _ _).alloc (Nat.le_refl _) _).alloc (by simp) _).alloc (by simp; omega) _
  have S0 : Hid (w.heap.size + 1 + 1 < W0.heap.size) := by rw [← hW0]; simp [Hid]
  have HB0 := Lib.hid B0
  have HX0 := Lib.hid X0
  have HY0 := Lib.hid Y0
  have HR0 := Lib.hid R0
  have HC := Lib.hid (Common_c b1 false a1 a2 k1 k2 c1 c2 z1 z2 W0 (h1.below B0) (h2.below B0) n1 n2)
  have Z1 := Lib.hid (h1.below B0)
  have Z2 := Lib.hid (h2.below B0)
  have SG := Lib.hid h2.sign
  have N1 := Lib.hid (Nat.lt_of_lt_of_le n1 (bp_mono (show 2000 ≤ 4000 by decide)))
  have N2 := Lib.hid (Nat.lt_of_lt_of_le n2 (bp_mono (show 2000 ≤ 4000 by decide)))
  have HNE := Lib.hid (ovG_ne (n := z1) hz)
  have x0 := X0.c0
  have x1 := X0.c1
  have y0 := Y0.c0
  have y1 := Y0.c1
  clear h1 h2 s2 hz n1 n2 X0 Y0 R0 B0
  go_enter Tryz.func24, Tryz.ntmps24
  go_wp2_with fail
  clear hW0
  clear x0 x1 y0 y1
  refine HC.out.mono ?_
  rintro e w1 ⟨gb, ga, gk, gc, rfl, hg, b1'⟩
  have HG1 := Lib.hid hg
  have BB1 := Lib.hid b1'
  clear hg b1' HC
  obtain ⟨W2, hW2⟩ : ∃ W2, w1.alloc (.cells #[.bool false, .slice none 0 0] 44) = W2 := ⟨_, rfl⟩
  have D2 : B2 W2 w1.heap.size (.bool false) (.slice none 0 0) := by rw [← hW2]; exact B2.made _ _ _ _
  have B2' : Below w1.heap.size w1 W2 := by rw [← hW2]; exact bel_one _ _
  have hb02 : Below W0.heap.size W0 W2 := BB1.out.trans (B2'.mono BB1.out.size)
  have O2 : Ov w w1.heap.size b1 a1 k1 c1 false a2 k2 c2 false none 0 0 W2 := ⟨HX0.out.keep hb02, HY0.out.keep hb02, HR0.out.keep hb02, D2, Nat.lt_of_lt_of_le S0.out BB1.out.size, HB0.out.trans (hb02.mono HB0.out.size)⟩
  obtain ⟨gd, hgd⟩ : ∃ gd, w1.heap.size = gd := ⟨_, rfl⟩
  rw [hgd] at D2 O2
  obtain ⟨W3, hW3⟩ : ∃ W3, two W2 gd (.bool gb) (.slice ga gk gc) = W3 := ⟨_, rfl⟩
  have O3 : Hid (Ov w gd b1 a1 k1 c1 false a2 k2 c2 gb ga gk gc W3) := by rw [← hW3]; exact O2.setD _ _ _ _
  have Z13 : Hid (Zn W3 b1 a1 k1 c1 z1) := by rw [← hW3]; exact (Z1.out.below hb02).set2 D2 _ _
  have Z23 : Hid (Zn W3 false a2 k2 c2 z2) := by rw [← hW3]; exact (Z2.out.below hb02).set2 D2 _ _
  have G3 : Hid (Zn W3 gb ga gk gc (Int.gcd z1 z2)) := by rw [← hW3]; exact (HG1.out.below B2').set2 D2 _ _
  have d0 := D2.c0
  have d1 := D2.c1
  have f0 := D2.fr 0
  have f1 := D2.fr 1
  clear D2 B2' hb02 O2 HX0 HY0 HR0 S0 HB0 Z1 Z2 HG1 BB1
  have yc0W3 := O3.out.y.c0
  have dc0W3 := O3.out.d.c0
  have dc1W3 := O3.out.d.c1
  have df0W3 := O3.out.d.fr 0
  have df1W3 := O3.out.d.fr 1
  unfold two at hW3
  go_wp2_with fail
  clear hW3 hW2 d0 d1 f0 f1
  clear yc0W3 dc0W3 dc1W3 df0W3 df1W3
  clear hgd
  have G5 : Hid (Zn W3 gb ga gk gc (ovG z1 z2)) := by
    have e : ovG z1 z2 = (Int.gcd z1 z2 : Int) := by
      have := SG.out
      unfold ovG
      rw [if_neg (by simpa using this.symm)]
    rw [e]
    exact G3.out
  clear G3
  refine wp_region_noPanic ?_
  refine wp_region_held_drew (S := SO w.heap.size gd b1 a1 k1 c1 false a2 k2 c2 gb ga gk gc) (by kernel_rfl) (O3.out.keep (Below.refl _ _).drew).so (fun hS => ?_)
  have J1 := Lib.hid (O3.out.keep (Below.refl _ _).drew)
  have M1 := Lib.hid (Z13.out.below (Below.refl _ _).drew)
  have M2 := Lib.hid (Z23.out.below (Below.refl _ _).drew)
  have G1 := Lib.hid (G5.out.below (Below.refl _ _).drew)
  clear O3 Z13 Z23 G5
  refine wpAnyH_take (i := 0) (v := ?v0z29) rfl (by kernel_rfl) (by kernel_rfl) (by kernel_rfl) (fun _ _ _ h => h) (Or.inl ⟨by rfl, ?hy0z29⟩) (by assumption) ?rest0z29
  case hy0z29 =>
    intro w hSw
    dsimp only [SO] at hSw
    go_simp
    try with_reducible rfl
  simp only [Act.put, List.getElem_toArray, List.getElem_cons_succ, List.getElem_cons_zero, List.setIfInBounds_toArray, List.set_cons_zero, List.set_cons_succ]
  refine wpAnyH_take (i := 1) (v := ?v1z30) rfl (by kernel_rfl) (by kernel_rfl) (by kernel_rfl) (fun _ _ _ h => h) (Or.inl ⟨by rfl, ?hy1z30⟩) (by assumption) ?rest1z30
  case hy1z30 =>
    intro w hSw
    dsimp only [SO] at hSw
    go_simp
    try with_reducible rfl
  simp only [Act.put, List.getElem_toArray, List.getElem_cons_succ, List.getElem_cons_zero, List.setIfInBounds_toArray, List.set_cons_zero, List.set_cons_succ]
  refine wpAnyH_take (i := 3) (v := ?v3z31) rfl (by kernel_rfl) (by kernel_rfl) (by kernel_rfl) (fun _ _ _ h => h) (Or.inl ⟨by rfl, ?hy3z31⟩) (by assumption) ?rest3z31
  case hy3z31 =>
    intro w hSw
    dsimp only [SO] at hSw
    go_simp
    try with_reducible rfl
  simp only [Act.put, List.getElem_toArray, List.getElem_cons_succ, List.getElem_cons_zero, List.setIfInBounds_toArray, List.set_cons_zero, List.set_cons_succ]
  refine wpAnyH_take (i := 4) (v := ?v4z32) rfl (by kernel_rfl) (by kernel_rfl) (by kernel_rfl) (fun _ _ _ h => h) (Or.inl ⟨by rfl, ?hy4z32⟩) (by assumption) ?rest4z32
  case hy4z32 =>
    intro w hSw
    dsimp only [SO] at hSw
    go_simp
    try with_reducible rfl
  simp only [Act.put, List.getElem_toArray, List.getElem_cons_succ, List.getElem_cons_zero, List.setIfInBounds_toArray, List.set_cons_zero, List.set_cons_succ]
  refine wpAnyH_ready (rs := [2]) (by kernel_rfl) (by simp) ?_
  refine AllReadyH.cons rfl (fun K hK => ?_) AllReadyH.nil
  go_simp
  refine (part_c b1 gb a1 ga k1 gk c1 gc z1 (ovG z1 z2) _ M1.out G1.out HNE.out N1.out).mono ?_
  rintro e W6 ⟨qb, qa, qk, qc, rfl, hq, bc⟩
  try go_simp
  have J6 := Lib.hid (J1.out.keep bc)
  have hT := J6.out.so
  have Q6 := Lib.hid hq
  have M6 := Lib.hid (M2.out.below bc)
  have G6 := Lib.hid (G1.out.below bc)
  refine hK.out _ _ hT (fun _ => ?_)
  clear hK K hS bc J1 hq M1 M2 G1
  have hS := hT
  clear hT
  try simp only [Act.put, List.setIfInBounds_toArray, List.set_cons_zero, List.set_cons_succ]
  refine wpAnyH_ready (rs := [5]) (by kernel_rfl) (by simp) ?_
  refine AllReadyH.cons rfl (fun K hK => ?_) AllReadyH.nil
  go_simp
  refine (part_c false gb a2 ga k2 gk c2 gc z2 (ovG z1 z2) _ M6.out G6.out HNE.out N2.out).mono ?_
  rintro e W8 ⟨pb, pa, pk, pc, rfl, hq, bc⟩
  try go_simp
  have J8 := Lib.hid (J6.out.keep bc)
  have hT := J8.out.so
  have P8 := Lib.hid hq
  have Q8 := Lib.hid (Q6.out.below bc)
  refine hK.out _ _ hT (fun _ => ?_)
  clear hK K hS bc J6 hq M6 G6 Q6
  have hS := hT
  clear hT
  try simp only [Act.put, List.setIfInBounds_toArray, List.set_cons_zero, List.set_cons_succ]
  refine wpAnyH_take (i := 6) (v := ?v6z33) rfl (by kernel_rfl) (by kernel_rfl) (by kernel_rfl) (fun _ _ _ h => h) (Or.inl ⟨by rfl, ?hy6z33⟩) (by assumption) ?rest6z33
  case hy6z33 =>
    intro w hSw
    dsimp only [SO] at hSw
    go_simp
    try with_reducible rfl
  simp only [Act.put, List.getElem_toArray, List.getElem_cons_succ, List.getElem_cons_zero, List.setIfInBounds_toArray, List.set_cons_zero, List.set_cons_succ]
  refine wpAnyH_ready (rs := [7]) (by kernel_rfl) (by simp) ?_
  refine AllReadyH.cons rfl (fun K hK => ?_) AllReadyH.nil
  have q0' := J8.out.r.c0
  have q1' := J8.out.r.c1
  have q2' := J8.out.r.c2
  have q3' := J8.out.r.c3
  have g0' := J8.out.r.fr 0
  have g1' := J8.out.r.fr 1
  have g2' := J8.out.r.fr 2
  have g3' := J8.out.r.fr 3
  go_simp
  clear q0' q1' q2' q3' g0' g1' g2' g3'
  have hT := J8.out.done (.bool qb) (.slice qa qk qc) (.bool pb) (.slice pa pk pc)
  have R9 := J8.out.r.set (.bool qb) (.slice qa qk qc) (.bool pb) (.slice pa pk pc)
  have PP : Hid (FrPost (z1.tdiv (ovG z1 z2)) (z2.tdiv (ovG z1 z2)) w (.returned (.agg #[.bool qb, .slice qa qk qc, .bool pb, .slice pa pk pc])) (four W8 (w.heap.size + 1 + 1) (.bool qb) (.slice qa qk qc) (.bool pb) (.slice pa pk pc))) :=
    ⟨_, _, _, _, _, _, _, _, rfl, Q8.out.set4 J8.out.r (NL.b _) (NL.s _ _ _) (NL.b _) (NL.s _ _ _) _ _ _ _, P8.out.set4 J8.out.r (NL.b _) (NL.s _ _ _) (NL.b _) (NL.s _ _ _) _ _ _ _, below_four J8.out.bel (by omega) _ _ _ _⟩
  unfold four at hT R9 PP
  refine hK.out _ _ hT (fun _ => ?_)
  clear hK K hS
  try simp only [Act.put, List.setIfInBounds_toArray, List.set_cons_zero, List.set_cons_succ]
  refine wpAnyH_done (by kernel_rfl) ?_ _
  refine NoPanic.normal ?_
  obtain ⟨r0, r1, r2, r3, _, _⟩ := id R9
  clear hT R9
  go_wp2_with fail
  exact bodyPost_ret (v := .agg #[.bool qb, .slice qa qk qc, .bool pb, .slice pa pk pc]) (by simp [results, Tryz.results24, go_sem, r0, r1, r2, r3]) rfl PP.out
set_option maxRecDepth 100000 in
set_option maxHeartbeats 4000000 in
theorem Over_neg (b1 : Bool) (a1 a2 : Option Addr) (k1 k2 c1 c2 : Nat) (z1 z2 : Int) (w : World) (h1 : Zn w b1 a1 k1 c1 z1) (h2 : Zn w true a2 k2 c2 z2) (hz : z2 ≠ 0) (n1 : z1.natAbs < bp 2000) (n2 : z2.natAbs < bp 2000) :
    Calls Tryz.prog 24 #[.agg #[.bool b1, .slice a1 k1 c1], .agg #[.bool true, .slice a2 k2 c2]] w (FrPost (z1.tdiv (ovG z1 z2)) (z2.tdiv (ovG z1 z2)) w) := by
  obtain ⟨W0, hW0⟩ : ∃ W0, ((w.alloc (.cells #[.bool b1, .slice a1 k1 c1] 44)).alloc (.cells #[.bool true, .slice a2 k2 c2] 44)).alloc (.cells #[.bool false, .slice none 0 0, .bool false, .slice none 0 0] 46) = W0 := ⟨_, rfl⟩
  have s2 : ((w.alloc (.cells #[.bool b1, .slice a1 k1 c1] 44)).alloc (.cells #[.bool true, .slice a2 k2 c2] 44)).heap.size = w.heap.size + 1 + 1 := by simp
  have X0 : B2 W0 w.heap.size (.bool b1) (.slice a1 k1 c1) := by rw [← hW0]; exact ((B2.made w _ _ _).keep (bel_one _ _)).keep (bel_one _ _)
  have Y0 : B2 W0 (w.heap.size + 1) (.bool true) (.slice a2 k2 c2) := by
    have s1 : (w.alloc (.cells #[.bool b1, .slice a1 k1 c1] 44)).heap.size = w.heap.size + 1 := by simp
    rw [← hW0, ← s1]; exact (B2.made _ _ _ _).keep (bel_one _ _)
  have R0 : B4 W0 (w.heap.size + 1 + 1) (.bool false) (.slice none 0 0) (.bool false) (.slice none 0 0) := by rw [← hW0, ← s2]; exact B4.made _ _ _ _ _ _
  have B0 : Below w.heap.size w W0 := by rw [← hW0]; exact (((Below.refl _ _).alloc (Nat.le_refl _) _).alloc (by simp) _).alloc (by simp; omega) _
  have S0 : Hid (w.heap.size + 1 + 1 < W0.heap.size) := by rw [← hW0]; simp [Hid]
  have HB0 := Lib.hid B0
  have HX0 := Lib.hid X0
  have HY0 := Lib.hid Y0
  have HR0 := Lib.hid R0
  have HC := Lib.hid (Common_c b1 true a1 a2 k1 k2 c1 c2 z1 z2 W0 (h1.below B0) (h2.below B0) n1 n2)
  have Z1 := Lib.hid (h1.below B0)
  have Z2 := Lib.hid (h2.below B0)
  have SG := Lib.hid h2.sign
  have N1 := Lib.hid (Nat.lt_of_lt_of_le n1 (bp_mono (show 2000 ≤ 4000 by decide)))
  have N2 := Lib.hid (Nat.lt_of_lt_of_le n2 (bp_mono (show 2000 ≤ 4000 by decide)))
  have HNE := Lib.hid (ovG_ne (n := z1) hz)
  have x0 := X0.c0
  have x1 := X0.c1
  have y0 := Y0.c0
  have y1 := Y0.c1
  clear h1 h2 s2 hz n1 n2 X0 Y0 R0 B0
  go_enter Tryz.func24, Tryz.ntmps24
  go_wp2_with fail
  clear hW0
  clear x0 x1 y0 y1
  refine HC.out.mono ?_
  rintro e w1 ⟨gb, ga, gk, gc, rfl, hg, b1'⟩
  have HG1 := Lib.hid hg
  have BB1 := Lib.hid b1'
  clear hg b1' HC
  obtain ⟨W2, hW2⟩ : ∃ W2, w1.alloc (.cells #[.bool false, .slice none 0 0] 44) = W2 := ⟨_, rfl⟩
  have D2 : B2 W2 w1.heap.size (.bool false) (.slice none 0 0) := by rw [← hW2]; exact B2.made _ _ _ _
  have B2' : Below w1.heap.size w1 W2 := by rw [← hW2]; exact bel_one _ _
  have hb02 : Below W0.heap.size W0 W2 := BB1.out.trans (B2'.mono BB1.out.size)
  have O2 : Ov w w1.heap.size b1 a1 k1 c1 true a2 k2 c2 false none 0 0 W2 := ⟨HX0.out.keep hb02, HY0.out.keep hb02, HR0.out.keep hb02, D2, Nat.lt_of_lt_of_le S0.out BB1.out.size, HB0.out.trans (hb02.mono HB0.out.size)⟩
  obtain ⟨gd, hgd⟩ : ∃ gd, w1.heap.size = gd := ⟨_, rfl⟩
  rw [hgd] at D2 O2
  obtain ⟨W3, hW3⟩ : ∃ W3, two W2 gd (.bool gb) (.slice ga gk gc) = W3 := ⟨_, rfl⟩
  have O3 : Hid (Ov w gd b1 a1 k1 c1 true a2 k2 c2 gb ga gk gc W3) := by rw [← hW3]; exact O2.setD _ _ _ _
  have Z13 : Hid (Zn W3 b1 a1 k1 c1 z1) := by rw [← hW3]; exact (Z1.out.below hb02).set2 D2 _ _
  have Z23 : Hid (Zn W3 true a2 k2 c2 z2) := by rw [← hW3]; exact (Z2.out.below hb02).set2 D2 _ _
  have G3 : Hid (Zn W3 gb ga gk gc (Int.gcd z1 z2)) := by rw [← hW3]; exact (HG1.out.below B2').set2 D2 _ _
  have d0 := D2.c0
  have d1 := D2.c1
  have f0 := D2.fr 0
  have f1 := D2.fr 1
  clear D2 B2' hb02 O2 HX0 HY0 HR0 S0 HB0 Z1 Z2 HG1 BB1
  have yc0W3 := O3.out.y.c0
  have dc0W3 := O3.out.d.c0
  have dc1W3 := O3.out.d.c1
  have df0W3 := O3.out.d.fr 0
  have df1W3 := O3.out.d.fr 1
  unfold two at hW3
  go_wp2_with fail
  clear hW3 hW2 d0 d1 f0 f1
  clear yc0W3 dc0W3 dc1W3 df0W3 df1W3
  clear hgd
  refine (Minus_c gb ga gk gc _ W3 G3.out).mono ?_
  rintro e w4 ⟨hb, ha, hk, hc, rfl, hg4, b4⟩
  have O4 := Lib.hid (O3.out.keep b4)
  have Z14 := Lib.hid (Z13.out.below b4)
  have Z24 := Lib.hid (Z23.out.below b4)
  have HG4 := Lib.hid hg4
  clear hg4 b4 O3 Z13 Z23 G3
  obtain ⟨W5, hW5⟩ : ∃ W5, two w4 gd (.bool hb) (.slice ha hk hc) = W5 := ⟨_, rfl⟩
  have O5 : Hid (Ov w gd b1 a1 k1 c1 true a2 k2 c2 hb ha hk hc W5) := by rw [← hW5]; exact O4.out.setD _ _ _ _
  have Z15 : Hid (Zn W5 b1 a1 k1 c1 z1) := by rw [← hW5]; exact Z14.out.set2 O4.out.d _ _
  have Z25 : Hid (Zn W5 true a2 k2 c2 z2) := by rw [← hW5]; exact Z24.out.set2 O4.out.d _ _
  have G5 : Hid (Zn W5 hb ha hk hc (ovG z1 z2)) := by
    rw [← hW5]
    have e : ovG z1 z2 = -(Int.gcd z1 z2 : Int) := by
      have := SG.out
      unfold ovG
      rw [if_pos (by simpa using this.symm)]
    rw [e]
    exact HG4.out.set2 O4.out.d _ _
  have dc0w4 := O4.out.d.c0
  have dc1w4 := O4.out.d.c1
  have df0w4 := O4.out.d.fr 0
  have df1w4 := O4.out.d.fr 1
  clear O4 Z14 Z24 HG4
  unfold two at hW5
  go_wp2_with fail
  clear hW5
  clear dc0w4 dc1w4 df0w4 df1w4
  refine wp_region_noPanic ?_
  refine wp_region_held_drew (S := SO w.heap.size gd b1 a1 k1 c1 true a2 k2 c2 hb ha hk hc) (by kernel_rfl) (O5.out.keep (Below.refl _ _).drew).so (fun hS => ?_)
  have J1 := Lib.hid (O5.out.keep (Below.refl _ _).drew)
  have M1 := Lib.hid (Z15.out.below (Below.refl _ _).drew)
  have M2 := Lib.hid (Z25.out.below (Below.refl _ _).drew)
  have G1 := Lib.hid (G5.out.below (Below.refl _ _).drew)
  clear O5 Z15 Z25 G5
  refine wpAnyH_take (i := 0) (v := ?v0z34) rfl (by kernel_rfl) (by kernel_rfl) (by kernel_rfl) (fun _ _ _ h => h) (Or.inl ⟨by rfl, ?hy0z34⟩) (by assumption) ?rest0z34
  case hy0z34 =>
    intro w hSw
    dsimp only [SO] at hSw
    go_simp
    try with_reducible rfl
  simp only [Act.put, List.getElem_toArray, List.getElem_cons_succ, List.getElem_cons_zero, List.setIfInBounds_toArray, List.set_cons_zero, List.set_cons_succ]
  refine wpAnyH_take (i := 1) (v := ?v1z35) rfl (by kernel_rfl) (by kernel_rfl) (by kernel_rfl) (fun _ _ _ h => h) (Or.inl ⟨by rfl, ?hy1z35⟩) (by assumption) ?rest1z35
  case hy1z35 =>
    intro w hSw
    dsimp only [SO] at hSw
    go_simp
    try with_reducible rfl
  simp only [Act.put, List.getElem_toArray, List.getElem_cons_succ, List.getElem_cons_zero, List.setIfInBounds_toArray, List.set_cons_zero, List.set_cons_succ]
  refine wpAnyH_take (i := 3) (v := ?v3z36) rfl (by kernel_rfl) (by kernel_rfl) (by kernel_rfl) (fun _ _ _ h => h) (Or.inl ⟨by rfl, ?hy3z36⟩) (by assumption) ?rest3z36
  case hy3z36 =>
    intro w hSw
    dsimp only [SO] at hSw
    go_simp
    try with_reducible rfl
  simp only [Act.put, List.getElem_toArray, List.getElem_cons_succ, List.getElem_cons_zero, List.setIfInBounds_toArray, List.set_cons_zero, List.set_cons_succ]
  refine wpAnyH_take (i := 4) (v := ?v4z37) rfl (by kernel_rfl) (by kernel_rfl) (by kernel_rfl) (fun _ _ _ h => h) (Or.inl ⟨by rfl, ?hy4z37⟩) (by assumption) ?rest4z37
  case hy4z37 =>
    intro w hSw
    dsimp only [SO] at hSw
    go_simp
    try with_reducible rfl
  simp only [Act.put, List.getElem_toArray, List.getElem_cons_succ, List.getElem_cons_zero, List.setIfInBounds_toArray, List.set_cons_zero, List.set_cons_succ]
  refine wpAnyH_ready (rs := [2]) (by kernel_rfl) (by simp) ?_
  refine AllReadyH.cons rfl (fun K hK => ?_) AllReadyH.nil
  go_simp
  refine (part_c b1 hb a1 ha k1 hk c1 hc z1 (ovG z1 z2) _ M1.out G1.out HNE.out N1.out).mono ?_
  rintro e W6 ⟨qb, qa, qk, qc, rfl, hq, bc⟩
  try go_simp
  have J6 := Lib.hid (J1.out.keep bc)
  have hT := J6.out.so
  have Q6 := Lib.hid hq
  have M6 := Lib.hid (M2.out.below bc)
  have G6 := Lib.hid (G1.out.below bc)
  refine hK.out _ _ hT (fun _ => ?_)
  clear hK K hS bc J1 hq M1 M2 G1
  have hS := hT
  clear hT
  try simp only [Act.put, List.setIfInBounds_toArray, List.set_cons_zero, List.set_cons_succ]
  refine wpAnyH_ready (rs := [5]) (by kernel_rfl) (by simp) ?_
  refine AllReadyH.cons rfl (fun K hK => ?_) AllReadyH.nil
  go_simp
  refine (part_c true hb a2 ha k2 hk c2 hc z2 (ovG z1 z2) _ M6.out G6.out HNE.out N2.out).mono ?_
  rintro e W8 ⟨pb, pa, pk, pc, rfl, hq, bc⟩
  try go_simp
  have J8 := Lib.hid (J6.out.keep bc)
  have hT := J8.out.so
  have P8 := Lib.hid hq
  have Q8 := Lib.hid (Q6.out.below bc)
  refine hK.out _ _ hT (fun _ => ?_)
  clear hK K hS bc J6 hq M6 G6 Q6
  have hS := hT
  clear hT
  try simp only [Act.put, List.setIfInBounds_toArray, List.set_cons_zero, List.set_cons_succ]
  refine wpAnyH_take (i := 6) (v := ?v6z38) rfl (by kernel_rfl) (by kernel_rfl) (by kernel_rfl) (fun _ _ _ h => h) (Or.inl ⟨by rfl, ?hy6z38⟩) (by assumption) ?rest6z38
  case hy6z38 =>
    intro w hSw
    dsimp only [SO] at hSw
    go_simp
    try with_reducible rfl
  simp only [Act.put, List.getElem_toArray, List.getElem_cons_succ, List.getElem_cons_zero, List.setIfInBounds_toArray, List.set_cons_zero, List.set_cons_succ]
  refine wpAnyH_ready (rs := [7]) (by kernel_rfl) (by simp) ?_
  refine AllReadyH.cons rfl (fun K hK => ?_) AllReadyH.nil
  have q0' := J8.out.r.c0
  have q1' := J8.out.r.c1
  have q2' := J8.out.r.c2
  have q3' := J8.out.r.c3
  have g0' := J8.out.r.fr 0
  have g1' := J8.out.r.fr 1
  have g2' := J8.out.r.fr 2
  have g3' := J8.out.r.fr 3
  go_simp
  clear q0' q1' q2' q3' g0' g1' g2' g3'
  have hT := J8.out.done (.bool qb) (.slice qa qk qc) (.bool pb) (.slice pa pk pc)
  have R9 := J8.out.r.set (.bool qb) (.slice qa qk qc) (.bool pb) (.slice pa pk pc)
  have PP : Hid (FrPost (z1.tdiv (ovG z1 z2)) (z2.tdiv (ovG z1 z2)) w (.returned (.agg #[.bool qb, .slice qa qk qc, .bool pb, .slice pa pk pc])) (four W8 (w.heap.size + 1 + 1) (.bool qb) (.slice qa qk qc) (.bool pb) (.slice pa pk pc))) :=
    ⟨_, _, _, _, _, _, _, _, rfl, Q8.out.set4 J8.out.r (NL.b _) (NL.s _ _ _) (NL.b _) (NL.s _ _ _) _ _ _ _, P8.out.set4 J8.out.r (NL.b _) (NL.s _ _ _) (NL.b _) (NL.s _ _ _) _ _ _ _, below_four J8.out.bel (by omega) _ _ _ _⟩
  unfold four at hT R9 PP
  refine hK.out _ _ hT (fun _ => ?_)
  clear hK K hS
  try simp only [Act.put, List.setIfInBounds_toArray, List.set_cons_zero, List.set_cons_succ]
  refine wpAnyH_done (by kernel_rfl) ?_ _
  refine NoPanic.normal ?_
  obtain ⟨r0, r1, r2, r3, _, _⟩ := id R9
  clear hT R9
  go_wp2_with fail
  exact bodyPost_ret (v := .agg #[.bool qb, .slice qa qk qc, .bool pb, .slice pa pk pc]) (by simp [results, Tryz.results24, go_sem, r0, r1, r2, r3]) rfl PP.out
theorem Over_c (b1 b2 : Bool) (a1 a2 : Option Addr) (k1 k2 c1 c2 : Nat) (z1 z2 : Int) (w : World) (h1 : Zn w b1 a1 k1 c1 z1) (h2 : Zn w b2 a2 k2 c2 z2) (hz : z2 ≠ 0) (n1 : z1.natAbs < bp 2000) (n2 : z2.natAbs < bp 2000) :
    Calls Tryz.prog 24 #[.agg #[.bool b1, .slice a1 k1 c1], .agg #[.bool b2, .slice a2 k2 c2]] w (FrPost (z1.tdiv (ovG z1 z2)) (z2.tdiv (ovG z1 z2)) w) := by
  cases b2
  · exact Over_pos b1 a1 a2 k1 k2 c1 c2 z1 z2 w h1 h2 hz n1 n2
  · exact Over_neg b1 a1 a2 k1 k2 c1 c2 z1 z2 w h1 h2 hz n1 n2
end Go.Proofs.YtfijhkaalpinhaaGreatDoor
namespace Go.Proofs.YtfijhkaalpinhaaGreatDoor
open Go.RowKit

set_option maxRecDepth 100000 in
set_option maxHeartbeats 4000000 in
theorem ratioOf_c (b1 : Bool) (a1 : Option Addr) (k1 c1 : Nat) (b2 : Bool) (a2 : Option Addr) (k2 c2 : Nat) (x y : Int) (w : World) (h1 : Zn w b1 a1 k1 c1 x) (h2 : Zn w b2 a2 k2 c2 y) (hx : x.natAbs < bp 2000) (hy : y.natAbs < bp 2000) (hp : 0 < y) :
    Calls Tryz.prog 23 #[.agg #[.bool b1, .slice a1 k1 c1, .bool b2, .slice a2 k2 c2]] w (RaPost x y w) := by
  obtain ⟨W0, hW0⟩ : ∃ W0, (w.alloc (.cells #[.bool b1, .slice a1 k1 c1, .bool b2, .slice a2 k2 c2] 46)).alloc (.cells #[.string ⟨#[]⟩, .string ⟨#[]⟩] 23) = W0 := ⟨_, rfl⟩
  have J0 : Hid (Rb w b1 a1 k1 c1 b2 a2 k2 c2 W0) := by
    have s1 : (w.alloc (.cells #[.bool b1, .slice a1 k1 c1, .bool b2, .slice a2 k2 c2] 46)).heap.size = w.heap.size + 1 := by simp
    rw [← hW0]
    refine ⟨(B4.made w _ _ _ _ _).keep (bel_one _ _), ?_, ((Below.refl _ _).alloc (Nat.le_refl _) _).alloc (by simp) _⟩
    rw [← s1]; exact B2.made _ _ _ _
  obtain ⟨u, hu⟩ : ∃ u : ByteArray, u = ⟨(Lib.decDigits x.natAbs).toArray⟩ := ⟨_, rfl⟩
  have hus : u.size = (Lib.decDigits x.natAbs).length := by rw [hu]; simp [ByteArray.size]
  have hts : (tzB y).size = (Lib.decDigits y.natAbs).length := by
    have e : tz y = Lib.decDigits y.natAbs := by unfold tz; rw [if_neg (by omega)]
    unfold tzB
    rw [e]
    simp [ByteArray.size]
  have HTP : Hid (∀ w, Calls Tryz.prog 29 #[.string (tzB x), .string ⟨#[45]⟩] w fun e w' => e = .returned (.string u) ∧ w = w') := fun w => (Tryz.strings_TrimPrefix (tzB x) ⟨#[45]⟩ w).mono fun e w' ⟨he, hw⟩ => ⟨by
    rw [he, hu]
    have e2 : Lib.trimPrefix (tzB x).data.toList (⟨#[45]⟩ : ByteArray).data.toList = Lib.decDigits x.natAbs := trim_tz x
    rw [e2], hw.symm⟩
  have HFT : Hid (fits x y = (decide (u.size ≤ 2000) && decide ((tzB y).size ≤ 2000))) := by unfold Hid fits; rw [hus, hts]
  have M1 := Lib.hid (fun W (h : Rb w b1 a1 k1 c1 b2 a2 k2 c2 W) => Text_c b1 a1 k1 c1 x W (h1.below h.bel) hx)
  have M2 := Lib.hid (fun W (h : Rb w b1 a1 k1 c1 b2 a2 k2 c2 W) => Text_c b2 a2 k2 c2 y W (h2.below h.bel) hy)
  clear h1 h2 hx hy hp hu hus hts
  go_enter Tryz.func23, Tryz.ntmps23
  go_wp2_with fail
  clear hW0
  refine wp_region_noPanic ?_
  refine wp_region_held_drew (S := SR w.heap.size b1 a1 k1 c1 b2 a2 k2 c2) (by kernel_rfl) (J0.out.keep (Below.refl _ _).drew).si (fun hS => ?_)
  have J1 := Lib.hid (J0.out.keep (Below.refl _ _).drew)
  clear J0
  refine wpAnyH_take (i := 0) (v := ?v0z29) rfl (by kernel_rfl) (by kernel_rfl) (by kernel_rfl) (fun _ _ _ h => h) (Or.inl ⟨by rfl, ?hy0z29⟩) (by assumption) ?rest0z29
  case hy0z29 =>
    intro w hSw
    dsimp only [SR] at hSw
    go_simp
    try with_reducible rfl
  simp only [Act.put, List.getElem_toArray, List.getElem_cons_succ, List.getElem_cons_zero, List.setIfInBounds_toArray, List.set_cons_zero, List.set_cons_succ]
  refine wpAnyH_take (i := 1) (v := ?v1z30) rfl (by kernel_rfl) (by kernel_rfl) (by kernel_rfl) (fun _ _ _ h => h) (Or.inl ⟨by rfl, ?hy1z30⟩) (by assumption) ?rest1z30
  case hy1z30 =>
    intro w hSw
    dsimp only [SR] at hSw
    go_simp
    try with_reducible rfl
  simp only [Act.put, List.getElem_toArray, List.getElem_cons_succ, List.getElem_cons_zero, List.setIfInBounds_toArray, List.set_cons_zero, List.set_cons_succ]
  refine wpAnyH_take (i := 3) (v := ?v3z31) rfl (by kernel_rfl) (by kernel_rfl) (by kernel_rfl) (fun _ _ _ h => h) (Or.inl ⟨by rfl, ?hy3z31⟩) (by assumption) ?rest3z31
  case hy3z31 =>
    intro w hSw
    dsimp only [SR] at hSw
    go_simp
    try with_reducible rfl
  simp only [Act.put, List.getElem_toArray, List.getElem_cons_succ, List.getElem_cons_zero, List.setIfInBounds_toArray, List.set_cons_zero, List.set_cons_succ]
  refine wpAnyH_take (i := 4) (v := ?v4z32) rfl (by kernel_rfl) (by kernel_rfl) (by kernel_rfl) (fun _ _ _ h => h) (Or.inl ⟨by rfl, ?hy4z32⟩) (by assumption) ?rest4z32
  case hy4z32 =>
    intro w hSw
    dsimp only [SR] at hSw
    go_simp
    try with_reducible rfl
  simp only [Act.put, List.getElem_toArray, List.getElem_cons_succ, List.getElem_cons_zero, List.setIfInBounds_toArray, List.set_cons_zero, List.set_cons_succ]
  refine wpAnyH_ready (rs := [2]) (by kernel_rfl) (by simp) ?_
  refine AllReadyH.cons rfl (fun K hK => ?_) AllReadyH.nil
  go_simp
  refine (M1.out _ J1.out).mono ?_
  rintro e W3 ⟨rfl, bc⟩
  try go_simp
  have J3 := Lib.hid (J1.out.keep bc)
  have hT := J3.out.si
  refine hK.out _ _ hT (fun _ => ?_)
  clear hK K hS bc J1 
  have hS := hT
  clear hT
  try simp only [Act.put, List.setIfInBounds_toArray, List.set_cons_zero, List.set_cons_succ]
  refine wpAnyH_ready (rs := [5]) (by kernel_rfl) (by simp) ?_
  refine AllReadyH.cons rfl (fun K hK => ?_) AllReadyH.nil
  go_simp
  refine (M2.out _ J3.out).mono ?_
  rintro e W4 ⟨rfl, bc⟩
  try go_simp
  have J4 := Lib.hid (J3.out.keep bc)
  have hT := J4.out.si
  refine hK.out _ _ hT (fun _ => ?_)
  clear hK K hS bc J3 
  have hS := hT
  clear hT
  try simp only [Act.put, List.setIfInBounds_toArray, List.set_cons_zero, List.set_cons_succ]
  refine wpAnyH_take (i := 6) (v := ?v6z33) rfl (by kernel_rfl) (by kernel_rfl) (by kernel_rfl) (fun _ _ _ h => h) (Or.inl ⟨by rfl, ?hy6z33⟩) (by assumption) ?rest6z33
  case hy6z33 =>
    intro w hSw
    dsimp only [SR] at hSw
    go_simp
    try with_reducible rfl
  simp only [Act.put, List.getElem_toArray, List.getElem_cons_succ, List.getElem_cons_zero, List.setIfInBounds_toArray, List.set_cons_zero, List.set_cons_succ]
  refine wpAnyH_take (i := 7) (v := ?v7z34) rfl (by kernel_rfl) (by kernel_rfl) (by kernel_rfl) (fun _ _ _ h => h) (Or.inl ⟨by rfl, ?hy7z34⟩) (by assumption) ?rest7z34
  case hy7z34 =>
    intro w hSw
    dsimp only [SR] at hSw
    go_simp
    try with_reducible rfl
  simp only [Act.put, List.getElem_toArray, List.getElem_cons_succ, List.getElem_cons_zero, List.setIfInBounds_toArray, List.set_cons_zero, List.set_cons_succ]
  refine wpAnyH_done (by kernel_rfl) ?_ _
  refine NoPanic.normal ?_
  clear hS M1 M2
  generalize hty : tzB y = ty at *
  generalize htx : tzB x = tx at *
  by_cases hf : fits x y = true
  · have HRA : Hid (ra x y = (tx, ty, 0)) := by unfold Hid ra; rw [if_pos hf, htx, hty]
    have h1 : u.size ≤ 2000 ∧ ty.size ≤ 2000 := by rw [HFT.out] at hf; simpa using hf
    have i1 : ¬ (2000 : Int) < (u.size : Int) := by omega
    have i2 : ¬ (2000 : Int) < (ty.size : Int) := by omega
    clear hf HFT h1 hty htx
    obtain ⟨W9, hW9⟩ : ∃ W9, two W4 (w.heap.size + 1) (.string tx) (.string ty) = W9 := ⟨_, rfl⟩
    have R9 : B2 W9 (w.heap.size + 1) (.string tx) (.string ty) := by rw [← hW9]; exact J4.out.r.set _ _
    have PP : Hid (RaPost x y w (.returned (.tuple #[.agg #[.string tx, .string ty], .int .i64 0])) W9) := by
      rw [← hW9]
      exact ⟨by rw [HRA.out], below_two J4.out.bel (Nat.le_succ _) _ _⟩
    have q0 := J4.out.r.c0
    have q1 := J4.out.r.c1
    have g0 := J4.out.r.fr 0
    have g1 := J4.out.r.fr 1
    obtain ⟨r0, r1, _, _⟩ := id R9
    unfold two at hW9
    clear R9
    go_wp2_with (go_at_call 29; refine (HTP.out _).mono ?_; rintro e w' ⟨rfl, rfl⟩)
    exact bodyPost_ret (v := .tuple #[.agg #[.string tx, .string ty], .int .i64 0]) (by simp [results, Tryz.results23, go_sem, r0, r1]) rfl PP.out
  · have HRA : Hid (ra x y = (⟨#[]⟩, ⟨#[]⟩, 2)) := by unfold Hid ra; rw [if_neg hf]
    have h1 : 2000 < u.size ∨ (u.size ≤ 2000 ∧ 2000 < ty.size) := by rw [HFT.out] at hf; simp at hf; omega
    clear hf HFT hty htx
    rcases h1 with h | ⟨h, h'⟩
    · have i1 : (2000 : Int) < (u.size : Int) := by omega
      obtain ⟨W9, hW9⟩ : ∃ W9, two W4 (w.heap.size + 1) (.string ⟨#[]⟩) (.string ⟨#[]⟩) = W9 := ⟨_, rfl⟩
      have R9 : B2 W9 (w.heap.size + 1) (.string ⟨#[]⟩) (.string ⟨#[]⟩) := by rw [← hW9]; exact J4.out.r.set _ _
      have PP : Hid (RaPost x y w (.returned (.tuple #[.agg #[.string ⟨#[]⟩, .string ⟨#[]⟩], .int .i64 2])) W9) := by
        rw [← hW9]
        exact ⟨by rw [HRA.out], below_two J4.out.bel (Nat.le_succ _) _ _⟩
      have q0 := J4.out.r.c0
      have q1 := J4.out.r.c1
      have g0 := J4.out.r.fr 0
      have g1 := J4.out.r.fr 1
      obtain ⟨r0, r1, _, _⟩ := id R9
      unfold two at hW9
      clear R9
      go_wp2_with (go_at_call 29; refine (HTP.out _).mono ?_; rintro e w' ⟨rfl, rfl⟩)
      exact bodyPost_ret (v := .tuple #[.agg #[.string ⟨#[]⟩, .string ⟨#[]⟩], .int .i64 2]) (by simp [results, Tryz.results23, go_sem, r0, r1]) rfl PP.out
    · have i1 : ¬ (2000 : Int) < (u.size : Int) := by omega
      have i2 : (2000 : Int) < (ty.size : Int) := by omega
      obtain ⟨W9, hW9⟩ : ∃ W9, two W4 (w.heap.size + 1) (.string ⟨#[]⟩) (.string ⟨#[]⟩) = W9 := ⟨_, rfl⟩
      have R9 : B2 W9 (w.heap.size + 1) (.string ⟨#[]⟩) (.string ⟨#[]⟩) := by rw [← hW9]; exact J4.out.r.set _ _
      have PP : Hid (RaPost x y w (.returned (.tuple #[.agg #[.string ⟨#[]⟩, .string ⟨#[]⟩], .int .i64 2])) W9) := by
        rw [← hW9]
        exact ⟨by rw [HRA.out], below_two J4.out.bel (Nat.le_succ _) _ _⟩
      have q0 := J4.out.r.c0
      have q1 := J4.out.r.c1
      have g0 := J4.out.r.fr 0
      have g1 := J4.out.r.fr 1
      obtain ⟨r0, r1, _, _⟩ := id R9
      unfold two at hW9
      clear R9
      go_wp2_with (go_at_call 29; refine (HTP.out _).mono ?_; rintro e w' ⟨rfl, rfl⟩)
      exact bodyPost_ret (v := .tuple #[.agg #[.string ⟨#[]⟩, .string ⟨#[]⟩], .int .i64 2]) (by simp [results, Tryz.results23, go_sem, r0, r1]) rfl PP.out
end Go.Proofs.YtfijhkaalpinhaaGreatDoor
namespace Go.Proofs.YtfijhkaalpinhaaGreatDoor

theorem cop_dvd {a b c : Nat} (h : Nat.gcd a b = 1) (hd : a ∣ b * c) : a ∣ c := Nat.Coprime.dvd_of_dvd_mul_left h hd
/-- A fraction in lowest terms is one alone. -/
theorem low_eq {p q p' q' : Int} (hq : 0 < q) (hq' : 0 < q') (h1 : Int.gcd p q = 1) (h2 : Int.gcd p' q' = 1) (h : p * q' = p' * q) : p = p' ∧ q = q' := by
  have e : p.natAbs * q'.natAbs = p'.natAbs * q.natAbs := by rw [← Int.natAbs_mul, h, Int.natAbs_mul]
  have g1 : Nat.gcd q.natAbs p.natAbs = 1 := by rw [Nat.gcd_comm]; exact h1
  have g2 : Nat.gcd q'.natAbs p'.natAbs = 1 := by rw [Nat.gcd_comm]; exact h2
  have d1 : q.natAbs ∣ q'.natAbs := cop_dvd g1 (by rw [e]; exact Nat.dvd_mul_left _ _)
  have d2 : q'.natAbs ∣ q.natAbs := cop_dvd g2 (by rw [← e]; exact Nat.dvd_mul_left _ _)
  have e2 : q.natAbs = q'.natAbs := Nat.dvd_antisymm d1 d2
  have e3 : q = q' := by omega
  subst e3
  exact ⟨Int.eq_of_mul_eq_mul_right (by omega) h, rfl⟩
/-- What the lowest terms of a fraction are. -/
structure Low (n d p q : Int) : Prop where
  pos : 0 < q
  one : Int.gcd p q = 1
  eq : p * d = n * q
theorem red_low {n d : Int} (h : d ≠ 0) : Low n d (red n d).1 (red n d).2 := by
  have hp := red_pos (n := n) h
  have hg : 0 < Int.gcd n d := Int.gcd_pos_of_ne_zero_right n h
  have hgn : ovG n d ≠ 0 := ovG_ne h
  have habs := ovG_abs n d
  have hdn : ovG n d ∣ n := by rw [← Int.natAbs_dvd, habs]; exact Int.gcd_dvd_left n d
  have hdd : ovG n d ∣ d := by rw [← Int.natAbs_dvd, habs]; exact Int.gcd_dvd_right n d
  refine ⟨hp, ?_, ?_⟩
  · show Nat.gcd (n.tdiv (ovG n d)).natAbs (d.tdiv (ovG n d)).natAbs = 1
    rw [Int.natAbs_tdiv, Int.natAbs_tdiv, habs]
    have hg2 : 0 < Nat.gcd n.natAbs d.natAbs := hg
    show Nat.gcd (n.natAbs / Nat.gcd n.natAbs d.natAbs) (d.natAbs / Nat.gcd n.natAbs d.natAbs) = 1
    rw [Nat.gcd_div (Nat.gcd_dvd_left _ _) (Nat.gcd_dvd_right _ _), Nat.div_self hg2]
  · show n.tdiv (ovG n d) * d = n * d.tdiv (ovG n d)
    have a := Int.tdiv_mul_cancel hdn
    have b := Int.tdiv_mul_cancel hdd
    generalize n.tdiv (ovG n d) = u at *
    generalize d.tdiv (ovG n d) = v at *
    generalize ovG n d = g at *
    rw [← a, ← b, Int.mul_assoc, Int.mul_comm g v]
theorem red_eq {n d n' d' : Int} (h : d ≠ 0) (h' : d' ≠ 0) (e : n * d' = n' * d) : red n d = red n' d' := by
  have l := red_low (n := n) h
  have l' := red_low (n := n') h'
  generalize red n d = r at *
  generalize red n' d' = r' at *
  have hx : r.1 * r'.2 = r'.1 * r.2 := by
    have a := l.eq
    have b := l'.eq
    have t : (r.1 * r'.2) * (d * d') = (r'.1 * r.2) * (d * d') := by
      have c1 : (r.1 * r'.2) * (d * d') = (r.1 * d) * (d' * r'.2) := by grind
      have c2 : (r'.1 * r.2) * (d * d') = (r'.1 * d') * (d * r.2) := by grind
      rw [c1, c2, a, b]
      have c3 : n * r.2 * (d' * r'.2) = (n * d') * (r.2 * r'.2) := by grind
      have c4 : n' * r'.2 * (d * r.2) = (n' * d) * (r.2 * r'.2) := by grind
      rw [c3, c4, e]
    exact Int.eq_of_mul_eq_mul_right (Int.mul_ne_zero h h') t
  have := low_eq l.pos l'.pos l.one l'.one hx
  exact Prod.ext this.1 this.2
/-- A fraction in lowest terms is written as it is. -/
theorem raR_low {x y : Int} (hy : 0 < y) (h : Int.gcd x y = 1) : raR x y = ra x y := by
  have l := red_low (n := x) (d := y) (by omega)
  have e := low_eq l.pos hy l.one h l.eq
  unfold raR
  rw [e.1, e.2]
/-- Equal fractions are written alike. -/
theorem raR_eq {n d n' d' : Int} (h : d ≠ 0) (h' : d' ≠ 0) (e : n * d' = n' * d) : raR n d = raR n' d' := by
  unfold raR
  rw [red_eq h h' e]
end Go.Proofs.YtfijhkaalpinhaaGreatDoor
