/-
  The nearest whole number: Nearest of package whole, nearest of the reference.
  Rounding ratios in package value: roundedTo, Rounded.
-/
import Derived.Test.YtfijhkaalpinhaaGreatDoorRn18
namespace Go.Proofs.YtfijhkaalpinhaaGreatDoor
open Go.RowKit

/-- Where Nearest is: its arguments, the quotient, the rest's size. -/
structure Nr (w : World) (g h : Nat) (b1 : Bool) (a1 : Option Addr) (k1 c1 : Nat) (b2 : Bool) (a2 : Option Addr) (k2 c2 : Nat) (qb : Bool) (qa : Option Addr) (qk qc : Nat) (ra : Option Addr) (rk rc : Nat) (u v : Int) (W : World) : Prop where
  j : I3 w b1 a1 k1 c1 b2 a2 k2 c2 W
  q : B2 W g (.bool qb) (.slice qa qk qc)
  z : B2 W h (.bool false) (.slice ra rk rc)
  n : Zn W b1 a1 k1 c1 u
  d : Zn W b2 a2 k2 c2 v
  qq : Zn W qb qa qk qc (u.tdiv v)
  rr : Zn W false ra rk rc ((u.tmod v).natAbs : Int)
  lg : w.heap.size + 1 + 1 < g
  lh : w.heap.size + 1 + 1 < h
theorem Nr.keep {w : World} {g h : Nat} {b1 : Bool} {a1 : Option Addr} {k1 c1 : Nat} {b2 : Bool} {a2 : Option Addr} {k2 c2 : Nat} {qb : Bool} {qa : Option Addr} {qk qc : Nat} {ra : Option Addr} {rk rc : Nat} {u v : Int} {W W' : World} (t : Nr w g h b1 a1 k1 c1 b2 a2 k2 c2 qb qa qk qc ra rk rc u v W) (hb : Below W.heap.size W W') : Nr w g h b1 a1 k1 c1 b2 a2 k2 c2 qb qa qk qc ra rk rc u v W' :=
  ⟨t.j.keep hb, t.q.keep hb, t.z.keep hb, t.n.below hb, t.d.below hb, t.qq.below hb, t.rr.below hb, t.lg, t.lh⟩
/-- What the regions read. -/
def S8m (o g h : Nat) (b1 : Bool) (a1 : Option Addr) (k1 c1 : Nat) (b2 : Bool) (a2 : Option Addr) (k2 c2 : Nat) (qb : Bool) (qa : Option Addr) (qk qc : Nat) (ra : Option Addr) (rk rc : Nat) (W : World) : Prop :=
  W.cell? ⟨o, 0, none⟩ = some (.bool b1) ∧ W.cell? ⟨o, 1, none⟩ = some (.slice a1 k1 c1) ∧ W.cell? ⟨o + 1, 0, none⟩ = some (.bool b2) ∧ W.cell? ⟨o + 1, 1, none⟩ = some (.slice a2 k2 c2) ∧
  W.cell? ⟨g, 0, none⟩ = some (.bool qb) ∧ W.cell? ⟨g, 1, none⟩ = some (.slice qa qk qc) ∧ W.cell? ⟨h, 0, none⟩ = some (.bool false) ∧ W.cell? ⟨h, 1, none⟩ = some (.slice ra rk rc)
theorem Nr.s8 {w : World} {g h : Nat} {b1 : Bool} {a1 : Option Addr} {k1 c1 : Nat} {b2 : Bool} {a2 : Option Addr} {k2 c2 : Nat} {qb : Bool} {qa : Option Addr} {qk qc : Nat} {ra : Option Addr} {rk rc : Nat} {u v : Int} {W : World} (t : Nr w g h b1 a1 k1 c1 b2 a2 k2 c2 qb qa qk qc ra rk rc u v W) : S8m w.heap.size g h b1 a1 k1 c1 b2 a2 k2 c2 qb qa qk qc ra rk rc W :=
  ⟨t.j.x.c0, t.j.x.c1, t.j.y.c0, t.j.y.c1, t.q.c0, t.q.c1, t.z.c0, t.z.c1⟩
theorem Nr.done {w : World} {g h : Nat} {b1 : Bool} {a1 : Option Addr} {k1 c1 : Nat} {b2 : Bool} {a2 : Option Addr} {k2 c2 : Nat} {qb : Bool} {qa : Option Addr} {qk qc : Nat} {ra : Option Addr} {rk rc : Nat} {u v : Int} {W : World} (t : Nr w g h b1 a1 k1 c1 b2 a2 k2 c2 qb qa qk qc ra rk rc u v W) (y0 y1 : Value) : S8m w.heap.size g h b1 a1 k1 c1 b2 a2 k2 c2 qb qa qk qc ra rk rc (two W (w.heap.size + 1 + 1) y0 y1) := by
  have lg := t.lg
  have lh := t.lh
  exact ⟨(t.j.x.other (by omega) _ _).c0, (t.j.x.other (by omega) _ _).c1, (t.j.y.other (by omega) _ _).c0, (t.j.y.other (by omega) _ _).c1, (t.q.other (by omega) _ _).c0, (t.q.other (by omega) _ _).c1, (t.z.other (by omega) _ _).c0, (t.z.other (by omega) _ _).c1⟩
theorem Zn.size {W : World} {b : Bool} {a : Option Addr} {k c : Nat} {z : Int} (h : Zn W b a k c z) : Zn W false a k c (z.natAbs : Int) := ⟨z.natAbs, h.nm, (fun e => nomatch e), (zv_false _).symm⟩
theorem zcmp_lt {x y : Int} (h : x < y) : zcmp x y < 0 := by unfold zcmp; rw [if_pos h]; decide
theorem zcmp_ge {x y : Int} (h : ¬ x < y) : ¬ zcmp x y < 0 := by unfold zcmp; rw [if_neg h]; split <;> decide
set_option maxRecDepth 100000 in
set_option maxHeartbeats 4000000 in
theorem near_c (b1 b2 : Bool) (a1 a2 : Option Addr) (k1 k2 c1 c2 : Nat) (u v : Int) (w : World) (hn : Zn w b1 a1 k1 c1 u) (hd : Zn w b2 a2 k2 c2 v) (hv : 0 < v) (ub : u.natAbs < bp 1000) (vb : v.natAbs < bp 1000) :
    Calls Tryz.prog 100 #[.agg #[.bool b1, .slice a1 k1 c1], .agg #[.bool b2, .slice a2 k2 c2]] w (ZPost (nZ u v) w) := by
  obtain ⟨W0, hW0⟩ : ∃ W0, ((w.alloc (.cells #[.bool b1, .slice a1 k1 c1] 44)).alloc (.cells #[.bool b2, .slice a2 k2 c2] 44)).alloc (.cells #[.bool false, .slice none 0 0] 44) = W0 := ⟨_, rfl⟩
  have J0 : Hid (I3 w b1 a1 k1 c1 b2 a2 k2 c2 W0) := by rw [← hW0]; exact I3.made _ _ _ _ _ _ _ _ _ _ _ _
  have N0 := Lib.hid (hn.below J0.out.bel)
  have D0 := Lib.hid (hd.below J0.out.bel)
  have HV := Lib.hid hv
  have UB := Lib.hid ub
  have VB := Lib.hid vb
  have HDV := Lib.hid (Divide_c b1 b2 a1 a2 k1 k2 c1 c2 u v W0 N0.out D0.out (by omega) (Nat.lt_of_lt_of_le ub (bp_mono (by decide))))
  have x0 := J0.out.x.c0
  have x1 := J0.out.x.c1
  have y0 := J0.out.y.c0
  have y1 := J0.out.y.c1
  clear hn hd hv ub vb
  go_enter Tryz.func100, Tryz.ntmps100
  go_wp2_with fail
  clear hW0 x0 x1 y0 y1
  (refine HDV.out.mono ?_)
  rintro e w1 ⟨qb, qa, qk, qc, rb, ra, rk, rc, rfl, hq, hr, b1'⟩
  obtain ⟨WA, hWA⟩ : ∃ WA, (w1.alloc (.cells #[.bool false, .slice none 0 0] 44)).alloc (.cells #[.bool false, .slice none 0 0] 44) = WA := ⟨_, rfl⟩
  have s1 : (w1.alloc (.cells #[.bool false, .slice none 0 0] 44)).heap.size = w1.heap.size + 1 := by simp
  have D1 : B2 WA w1.heap.size (.bool false) (.slice none 0 0) := by rw [← hWA]; exact (B2.made _ _ _ _).keep (bel_one _ _)
  have D2 : B2 WA (w1.heap.size + 1) (.bool false) (.slice none 0 0) := by rw [← hWA, ← s1]; exact B2.made _ _ _ _
  obtain ⟨WB, hWB⟩ : ∃ W, two (two WA w1.heap.size (.bool qb) (.slice qa qk qc)) (w1.heap.size + 1) (.bool rb) (.slice ra rk rc) = W := ⟨_, rfl⟩
  have hb : Below w1.heap.size w1 WB := by
    rw [← hWB]
    exact below_two (below_two (by rw [← hWA]; exact ((Below.refl _ _).alloc (Nat.le_refl _) _).alloc (by simp) _) (Nat.le_refl _) _ _) (by omega) _ _
  have hc := b1'.trans (hb.mono b1'.size)
  have JB := Lib.hid (J0.out.keep hc)
  have NB := Lib.hid (N0.out.below hc)
  have DB := Lib.hid (D0.out.below hc)
  have QB : Hid (B2 WB w1.heap.size (.bool qb) (.slice qa qk qc)) := by rw [← hWB]; exact (D1.set _ _).other (by omega) _ _
  have RB : B2 WB (w1.heap.size + 1) (.bool rb) (.slice ra rk rc) := by rw [← hWB]; exact (D2.other (by omega) _ _).set _ _
  have QN := Lib.hid (hq.below hb)
  have RN := Lib.hid ((hr.below hb).size)
  have LG : Hid (w.heap.size + 1 + 1 < w1.heap.size) := Nat.lt_of_lt_of_le J0.out.r.lt b1'.size
  have HS := Lib.hid (Size_c rb ra rk rc WB)
  have a0 := D1.c0
  have a1' := D1.c1
  have af0 := D1.fr 0
  have af1 := D1.fr 1
  have b0 := D2.c0
  have b1'' := D2.c1
  have bf0 := D2.fr 0
  have bf1 := D2.fr 1
  have t0 := RB.c0
  have t1 := RB.c1
  unfold two at hWB
  clear D1 D2 s1 hb hc hq hr b1' N0 D0 HDV RB J0
  go_wp2_with fail
  clear hWA hWB a0 a1' af0 af1 b0 b1'' bf0 bf1 t0 t1
  generalize w1.heap.size = g at *
  (refine HS.out.mono ?_)
  rintro e V2 ⟨rfl, b2'⟩
  obtain ⟨V3, hV3⟩ : ∃ W, V2.alloc (.cells #[.bool false, .slice none 0 0] 44) = W := ⟨_, rfl⟩
  have E3 : B2 V3 V2.heap.size (.bool false) (.slice none 0 0) := by rw [← hV3]; exact B2.made _ _ _ _
  have b3 : Below V2.heap.size V2 V3 := by rw [← hV3]; exact bel_one _ _
  have hb3 := b2'.trans (b3.mono b2'.size)
  obtain ⟨h, hh⟩ : ∃ h, V2.heap.size = h := ⟨_, rfl⟩
  rw [hh] at E3
  have LH : Hid (w.heap.size + 1 + 1 < h) := by rw [← hh]; exact Nat.lt_of_lt_of_le JB.out.r.lt b2'.size
  have GH : Hid (g < h) := by rw [← hh]; exact Nat.lt_of_lt_of_le QB.out.lt b2'.size
  obtain ⟨V4, hV4⟩ : ∃ W, two V3 h (.bool false) (.slice ra rk rc) = W := ⟨_, rfl⟩
  have JN : Hid (Nr w g h b1 a1 k1 c1 b2 a2 k2 c2 qb qa qk qc ra rk rc u v V4) := by
    rw [← hV4]
    have jj := JB.out.keep hb3
    have lh := LH.out
    have gh := GH.out
    exact ⟨⟨jj.x.other (by omega) _ _, jj.y.other (by omega) _ _, jj.r.other (by omega) _ _, below_two jj.bel (by omega) _ _⟩, (QB.out.keep hb3).other (by omega) _ _, E3.set _ _, (NB.out.below hb3).set2 E3 _ _, (DB.out.below hb3).set2 E3 _ _, (QN.out.below hb3).set2 E3 _ _, (RN.out.below hb3).set2 E3 _ _, LG.out, lh⟩
  have z0 := E3.c0
  have z1 := E3.c1
  have zf0 := E3.fr 0
  have zf1 := E3.fr 1
  unfold two at hV4
  clear E3 b3 hb3 b2' JB NB DB QB QN RN HS LG GH LH
  go_wp2_with fail
  clear hV4 hV3 hh z0 z1 zf0 zf1
  refine wp_region_noPanic ?_
  refine wp_region_held_drew (S := S8m w.heap.size g h b1 a1 k1 c1 b2 a2 k2 c2 qb qa qk qc ra rk rc) (by kernel_rfl) (JN.out.keep (Below.refl _ _).drew).s8 (fun hS => ?_)
  have J1 := Lib.hid (JN.out.keep (Below.refl _ _).drew)
  clear JN
  generalize V4.drew = WD at *
  refine wpAnyH_take (i := 0) (v := ?v0z29) rfl (by kernel_rfl) (by kernel_rfl) (by kernel_rfl) (fun _ _ _ h => h) (Or.inl ⟨by rfl, ?hy0z29⟩) (by assumption) ?rest0z29
  case hy0z29 =>
    intro w hSw
    dsimp only [S8m] at hSw
    go_simp
    try with_reducible rfl
  simp only [Act.put, List.getElem_toArray, List.getElem_cons_succ, List.getElem_cons_zero, List.setIfInBounds_toArray, List.set_cons_zero, List.set_cons_succ]
  refine wpAnyH_take (i := 1) (v := ?v1z30) rfl (by kernel_rfl) (by kernel_rfl) (by kernel_rfl) (fun _ _ _ h => h) (Or.inl ⟨by rfl, ?hy1z30⟩) (by assumption) ?rest1z30
  case hy1z30 =>
    intro w hSw
    dsimp only [S8m] at hSw
    go_simp
    try with_reducible rfl
  simp only [Act.put, List.getElem_toArray, List.getElem_cons_succ, List.getElem_cons_zero, List.setIfInBounds_toArray, List.set_cons_zero, List.set_cons_succ]
  refine wpAnyH_take (i := 3) (v := ?v3z31) rfl (by kernel_rfl) (by kernel_rfl) (by kernel_rfl) (fun _ _ _ h => h) (Or.inl ⟨by rfl, ?hy3z31⟩) (by assumption) ?rest3z31
  case hy3z31 =>
    intro w hSw
    dsimp only [S8m] at hSw
    go_simp
    try with_reducible rfl
  simp only [Act.put, List.getElem_toArray, List.getElem_cons_succ, List.getElem_cons_zero, List.setIfInBounds_toArray, List.set_cons_zero, List.set_cons_succ]
  have rb2 : ((u.tmod v).natAbs : Int).natAbs < bp 2000 := by
    rw [Int.natAbs_natCast, Int.natAbs_tmod]
    exact Nat.lt_of_le_of_lt (Nat.mod_le _ _) (Nat.lt_of_lt_of_le UB.out (bp_mono (by decide)))
  have HTM := Lib.hid (fun W (x : Zn W false ra rk rc ((u.tmod v).natAbs : Int)) => Plus_c false false ra ra rk rk rc rc ((u.tmod v).natAbs : Int) ((u.tmod v).natAbs : Int) W x x rb2 rb2)
  clear rb2
  refine wpAnyH_ready (rs := [2]) (by kernel_rfl) (by simp) ?_
  refine AllReadyH.cons rfl (fun K hK => ?_) AllReadyH.nil
  go_simp
  (refine (HTM.out _ J1.out.rr).mono ?_)
  rintro e W4 ⟨mb, ma, mk, mc, rfl, hm, bc⟩
  try go_simp
  have J4 := Lib.hid (J1.out.keep bc)
  have hT := J4.out.s8
  have HM := Lib.hid hm
  refine hK.out _ _ hT (fun _ => ?_)
  clear hK K hS bc J1 hm HTM
  have hS := hT
  clear hT
  try simp only [Act.put, List.setIfInBounds_toArray, List.set_cons_zero, List.set_cons_succ]
  have HCM := Lib.hid (Compare_c mb b2 ma a2 mk k2 mc c2 _ v W4 HM.out J4.out.d)
  obtain ⟨sg, hsg⟩ : ∃ sg, zcmp (((u.tmod v).natAbs : Int) + ((u.tmod v).natAbs : Int)) v = sg := ⟨_, rfl⟩
  rw [hsg] at HCM
  have HSG := Lib.hid hsg
  clear hsg
  refine wpAnyH_ready (rs := [4]) (by kernel_rfl) (by simp) ?_
  refine AllReadyH.cons rfl (fun K hK => ?_) AllReadyH.nil
  go_simp
  (refine (HCM.out).mono ?_)
  rintro e W5 ⟨rfl, bc⟩
  try go_simp
  have J5 := Lib.hid (J4.out.keep bc)
  have hT := J5.out.s8
  refine hK.out _ _ hT (fun _ => ?_)
  clear hK K hS bc J4 HCM HM
  have hS := hT
  clear hT
  try simp only [Act.put, List.setIfInBounds_toArray, List.set_cons_zero, List.set_cons_succ]
  by_cases hl : (u.tmod v).natAbs * 2 < v.natAbs
  · have hs0 : sg < 0 := by rw [← HSG.out]; exact zcmp_lt (by have := HV.out; omega)
    have ZR : Hid (u.tdiv v = nZ u v) := nZ_low HV.out hl
    clear hl HSG
    refine wpAnyH_take (i := 5) (v := ?v5z32) rfl (by kernel_rfl) (by kernel_rfl) (by kernel_rfl) (fun _ _ _ h => h) (Or.inl ⟨by rfl, ?hy5z32⟩) (by assumption) ?rest5z32
    case hy5z32 =>
      intro w hSw
      dsimp only [S8m] at hSw
      go_simp
      try with_reducible rfl
    simp only [Act.put, List.getElem_toArray, List.getElem_cons_succ, List.getElem_cons_zero, List.setIfInBounds_toArray, List.set_cons_zero, List.set_cons_succ]
    refine wpAnyH_done (by kernel_rfl) ?_ _
    refine NoPanic.normal ?_
    clear hS
    obtain ⟨W9, hW9⟩ : ∃ W9, two W5 (w.heap.size + 1 + 1) (.bool qb) (.slice qa qk qc) = W9 := ⟨_, rfl⟩
    have R9 : B2 W9 (w.heap.size + 1 + 1) (.bool qb) (.slice qa qk qc) := by rw [← hW9]; exact J5.out.j.r.set _ _
    have PP : Hid (ZPost (nZ u v) w (.returned (.agg #[.bool qb, .slice qa qk qc])) W9) := by
      rw [← hW9]
      exact ⟨_, _, _, _, rfl, by rw [← ZR.out]; exact J5.out.qq.set2 J5.out.j.r _ _, below_two J5.out.j.bel (by omega) _ _⟩
    have k0 := J5.out.q.c0
    have k1' := J5.out.q.c1
    have q0 := J5.out.j.r.c0
    have q1 := J5.out.j.r.c1
    have g0 := J5.out.j.r.fr 0
    have g1 := J5.out.j.r.fr 1
    obtain ⟨r0, r1, _, _⟩ := id R9
    unfold two at hW9
    clear R9 J5
    go_wp2_with fail
    exact bodyPost_ret (v := .agg #[.bool qb, .slice qa qk qc]) (by simp [results, Tryz.results100, go_sem, r0, r1]) rfl PP.out
  · have hs0 : ¬ sg < 0 := by rw [← HSG.out]; exact zcmp_ge (by have := HV.out; omega)
    have ZR : Hid (u.tdiv v + u.sign = nZ u v) := nZ_high HV.out hl
    clear hl HSG
    refine wpAnyH_take (i := 5) (v := ?v5z33) rfl (by kernel_rfl) (by kernel_rfl) (by kernel_rfl) (fun _ _ _ h => h) (Or.inl ⟨by rfl, ?hy5z33⟩) (by assumption) ?rest5z33
    case hy5z33 =>
      intro w hSw
      dsimp only [S8m] at hSw
      go_simp
      try with_reducible rfl
    simp only [Act.put, List.getElem_toArray, List.getElem_cons_succ, List.getElem_cons_zero, List.setIfInBounds_toArray, List.set_cons_zero, List.set_cons_succ]
    refine wpAnyH_done (by kernel_rfl) ?_ _
    refine NoPanic.normal ?_
    clear hS
    go_wp2_with fail
    refine wp_region_noPanic ?_
    refine wp_region_held_drew (S := S8m w.heap.size g h b1 a1 k1 c1 b2 a2 k2 c2 qb qa qk qc ra rk rc) (by kernel_rfl) (J5.out.keep (Below.refl _ _).drew).s8 (fun hS => ?_)
    have J6 := Lib.hid (J5.out.keep (Below.refl _ _).drew)
    clear J5
    generalize W5.drew = WD at *
    refine wpAnyH_take (i := 0) (v := ?v0z34) rfl (by kernel_rfl) (by kernel_rfl) (by kernel_rfl) (fun _ _ _ h => h) (Or.inl ⟨by rfl, ?hy0z34⟩) (by assumption) ?rest0z34
    case hy0z34 =>
      intro w hSw
      dsimp only [S8m] at hSw
      go_simp
      try with_reducible rfl
    simp only [Act.put, List.getElem_toArray, List.getElem_cons_succ, List.getElem_cons_zero, List.setIfInBounds_toArray, List.set_cons_zero, List.set_cons_succ]
    refine wpAnyH_take (i := 1) (v := ?v1z35) rfl (by kernel_rfl) (by kernel_rfl) (by kernel_rfl) (fun _ _ _ h => h) (Or.inl ⟨by rfl, ?hy1z35⟩) (by assumption) ?rest1z35
    case hy1z35 =>
      intro w hSw
      dsimp only [S8m] at hSw
      go_simp
      try with_reducible rfl
    simp only [Act.put, List.getElem_toArray, List.getElem_cons_succ, List.getElem_cons_zero, List.setIfInBounds_toArray, List.set_cons_zero, List.set_cons_succ]
    refine wpAnyH_ready (rs := [2]) (by kernel_rfl) (by simp) ?_
    refine AllReadyH.cons rfl (fun K hK => ?_) AllReadyH.nil
    go_simp
    (refine (Sign_c b1 a1 k1 c1 u _ J6.out.n).mono ?_)
    rintro e W7 ⟨rfl, bc⟩
    try go_simp
    have J7 := Lib.hid (J6.out.keep bc)
    have hT := J7.out.s8
    refine hK.out _ _ hT (fun _ => ?_)
    clear hK K hS bc J6 
    have hS := hT
    clear hT
    try simp only [Act.put, List.setIfInBounds_toArray, List.set_cons_zero, List.set_cons_succ]
    have hsb : -1 ≤ u.sign ∧ u.sign ≤ 1 := by
      rcases Int.lt_trichotomy u 0 with l | l | l
      · rw [Int.sign_eq_neg_one_of_neg l]; omega
      · rw [l]; decide
      · rw [Int.sign_eq_one_of_pos l]; omega
    have HSB := Lib.hid hsb
    have HOF := Lib.hid (Of_c u.sign W7 (by omega) (by omega))
    clear hsb
    refine wpAnyH_ready (rs := [3]) (by kernel_rfl) (by simp) ?_
    refine AllReadyH.cons rfl (fun K hK => ?_) AllReadyH.nil
    go_simp
    (refine (HOF.out).mono ?_)
    rintro e W8 ⟨tb, ta, tk, tc, rfl, ht, bc⟩
    try go_simp
    have J8 := Lib.hid (J7.out.keep bc)
    have hT := J8.out.s8
    have HT8 := Lib.hid ht
    refine hK.out _ _ hT (fun _ => ?_)
    clear hK K hS bc J7 ht HOF
    have hS := hT
    clear hT
    try simp only [Act.put, List.setIfInBounds_toArray, List.set_cons_zero, List.set_cons_succ]
    have hqb : (u.tdiv v).natAbs < bp 2000 := Nat.lt_of_le_of_lt (tdiv_abs_le _ _) (Nat.lt_of_lt_of_le UB.out (bp_mono (by decide)))
    have hsb : u.sign.natAbs < bp 2000 := Nat.lt_of_lt_of_le (show u.sign.natAbs < bp 1 by have := HSB.out; rw [bp_one]; omega) (bp_mono (by decide))
    have HPL := Lib.hid (Plus_c qb tb qa ta qk tk qc tc _ _ W8 J8.out.qq HT8.out hqb hsb)
    rw [ZR.out] at HPL
    clear hqb hsb
    refine wpAnyH_ready (rs := [4]) (by kernel_rfl) (by simp) ?_
    refine AllReadyH.cons rfl (fun K hK => ?_) AllReadyH.nil
    go_simp
    (refine (HPL.out).mono ?_)
    rintro e W9 ⟨ob, oa, ok, oc, rfl, ho, bc⟩
    try go_simp
    have J9 := Lib.hid (J8.out.keep bc)
    have hT := J9.out.s8
    have HO := Lib.hid ho
    refine hK.out _ _ hT (fun _ => ?_)
    clear hK K hS bc J8 ho HPL HT8
    have hS := hT
    clear hT
    try simp only [Act.put, List.setIfInBounds_toArray, List.set_cons_zero, List.set_cons_succ]
    refine wpAnyH_ready (rs := [5]) (by kernel_rfl) (by simp) ?_
    refine AllReadyH.cons rfl (fun K hK => ?_) AllReadyH.nil
    have q0 := J9.out.j.r.c0
    have q1 := J9.out.j.r.c1
    have g0 := J9.out.j.r.fr 0
    have g1 := J9.out.j.r.fr 1
    go_simp
    clear q0 q1 g0 g1
    have hT := J9.out.done (.bool ob) (.slice oa ok oc)
    have R9 := J9.out.j.r.set (.bool ob) (.slice oa ok oc)
    have PP : Hid (ZPost (nZ u v) w (.returned (.agg #[.bool ob, .slice oa ok oc])) (two W9 (w.heap.size + 1 + 1) (.bool ob) (.slice oa ok oc))) :=
      ⟨_, _, _, _, rfl, HO.out.set2 J9.out.j.r _ _, below_two J9.out.j.bel (by omega) _ _⟩
    unfold two at hT R9 PP
    refine hK.out _ _ hT (fun _ => ?_)
    clear hK K hS
    try simp only [Act.put, List.setIfInBounds_toArray, List.set_cons_zero, List.set_cons_succ]
    refine wpAnyH_done (by kernel_rfl) ?_ _
    refine NoPanic.normal ?_
    obtain ⟨r0, r1, _, _⟩ := id R9
    clear hT R9
    go_wp2_with fail
    exact bodyPost_ret (v := .agg #[.bool ob, .slice oa ok oc]) (by simp [results, Tryz.results100, go_sem, r0, r1]) rfl PP.out
set_option maxRecDepth 100000 in
set_option maxHeartbeats 4000000 in
theorem Nearest_c (f : Fq) (u v : Int) (w : World) (hn : Zn w f.b f.a f.k f.c u) (hd : Zn w f.b' f.a' f.k' f.c' v) (hv : 0 < v) (ub : u.natAbs < bp 1000) (vb : v.natAbs < bp 1000) :
    Calls Tryz.prog 73 #[.agg #[.bool f.b, .slice f.a f.k f.c, .bool f.b', .slice f.a' f.k' f.c']] w (ZPost (nZ u v) w) := by
  obtain ⟨W0, hW0⟩ : ∃ W0, (w.alloc (.cells #[.bool f.b, .slice f.a f.k f.c, .bool f.b', .slice f.a' f.k' f.c'] 46)).alloc (.cells #[.bool false, .slice none 0 0] 44) = W0 := ⟨_, rfl⟩
  have s1 : (w.alloc (.cells #[.bool f.b, .slice f.a f.k f.c, .bool f.b', .slice f.a' f.k' f.c'] 46)).heap.size = w.heap.size + 1 := by simp
  have X0 : B4q W0 w.heap.size f := by rw [← hW0]; exact (B4.made w _ _ _ _ _).keep (bel_one _ _)
  have R0 : Hid (B2 W0 (w.heap.size + 1) (.bool false) (.slice none 0 0)) := by rw [← hW0, ← s1]; exact B2.made _ _ _ _
  have B0 : Hid (Below w.heap.size w W0) := by rw [← hW0]; exact ((Below.refl _ _).alloc (Nat.le_refl _) _).alloc (by simp) _
  have HN := Lib.hid (near_c f.b f.b' f.a f.a' f.k f.k' f.c f.c' u v W0 (hn.below B0.out) (hd.below B0.out) hv ub vb)
  obtain ⟨x0, x1, x2, x3, _, _⟩ := X0
  clear hn hd hv ub vb s1
  go_enter Tryz.func73, Tryz.ntmps73
  go_wp2_with fail
  clear hW0 x0 x1 x2 x3
  (refine HN.out.mono ?_)
  rintro e W8 ⟨ob, oa, ok, oc, rfl, ho, bc⟩
  have HO := Lib.hid ho
  have R8 := Lib.hid (R0.out.keep bc)
  have B8 := Lib.hid (B0.out.trans (bc.mono B0.out.size))
  clear ho bc HN R0 B0
  obtain ⟨W9, hW9⟩ : ∃ W9, two W8 (w.heap.size + 1) (.bool ob) (.slice oa ok oc) = W9 := ⟨_, rfl⟩
  have R9 : B2 W9 (w.heap.size + 1) (.bool ob) (.slice oa ok oc) := by rw [← hW9]; exact R8.out.set _ _
  have PP : Hid (ZPost (nZ u v) w (.returned (.agg #[.bool ob, .slice oa ok oc])) W9) := by
    rw [← hW9]
    exact ⟨_, _, _, _, rfl, HO.out.set2 R8.out _ _, below_two B8.out (by omega) _ _⟩
  have q0 := R8.out.c0
  have q1 := R8.out.c1
  have g0 := R8.out.fr 0
  have g1 := R8.out.fr 1
  obtain ⟨r0, r1, _, _⟩ := id R9
  unfold two at hW9
  clear R9
  go_wp2_with fail
  exact bodyPost_ret (v := .agg #[.bool ob, .slice oa ok oc]) (by simp [results, Tryz.results73, go_sem, r0, r1]) rfl PP.out
end Go.Proofs.YtfijhkaalpinhaaGreatDoor
namespace Go.Proofs.YtfijhkaalpinhaaGreatDoor
open Go.RowKit

/-- The boxes of the results. -/
structure Rr (w : World) (W : World) : Prop where
  r : B2 W (w.heap.size + 1) (.string ⟨#[]⟩) (.string ⟨#[]⟩)
  i : B2 W (w.heap.size + 1 + 1) (.bool false) (.slice none 0 0)
  bel : Below w.heap.size w W
theorem Rr.keep {w W W' : World} (h : Rr w W) (hb : Below W.heap.size W W') : Rr w W' := ⟨h.r.keep hb, h.i.keep hb, h.bel.trans (hb.mono h.bel.size)⟩
theorem Rr.two {w W : World} (h : Rr w W) {g : Nat} (hg : w.heap.size + 1 + 1 < g) (y0 y1 : Value) : Rr w (two W g y0 y1) := ⟨h.r.other (by omega) _ _, h.i.other (by omega) _ _, below_two h.bel (by omega) _ _⟩
/-- Both results stored. -/
def res (w W : World) (s t : ByteArray) (b : Bool) (a : Option Addr) (k c : Nat) : World := two (two W (w.heap.size + 1) (.string s) (.string t)) (w.heap.size + 1 + 1) (.bool b) (.slice a k c)
theorem Rr.res {w W : World} (h : Rr w W) (s t : ByteArray) (b : Bool) (a : Option Addr) (k c : Nat) :
    B2 (res w W s t b a k c) (w.heap.size + 1) (.string s) (.string t) ∧ B2 (res w W s t b a k c) (w.heap.size + 1 + 1) (.bool b) (.slice a k c) ∧ Below w.heap.size w (res w W s t b a k c) :=
  ⟨(h.r.set _ _).other (by omega) _ _, (h.i.other (by omega) _ _).set _ _, below_two (below_two h.bel (by omega) _ _) (by omega) _ _⟩
/-- roundedTo's answer. -/
def RtPost (n d : List UInt8) (p : Int) (w : World) (e : Ending) (w' : World) : Prop :=
  ∃ b a k c, e = .returned (.tuple #[.agg #[.string (rnS n d p).1, .string (rnS n d p).2.1], .agg #[.bool b, .slice a k c], .int .i64 (rnS n d p).2.2]) ∧ Below w.heap.size w w' ∧
    ((rnS n d p).2.2 = 0 → ∃ x y, rread n d = some (x, y) ∧ 0 ≤ p ∧ p ≤ 20 ∧ Zn w' b a k c (tnR x y p.toNat) ∧ (tnR x y p.toNat).natAbs < bp 200)
/-- The boxes in the midst. -/
structure Rm (w : World) (g h : Nat) (f : Fq) (pb : Bool) (pa : Option Addr) (pk pc : Nat) (x y : Int) (P : Nat) (W : World) : Prop where
  rr : Rr w W
  q : B4q W g f
  s : B2 W h (.bool pb) (.slice pa pk pc)
  fi : Fi W f x y
  zp : Zn W pb pa pk pc (P : Int)
  lg : w.heap.size + 1 + 1 < g
  gh : g < h
theorem Rm.keep {w : World} {g h : Nat} {f : Fq} {pb : Bool} {pa : Option Addr} {pk pc : Nat} {x y : Int} {P : Nat} {W W' : World} (m : Rm w g h f pb pa pk pc x y P W) (hb : Below W.heap.size W W') : Rm w g h f pb pa pk pc x y P W' :=
  ⟨m.rr.keep hb, m.q.keep hb, m.s.keep hb, m.fi.below hb, m.zp.below hb, m.lg, m.gh⟩
def S6r (g h : Nat) (f : Fq) (pb : Bool) (pa : Option Addr) (pk pc : Nat) (W : World) : Prop :=
  W.cell? ⟨g, 0, none⟩ = some (.bool f.b) ∧ W.cell? ⟨g, 1, none⟩ = some (.slice f.a f.k f.c) ∧ W.cell? ⟨g, 2, none⟩ = some (.bool f.b') ∧ W.cell? ⟨g, 3, none⟩ = some (.slice f.a' f.k' f.c') ∧ W.cell? ⟨h, 0, none⟩ = some (.bool pb) ∧ W.cell? ⟨h, 1, none⟩ = some (.slice pa pk pc)
theorem Rm.s6 {w : World} {g h : Nat} {f : Fq} {pb : Bool} {pa : Option Addr} {pk pc : Nat} {x y : Int} {P : Nat} {W : World} (m : Rm w g h f pb pa pk pc x y P W) : S6r g h f pb pa pk pc W := ⟨m.q.c0, m.q.c1, m.q.c2, m.q.c3, m.s.c0, m.s.c1⟩
theorem Fi.set2 {W : World} {f : Fq} {x y : Int} (h : Fi W f x y) {g : Nat} {s : Bool} {pa : Option Addr} {kk cc : Nat} (hb : B2 W g (.bool s) (.slice pa kk cc)) (y0 y1 : Value) : Fi (two W g y0 y1) f x y :=
  ⟨h.n.set2 hb _ _, h.d.set2 hb _ _, h.nb, h.db, h.pos, h.one⟩
theorem Rm.two {w : World} {g h : Nat} {f : Fq} {pb : Bool} {pa : Option Addr} {pk pc : Nat} {x y : Int} {P : Nat} {W : World} (m : Rm w g h f pb pa pk pc x y P W) {v : Nat} {s : Bool} {va : Option Addr} {vk vc : Nat} (hb : B2 W v (.bool s) (.slice va vk vc)) (hv : h < v) (y0 y1 : Value) : Rm w g h f pb pa pk pc x y P (two W v y0 y1) :=
  have l1 := m.lg; have l2 := m.gh
  ⟨m.rr.two (by omega) _ _, m.q.other2 (by omega) _ _, m.s.other (by omega) _ _, m.fi.set2 hb _ _, m.zp.set2 hb _ _, l1, l2⟩
/-- What the last region reads. -/
def S4r (g h : Nat) (s t : ByteArray) (b : Bool) (a : Option Addr) (k c : Nat) (W : World) : Prop :=
  W.cell? ⟨g, 0, none⟩ = some (.string s) ∧ W.cell? ⟨g, 1, none⟩ = some (.string t) ∧ W.cell? ⟨h, 0, none⟩ = some (.bool b) ∧ W.cell? ⟨h, 1, none⟩ = some (.slice a k c)
/-- A store into a box of texts changes no number. -/
theorem Zn.setS {W : World} {b : Bool} {a : Option Addr} {k c : Nat} {z : Int} (h : Zn W b a k c z) {g : Nat} {s t : ByteArray} (hb : B2 W g (.string s) (.string t)) (y0 y1 : Value) : Zn (Go.Proofs.YtfijhkaalpinhaaGreatDoor.two W g y0 y1) b a k c z := by
  obtain ⟨n, h1, h2⟩ := h
  refine ⟨n, ?_, h2⟩
  unfold Go.Proofs.YtfijhkaalpinhaaGreatDoor.two
  refine Nm.set (Nm.set h1 hb.c0 (fun m e => nomatch e) y0) (u := .string t) ?_ (fun m e => nomatch e) y1
  rw [World.cell?_setCell_other _ _ _ _ (addr_ne (by decide))]; exact hb.c1
set_option maxRecDepth 100000 in
set_option maxHeartbeats 4000000 in
theorem roundedTo_c (s t : ByteArray) (p : Int) (w : World) :
    Calls Tryz.prog 46 #[.agg #[.string s, .string t], .int .i64 p] w (RtPost s.data.toList t.data.toList p w) := by
  obtain ⟨W0, hW0⟩ : ∃ W0, ((w.alloc (.cells #[.string s, .string t] 23)).alloc (.cells #[.string ⟨#[]⟩, .string ⟨#[]⟩] 23)).alloc (.cells #[.bool false, .slice none 0 0] 44) = W0 := ⟨_, rfl⟩
  have s1 : (w.alloc (.cells #[.string s, .string t] 23)).heap.size = w.heap.size + 1 := by simp
  have s2 : ((w.alloc (.cells #[.string s, .string t] 23)).alloc (.cells #[.string ⟨#[]⟩, .string ⟨#[]⟩] 23)).heap.size = w.heap.size + 1 + 1 := by simp
  have X0 : B2 W0 w.heap.size (.string s) (.string t) := by rw [← hW0]; exact ((B2.made w _ _ _).keep (bel_one _ _)).keep (bel_one _ _)
  have JR0 : Hid (Rr w W0) := ⟨by rw [← hW0, ← s1]; exact (B2.made _ _ _ _).keep (bel_one _ _), by rw [← hW0, ← s2]; exact B2.made _ _ _ _, by rw [← hW0]; exact (((Below.refl _ _).alloc (Nat.le_refl _) _).alloc (by simp) _).alloc (by simp; omega) _⟩
  have H1 := Lib.hid (fun w => fractionOf_q s t w)
  have x0 := X0.c0
  have x1 := X0.c1
  clear X0 s1 s2
  go_enter Tryz.func46, Tryz.ntmps46
  go_wp2_with fail
  clear hW0 x0 x1
  refine (H1.out _).mono ?_
  rintro e w1 ⟨f, flt, rfl, b1, hpost⟩
  have P1 := Lib.hid hpost
  have LD := laid1_is (W := w1) f 46
  obtain ⟨W5, hW5⟩ : ∃ W5, laid1 w1 f 46 = W5 := ⟨_, rfl⟩
  rw [hW5] at LD
  have L5 := Lib.hid LD
  obtain ⟨WA, hWA⟩ : ∃ WA, w1.alloc (.cells #[.bool false, .slice none 0 0, .bool false, .slice none 0 0] 46) = WA := ⟨_, rfl⟩
  have D1 : B4q WA w1.heap.size Fq.z := by rw [← hWA]; exact B4.made _ _ _ _ _ _
  have hW5' : fourq WA w1.heap.size f = W5 := by rw [← hW5, ← hWA]; rfl
  have JR5 := Lib.hid ((JR0.out.keep b1).keep L5.out.1)
  have LG : Hid (w.heap.size + 1 + 1 < w1.heap.size) := (JR0.out.keep b1).i.lt
  clear hW5 b1 hpost H1 LD JR0
  have a0 := D1.c0
  have a1 := D1.c1
  have a2 := D1.c2
  have a3 := D1.c3
  have af0 := D1.fr 0
  have af1 := D1.fr 1
  have af2 := D1.fr 2
  have af3 := D1.fr 3
  clear D1
  simp only [Fq.z] at a0 a1 a2 a3
  unfold fourq four at hW5'
  by_cases hz : flt = 0
  · subst hz
    obtain ⟨x, y, e1, i1⟩ := (P1.out.resolve_right (fun q => q.1 rfl)).2
    have E1 := Lib.hid e1
    clear P1
    by_cases hp : p < 0 ∨ 20 < p
    · have RS : Hid (rnS s.data.toList t.data.toList p = (⟨#[]⟩, ⟨#[]⟩, 1)) := by
        unfold Hid rnS
        rw [E1.out]
        exact if_pos hp
      have HNZ : Hid ((1 : Int) ≠ 0) := by unfold Hid; decide
      clear E1 e1 i1 L5 LG
      by_cases h0 : p < 0
      · clear hp
        obtain ⟨W9, hW9⟩ : ∃ W9, res w W5 ⟨#[]⟩ ⟨#[]⟩ false none 0 0 = W9 := ⟨_, rfl⟩
        have R9 := JR5.out.res ⟨#[]⟩ ⟨#[]⟩ false none 0 0
        rw [hW9] at R9
        have PP : Hid (RtPost s.data.toList t.data.toList p w (.returned (.tuple #[.agg #[.string ⟨#[]⟩, .string ⟨#[]⟩], .agg #[.bool false, .slice none 0 0], .int .i64 1])) W9) := ⟨false, none, 0, 0, by rw [RS.out], R9.2.2, (fun h => by rw [RS.out] at h; exact absurd h HNZ.out)⟩
        have q0 := JR5.out.r.c0
        have q1 := JR5.out.r.c1
        have g0 := JR5.out.r.fr 0
        have g1 := JR5.out.r.fr 1
        have d0 := JR5.out.i.c0
        have d1 := JR5.out.i.c1
        have e0' := JR5.out.i.fr 0
        have e1' := JR5.out.i.fr 1
        obtain ⟨r0, r1, _, _⟩ := id R9.1
        obtain ⟨i0, i1, _, _⟩ := id R9.2.1
        unfold res two at hW9
        clear R9 JR5
        go_wp2_with fail
        exact bodyPost_ret (v := .tuple #[.agg #[.string ⟨#[]⟩, .string ⟨#[]⟩], .agg #[.bool false, .slice none 0 0], .int .i64 1]) (by simp [results, Tryz.results46, go_sem, r0, r1, i0, i1]) rfl PP.out
      · have h1 : 20 < p := hp.resolve_left h0
        clear hp
        obtain ⟨W9, hW9⟩ : ∃ W9, res w W5 ⟨#[]⟩ ⟨#[]⟩ false none 0 0 = W9 := ⟨_, rfl⟩
        have R9 := JR5.out.res ⟨#[]⟩ ⟨#[]⟩ false none 0 0
        rw [hW9] at R9
        have PP : Hid (RtPost s.data.toList t.data.toList p w (.returned (.tuple #[.agg #[.string ⟨#[]⟩, .string ⟨#[]⟩], .agg #[.bool false, .slice none 0 0], .int .i64 1])) W9) := ⟨false, none, 0, 0, by rw [RS.out], R9.2.2, (fun h => by rw [RS.out] at h; exact absurd h HNZ.out)⟩
        have q0 := JR5.out.r.c0
        have q1 := JR5.out.r.c1
        have g0 := JR5.out.r.fr 0
        have g1 := JR5.out.r.fr 1
        have d0 := JR5.out.i.c0
        have d1 := JR5.out.i.c1
        have e0' := JR5.out.i.fr 0
        have e1' := JR5.out.i.fr 1
        obtain ⟨r0, r1, _, _⟩ := id R9.1
        obtain ⟨i0, i1, _, _⟩ := id R9.2.1
        unfold res two at hW9
        clear R9 JR5
        go_wp2_with fail
        exact bodyPost_ret (v := .tuple #[.agg #[.string ⟨#[]⟩, .string ⟨#[]⟩], .agg #[.bool false, .slice none 0 0], .int .i64 1]) (by simp [results, Tryz.results46, go_sem, r0, r1, i0, i1]) rfl PP.out
    · obtain ⟨m, rfl, hm⟩ : ∃ m : Nat, p = (m : Int) ∧ m ≤ 20 := ⟨p.toNat, by omega, by omega⟩
      have hp0 : ¬ (m : Int) < 0 := by omega
      have hp1 : ¬ 20 < (m : Int) := by omega
      have I5 := Lib.hid (L5.out.2.2 f x y i1)
      have B5 := Lib.hid L5.out.2.1
      have HPW := Lib.hid (fun w => Power_c m w hm)
      have HM := Lib.hid hm
      clear e1 i1 L5 hp hm
      go_wp2_with fail
      clear hW5' hWA a0 a1 a2 a3 af0 af1 af2 af3
      generalize w1.heap.size = g at *
      refine (HPW.out _).mono ?_
      rintro e w6 ⟨pb, pa, pk, pc, rfl, hpz, b6⟩
      obtain ⟨P, hP⟩ : ∃ P, 10 ^ m = P := ⟨_, rfl⟩
      rw [hP] at hpz
      obtain ⟨WB, hWB⟩ : ∃ W, w6.alloc (.cells #[.bool false, .slice none 0 0] 44) = W := ⟨_, rfl⟩
      have D1 : B2 WB w6.heap.size (.bool false) (.slice none 0 0) := by rw [← hWB]; exact B2.made _ _ _ _
      obtain ⟨WC, hWC⟩ : ∃ W, two WB w6.heap.size (.bool pb) (.slice pa pk pc) = W := ⟨_, rfl⟩
      have hb : Below w6.heap.size w6 WC := by rw [← hWC]; exact below_two (by rw [← hWB]; exact bel_one _ _) (Nat.le_refl _) _ _
      have hc := b6.trans (hb.mono b6.size)
      have JN : Hid (Rm w g w6.heap.size f pb pa pk pc x y P WC) := ⟨JR5.out.keep hc, B5.out.keep hc, by rw [← hWC]; exact D1.set _ _, I5.out.below hc, hpz.below hb, LG.out, Nat.lt_of_lt_of_le B5.out.lt b6.size⟩
      have a0 := D1.c0
      have a1 := D1.c1
      have af0 := D1.fr 0
      have af1 := D1.fr 1
      unfold two at hWC
      have XB : Hid (x.natAbs < bp 2000) := Nat.lt_of_lt_of_le I5.out.nb (bp_mono (by decide))
      have YB : Hid (y.natAbs < bp 2000) := Nat.lt_of_lt_of_le I5.out.db (bp_mono (by decide))
      have YN : Hid (y ≠ 0) := by have := I5.out.pos; unfold Hid; omega
      have PT : Hid (P < bp 5) := by unfold Hid; rw [← hP]; exact ten_bp m HM.out
      have PP0 : Hid (0 < P) := by unfold Hid; rw [← hP]; exact Nat.pow_pos (by decide)
      have PB : Hid ((P : Int).natAbs < bp 2000) := by unfold Hid; rw [Int.natAbs_natCast]; exact Nat.lt_of_lt_of_le PT.out (bp_mono (by decide))
      have XP : Hid ((x * (P : Int)).natAbs < bp 130) := by
        unfold Hid
        rw [Int.natAbs_mul, Int.natAbs_natCast, show bp 130 = bp 125 * bp 5 from bp_add 125 5]
        exact Nat.mul_lt_mul_of_lt_of_le I5.out.nb (Nat.le_of_lt PT.out) (bp_pos 5)
      have XPB : Hid ((x * (P : Int)).natAbs < bp 2000) := Nat.lt_of_lt_of_le XP.out (bp_mono (by decide))
      have RB1 : Hid ((red (x * (P : Int)) y).1.natAbs < bp 1000) := Nat.lt_of_le_of_lt (tdiv_abs_le _ _) (Nat.lt_of_lt_of_le XP.out (bp_mono (by decide)))
      have RB2 : Hid ((red (x * (P : Int)) y).2.natAbs < bp 1000) := Nat.lt_of_le_of_lt (tdiv_abs_le _ _) (Nat.lt_of_lt_of_le I5.out.db (bp_mono (by decide)))
      obtain ⟨tt, htt⟩ : ∃ tt, nZ (x * (P : Int)) y = tt := ⟨_, rfl⟩
      have NZR : Hid (nZ (red (x * (P : Int)) y).1 (red (x * (P : Int)) y).2 = tt) := by unfold Hid; rw [nZ_red _ _ I5.out.pos, htt]
      have TT : Hid (tnR x y m = tt) := by unfold Hid tnR; rw [hP, htt]
      have TB : Hid (tt.natAbs < bp 200) := by
        unfold Hid
        rw [← htt]
        unfold nZ
        rw [zv_abs]
        have h1 := nN_le (x * (P : Int)).natAbs y.natAbs
        have h2 := XP.out
        have h3 : bp 131 ≤ bp 200 := bp_mono (by decide)
        have h4 : bp (130 + 1) = bp 130 * 18446744073709551616 := bp_succ 130
        have h5 := bp_pos 130
        show _ < bp 200
        have h6 : bp 131 = bp (130 + 1) := rfl
        omega
      have RS : Hid (rnS s.data.toList t.data.toList (m : Int) = raR tt (P : Int)) := by
        unfold Hid rnS
        rw [E1.out]
        refine (if_neg (by omega)).trans ?_
        show raR (tnR x y m) ((10 ^ m : Nat) : Int) = _
        rw [hP, TT.out]
      clear D1 hb hc hpz b6 JR5 B5 I5 HPW hP htt
      go_upto_region 7 with fail
      clear hWB hWC a0 a1 af0 af1
      generalize w6.heap.size = h at *
      go_cut [10] from 32 to 39 (fun v10 wx => ∃ (v : Nat) (tb : Bool) (ta : Option Addr) (tk tc : Nat), v10 = .pointer (some ⟨v, 0, none⟩) ∧ Hid (Rm w g h f pb pa pk pc x y P wx) ∧ Hid (B2 wx v (.bool tb) (.slice ta tk tc)) ∧ Hid (Zn wx tb ta tk tc tt) ∧ Hid (h < v))
      case first =>
        refine wp_region_noPanic ?_
        refine wp_region_held_drew (S := S6r g h f pb pa pk pc) (by kernel_rfl) (JN.out.keep (Below.refl _ _).drew).s6 (fun hS => ?_)
        have J_0 := Lib.hid (JN.out.keep (Below.refl _ _).drew)
        clear JN
        generalize WC.drew = WD at *
        refine wpAnyH_take (i := 0) (v := ?v0z32) rfl (by kernel_rfl) (by kernel_rfl) (by kernel_rfl) (fun _ _ _ h => h) (Or.inl ⟨by rfl, ?hy0z32⟩) (by assumption) ?rest0z32
        case hy0z32 =>
          intro w hSw
          dsimp only [S6r] at hSw
          go_simp
          try with_reducible rfl
        simp only [Act.put, List.getElem_toArray, List.getElem_cons_succ, List.getElem_cons_zero, List.setIfInBounds_toArray, List.set_cons_zero, List.set_cons_succ]
        refine wpAnyH_take (i := 1) (v := ?v1z33) rfl (by kernel_rfl) (by kernel_rfl) (by kernel_rfl) (fun _ _ _ h => h) (Or.inl ⟨by rfl, ?hy1z33⟩) (by assumption) ?rest1z33
        case hy1z33 =>
          intro w hSw
          dsimp only [S6r] at hSw
          go_simp
          try with_reducible rfl
        simp only [Act.put, List.getElem_toArray, List.getElem_cons_succ, List.getElem_cons_zero, List.setIfInBounds_toArray, List.set_cons_zero, List.set_cons_succ]
        refine wpAnyH_take (i := 2) (v := ?v2z34) rfl (by kernel_rfl) (by kernel_rfl) (by kernel_rfl) (fun _ _ _ h => h) (Or.inl ⟨by rfl, ?hy2z34⟩) (by assumption) ?rest2z34
        case hy2z34 =>
          intro w hSw
          dsimp only [S6r] at hSw
          go_simp
          try with_reducible rfl
        simp only [Act.put, List.getElem_toArray, List.getElem_cons_succ, List.getElem_cons_zero, List.setIfInBounds_toArray, List.set_cons_zero, List.set_cons_succ]
        refine wpAnyH_take (i := 4) (v := ?v4z35) rfl (by kernel_rfl) (by kernel_rfl) (by kernel_rfl) (fun _ _ _ h => h) (Or.inl ⟨by rfl, ?hy4z35⟩) (by assumption) ?rest4z35
        case hy4z35 =>
          intro w hSw
          dsimp only [S6r] at hSw
          go_simp
          try with_reducible rfl
        simp only [Act.put, List.getElem_toArray, List.getElem_cons_succ, List.getElem_cons_zero, List.setIfInBounds_toArray, List.set_cons_zero, List.set_cons_succ]
        refine wpAnyH_take (i := 5) (v := ?v5z36) rfl (by kernel_rfl) (by kernel_rfl) (by kernel_rfl) (fun _ _ _ h => h) (Or.inl ⟨by rfl, ?hy5z36⟩) (by assumption) ?rest5z36
        case hy5z36 =>
          intro w hSw
          dsimp only [S6r] at hSw
          go_simp
          try with_reducible rfl
        simp only [Act.put, List.getElem_toArray, List.getElem_cons_succ, List.getElem_cons_zero, List.setIfInBounds_toArray, List.set_cons_zero, List.set_cons_succ]
        refine wpAnyH_ready (rs := [3, 8]) (by kernel_rfl) (by simp) ?_
        refine AllReadyH.cons rfl (fun K hK => ?_) (AllReadyH.cons rfl (fun K hK => ?_) AllReadyH.nil)
        · have HX := Lib.hid (Times_c f.b pb f.a pa f.k pk f.c pc x (P : Int) WD J_0.out.fi.n J_0.out.zp XB.out PB.out)
          go_simp
          (refine HX.out.mono ?_)
          rintro e U1 ⟨mb, ma, mk, mc, rfl, hm, bc⟩
          try go_simp
          have J_1 := Lib.hid (J_0.out.keep bc)
          clear J_0
          have M_1 := Lib.hid hm
          have hT := J_1.out.s6
          refine hK.out _ _ hT (fun _ => ?_)
          clear hK K hS bc hm HX
          have hS := hT
          clear hT
          try simp only [Act.put, List.setIfInBounds_toArray, List.set_cons_zero, List.set_cons_succ]
          refine wpAnyH_ready (rs := [6, 8]) (by kernel_rfl) (by simp) ?_
          refine AllReadyH.cons rfl (fun K hK => ?_) (AllReadyH.cons rfl (fun K hK => ?_) AllReadyH.nil)
          · have HX := Lib.hid (Over_c mb f.b' ma f.a' mk f.k' mc f.c' (x * (P : Int)) y U1 M_1.out J_1.out.fi.d YN.out XPB.out YB.out)
            go_simp
            (refine HX.out.mono ?_)
            rintro e U2 ⟨ob, oa, ok, oc, ob', oa', ok', oc', rfl, ho, ho', bc⟩
            try go_simp
            have J_2 := Lib.hid (J_1.out.keep bc)
            have M_2 := Lib.hid (M_1.out.below bc)
            clear J_1 M_1
            have O_2 := Lib.hid ho
            have Q_2 := Lib.hid ho'
            have hT := J_2.out.s6
            refine hK.out _ _ hT (fun _ => ?_)
            clear hK K hS bc ho ho' HX
            have hS := hT
            clear hT
            try simp only [Act.put, List.setIfInBounds_toArray, List.set_cons_zero, List.set_cons_succ]
            clear M_2
            refine wpAnyH_ready (rs := [7, 8]) (by kernel_rfl) (by simp) ?_
            refine AllReadyH.cons rfl (fun K hK => ?_) (AllReadyH.cons rfl (fun K hK => ?_) AllReadyH.nil)
            · have HX0 := Nearest_c ⟨ob, oa, ok, oc, ob', oa', ok', oc'⟩ (red (x * (P : Int)) y).1 (red (x * (P : Int)) y).2 U2 O_2.out Q_2.out (red_pos YN.out) RB1.out RB2.out
              rw [NZR.out] at HX0
              have HX := Lib.hid HX0
              clear HX0
              go_simp
              (refine HX.out.mono ?_)
              rintro e U3 ⟨tb, ta, tk, tc, rfl, ht, bc⟩
              try go_simp
              have J_3 := Lib.hid (J_2.out.keep bc)
              have O_3 := Lib.hid (O_2.out.below bc)
              have Q_3 := Lib.hid (Q_2.out.below bc)
              clear J_2 O_2 Q_2
              have N_3 := Lib.hid ht
              have hT := J_3.out.s6
              refine hK.out _ _ hT (fun _ => ?_)
              clear hK K hS bc ht HX
              have hS := hT
              clear hT
              try simp only [Act.put, List.setIfInBounds_toArray, List.set_cons_zero, List.set_cons_succ]
              clear O_3 Q_3
              refine wpAnyH_ready (rs := [8]) (by kernel_rfl) (by simp) ?_
              refine AllReadyH.cons rfl (fun K hK => ?_) AllReadyH.nil
              go_simp
              have bc := bel_one U3 (.cells #[.bool false, .slice none 0 0] 44)
              have LV : Hid (h < U3.heap.size) := J_3.out.s.lt
              have J_4 := Lib.hid (J_3.out.keep bc)
              have N_4 := Lib.hid (N_3.out.below bc)
              clear J_3 N_3
              have V_4 : Hid (B2 (U3.alloc (.cells #[.bool false, .slice none 0 0] 44)) U3.heap.size (.bool false) (.slice none 0 0)) := B2.made U3 _ _ _
              have hT := J_4.out.s6
              refine hK.out _ _ hT (fun _ => ?_)
              clear hK K hS bc
              try simp only [Act.put, List.setIfInBounds_toArray, List.set_cons_zero, List.set_cons_succ]
              generalize U3.alloc (.cells #[.bool false, .slice none 0 0] 44) = U4 at *
              generalize U3.heap.size = v at *
              have hS := hT
              clear hT
              refine wpAnyH_ready (rs := [9]) (by kernel_rfl) (by simp) ?_
              refine AllReadyH.cons rfl (fun K hK => ?_) AllReadyH.nil
              have q0 := V_4.out.c0
              have q1 := V_4.out.c1
              have g0 := V_4.out.fr 0
              have g1 := V_4.out.fr 1
              go_simp
              clear q0 q1 g0 g1
              have jj := J_4.out.two V_4.out LV.out (.bool tb) (.slice ta tk tc)
              have vv := V_4.out.set (.bool tb) (.slice ta tk tc)
              have nn := N_4.out.set2 V_4.out (.bool tb) (.slice ta tk tc)
              have hT := jj.s6
              clear J_4 V_4 N_4
              unfold two at jj vv nn hT
              refine hK.out _ _ hT (fun _ => ?_)
              clear hK K hS
              try simp only [Act.put, List.setIfInBounds_toArray, List.set_cons_zero, List.set_cons_succ]
              generalize (U4.setCell ⟨v, 0, none⟩ (.bool tb)).setCell ⟨v, 1, none⟩ (.slice ta tk tc) = U5 at *
              have J9 := Lib.hid jj
              have V9 := Lib.hid vv
              have N9 := Lib.hid nn
              clear jj vv nn hT
              refine wpAnyH_done (by kernel_rfl) ?_ _
              refine NoPanic.normal ?_
              go_wp2_with fail
              go_meet
              case rel => exact ⟨v, tb, ta, tk, tc, rfl, J9.out, V9.out, N9.out, LV.out⟩
            · go_simp
              have bc := bel_one U2 (.cells #[.bool false, .slice none 0 0] 44)
              have LV : Hid (h < U2.heap.size) := J_2.out.s.lt
              have J_3 := Lib.hid (J_2.out.keep bc)
              have O_3 := Lib.hid (O_2.out.below bc)
              have Q_3 := Lib.hid (Q_2.out.below bc)
              clear J_2 O_2 Q_2
              have V_3 : Hid (B2 (U2.alloc (.cells #[.bool false, .slice none 0 0] 44)) U2.heap.size (.bool false) (.slice none 0 0)) := B2.made U2 _ _ _
              have hT := J_3.out.s6
              refine hK.out _ _ hT (fun _ => ?_)
              clear hK K hS bc
              try simp only [Act.put, List.setIfInBounds_toArray, List.set_cons_zero, List.set_cons_succ]
              generalize U2.alloc (.cells #[.bool false, .slice none 0 0] 44) = U6 at *
              generalize U2.heap.size = v at *
              have hS := hT
              clear hT
              refine wpAnyH_ready (rs := [7]) (by kernel_rfl) (by simp) ?_
              refine AllReadyH.cons rfl (fun K hK => ?_) AllReadyH.nil
              have HX0 := Nearest_c ⟨ob, oa, ok, oc, ob', oa', ok', oc'⟩ (red (x * (P : Int)) y).1 (red (x * (P : Int)) y).2 U6 O_3.out Q_3.out (red_pos YN.out) RB1.out RB2.out
              rw [NZR.out] at HX0
              have HX := Lib.hid HX0
              clear HX0
              go_simp
              (refine HX.out.mono ?_)
              rintro e U7 ⟨tb, ta, tk, tc, rfl, ht, bc⟩
              try go_simp
              have J_4 := Lib.hid (J_3.out.keep bc)
              have O_4 := Lib.hid (O_3.out.below bc)
              have Q_4 := Lib.hid (Q_3.out.below bc)
              have V_4 := Lib.hid (V_3.out.keep bc)
              clear J_3 O_3 Q_3 V_3
              have N_4 := Lib.hid ht
              have hT := J_4.out.s6
              refine hK.out _ _ hT (fun _ => ?_)
              clear hK K hS bc ht HX
              have hS := hT
              clear hT
              try simp only [Act.put, List.setIfInBounds_toArray, List.set_cons_zero, List.set_cons_succ]
              clear O_4 Q_4
              refine wpAnyH_ready (rs := [9]) (by kernel_rfl) (by simp) ?_
              refine AllReadyH.cons rfl (fun K hK => ?_) AllReadyH.nil
              have q0 := V_4.out.c0
              have q1 := V_4.out.c1
              have g0 := V_4.out.fr 0
              have g1 := V_4.out.fr 1
              go_simp
              clear q0 q1 g0 g1
              have jj := J_4.out.two V_4.out LV.out (.bool tb) (.slice ta tk tc)
              have vv := V_4.out.set (.bool tb) (.slice ta tk tc)
              have nn := N_4.out.set2 V_4.out (.bool tb) (.slice ta tk tc)
              have hT := jj.s6
              clear J_4 V_4 N_4
              unfold two at jj vv nn hT
              refine hK.out _ _ hT (fun _ => ?_)
              clear hK K hS
              try simp only [Act.put, List.setIfInBounds_toArray, List.set_cons_zero, List.set_cons_succ]
              generalize (U7.setCell ⟨v, 0, none⟩ (.bool tb)).setCell ⟨v, 1, none⟩ (.slice ta tk tc) = U8 at *
              have J9 := Lib.hid jj
              have V9 := Lib.hid vv
              have N9 := Lib.hid nn
              clear jj vv nn hT
              refine wpAnyH_done (by kernel_rfl) ?_ _
              refine NoPanic.normal ?_
              go_wp2_with fail
              go_meet
              case rel => exact ⟨v, tb, ta, tk, tc, rfl, J9.out, V9.out, N9.out, LV.out⟩
          · go_simp
            have bc := bel_one U1 (.cells #[.bool false, .slice none 0 0] 44)
            have LV : Hid (h < U1.heap.size) := J_1.out.s.lt
            have J_2 := Lib.hid (J_1.out.keep bc)
            have M_2 := Lib.hid (M_1.out.below bc)
            clear J_1 M_1
            have V_2 : Hid (B2 (U1.alloc (.cells #[.bool false, .slice none 0 0] 44)) U1.heap.size (.bool false) (.slice none 0 0)) := B2.made U1 _ _ _
            have hT := J_2.out.s6
            refine hK.out _ _ hT (fun _ => ?_)
            clear hK K hS bc
            try simp only [Act.put, List.setIfInBounds_toArray, List.set_cons_zero, List.set_cons_succ]
            generalize U1.alloc (.cells #[.bool false, .slice none 0 0] 44) = U9 at *
            generalize U1.heap.size = v at *
            have hS := hT
            clear hT
            refine wpAnyH_ready (rs := [6]) (by kernel_rfl) (by simp) ?_
            refine AllReadyH.cons rfl (fun K hK => ?_) AllReadyH.nil
            have HX := Lib.hid (Over_c mb f.b' ma f.a' mk f.k' mc f.c' (x * (P : Int)) y U9 M_2.out J_2.out.fi.d YN.out XPB.out YB.out)
            go_simp
            (refine HX.out.mono ?_)
            rintro e U10 ⟨ob, oa, ok, oc, ob', oa', ok', oc', rfl, ho, ho', bc⟩
            try go_simp
            have J_3 := Lib.hid (J_2.out.keep bc)
            have M_3 := Lib.hid (M_2.out.below bc)
            have V_3 := Lib.hid (V_2.out.keep bc)
            clear J_2 M_2 V_2
            have O_3 := Lib.hid ho
            have Q_3 := Lib.hid ho'
            have hT := J_3.out.s6
            refine hK.out _ _ hT (fun _ => ?_)
            clear hK K hS bc ho ho' HX
            have hS := hT
            clear hT
            try simp only [Act.put, List.setIfInBounds_toArray, List.set_cons_zero, List.set_cons_succ]
            clear M_3
            refine wpAnyH_ready (rs := [7]) (by kernel_rfl) (by simp) ?_
            refine AllReadyH.cons rfl (fun K hK => ?_) AllReadyH.nil
            have HX0 := Nearest_c ⟨ob, oa, ok, oc, ob', oa', ok', oc'⟩ (red (x * (P : Int)) y).1 (red (x * (P : Int)) y).2 U10 O_3.out Q_3.out (red_pos YN.out) RB1.out RB2.out
            rw [NZR.out] at HX0
            have HX := Lib.hid HX0
            clear HX0
            go_simp
            (refine HX.out.mono ?_)
            rintro e U11 ⟨tb, ta, tk, tc, rfl, ht, bc⟩
            try go_simp
            have J_4 := Lib.hid (J_3.out.keep bc)
            have V_4 := Lib.hid (V_3.out.keep bc)
            have O_4 := Lib.hid (O_3.out.below bc)
            have Q_4 := Lib.hid (Q_3.out.below bc)
            clear J_3 V_3 O_3 Q_3
            have N_4 := Lib.hid ht
            have hT := J_4.out.s6
            refine hK.out _ _ hT (fun _ => ?_)
            clear hK K hS bc ht HX
            have hS := hT
            clear hT
            try simp only [Act.put, List.setIfInBounds_toArray, List.set_cons_zero, List.set_cons_succ]
            clear O_4 Q_4
            refine wpAnyH_ready (rs := [9]) (by kernel_rfl) (by simp) ?_
            refine AllReadyH.cons rfl (fun K hK => ?_) AllReadyH.nil
            have q0 := V_4.out.c0
            have q1 := V_4.out.c1
            have g0 := V_4.out.fr 0
            have g1 := V_4.out.fr 1
            go_simp
            clear q0 q1 g0 g1
            have jj := J_4.out.two V_4.out LV.out (.bool tb) (.slice ta tk tc)
            have vv := V_4.out.set (.bool tb) (.slice ta tk tc)
            have nn := N_4.out.set2 V_4.out (.bool tb) (.slice ta tk tc)
            have hT := jj.s6
            clear J_4 V_4 N_4
            unfold two at jj vv nn hT
            refine hK.out _ _ hT (fun _ => ?_)
            clear hK K hS
            try simp only [Act.put, List.setIfInBounds_toArray, List.set_cons_zero, List.set_cons_succ]
            generalize (U11.setCell ⟨v, 0, none⟩ (.bool tb)).setCell ⟨v, 1, none⟩ (.slice ta tk tc) = U12 at *
            have J9 := Lib.hid jj
            have V9 := Lib.hid vv
            have N9 := Lib.hid nn
            clear jj vv nn hT
            refine wpAnyH_done (by kernel_rfl) ?_ _
            refine NoPanic.normal ?_
            go_wp2_with fail
            go_meet
            case rel => exact ⟨v, tb, ta, tk, tc, rfl, J9.out, V9.out, N9.out, LV.out⟩
        · go_simp
          have bc := bel_one WD (.cells #[.bool false, .slice none 0 0] 44)
          have LV : Hid (h < WD.heap.size) := J_0.out.s.lt
          have J_1 := Lib.hid (J_0.out.keep bc)
          clear J_0
          have V_1 : Hid (B2 (WD.alloc (.cells #[.bool false, .slice none 0 0] 44)) WD.heap.size (.bool false) (.slice none 0 0)) := B2.made WD _ _ _
          have hT := J_1.out.s6
          refine hK.out _ _ hT (fun _ => ?_)
          clear hK K hS bc
          try simp only [Act.put, List.setIfInBounds_toArray, List.set_cons_zero, List.set_cons_succ]
          generalize WD.alloc (.cells #[.bool false, .slice none 0 0] 44) = U13 at *
          generalize WD.heap.size = v at *
          have hS := hT
          clear hT
          refine wpAnyH_ready (rs := [3]) (by kernel_rfl) (by simp) ?_
          refine AllReadyH.cons rfl (fun K hK => ?_) AllReadyH.nil
          have HX := Lib.hid (Times_c f.b pb f.a pa f.k pk f.c pc x (P : Int) U13 J_1.out.fi.n J_1.out.zp XB.out PB.out)
          go_simp
          (refine HX.out.mono ?_)
          rintro e U14 ⟨mb, ma, mk, mc, rfl, hm, bc⟩
          try go_simp
          have J_2 := Lib.hid (J_1.out.keep bc)
          have V_2 := Lib.hid (V_1.out.keep bc)
          clear J_1 V_1
          have M_2 := Lib.hid hm
          have hT := J_2.out.s6
          refine hK.out _ _ hT (fun _ => ?_)
          clear hK K hS bc hm HX
          have hS := hT
          clear hT
          try simp only [Act.put, List.setIfInBounds_toArray, List.set_cons_zero, List.set_cons_succ]
          refine wpAnyH_ready (rs := [6]) (by kernel_rfl) (by simp) ?_
          refine AllReadyH.cons rfl (fun K hK => ?_) AllReadyH.nil
          have HX := Lib.hid (Over_c mb f.b' ma f.a' mk f.k' mc f.c' (x * (P : Int)) y U14 M_2.out J_2.out.fi.d YN.out XPB.out YB.out)
          go_simp
          (refine HX.out.mono ?_)
          rintro e U15 ⟨ob, oa, ok, oc, ob', oa', ok', oc', rfl, ho, ho', bc⟩
          try go_simp
          have J_3 := Lib.hid (J_2.out.keep bc)
          have V_3 := Lib.hid (V_2.out.keep bc)
          have M_3 := Lib.hid (M_2.out.below bc)
          clear J_2 V_2 M_2
          have O_3 := Lib.hid ho
          have Q_3 := Lib.hid ho'
          have hT := J_3.out.s6
          refine hK.out _ _ hT (fun _ => ?_)
          clear hK K hS bc ho ho' HX
          have hS := hT
          clear hT
          try simp only [Act.put, List.setIfInBounds_toArray, List.set_cons_zero, List.set_cons_succ]
          clear M_3
          refine wpAnyH_ready (rs := [7]) (by kernel_rfl) (by simp) ?_
          refine AllReadyH.cons rfl (fun K hK => ?_) AllReadyH.nil
          have HX0 := Nearest_c ⟨ob, oa, ok, oc, ob', oa', ok', oc'⟩ (red (x * (P : Int)) y).1 (red (x * (P : Int)) y).2 U15 O_3.out Q_3.out (red_pos YN.out) RB1.out RB2.out
          rw [NZR.out] at HX0
          have HX := Lib.hid HX0
          clear HX0
          go_simp
          (refine HX.out.mono ?_)
          rintro e U16 ⟨tb, ta, tk, tc, rfl, ht, bc⟩
          try go_simp
          have J_4 := Lib.hid (J_3.out.keep bc)
          have V_4 := Lib.hid (V_3.out.keep bc)
          have O_4 := Lib.hid (O_3.out.below bc)
          have Q_4 := Lib.hid (Q_3.out.below bc)
          clear J_3 V_3 O_3 Q_3
          have N_4 := Lib.hid ht
          have hT := J_4.out.s6
          refine hK.out _ _ hT (fun _ => ?_)
          clear hK K hS bc ht HX
          have hS := hT
          clear hT
          try simp only [Act.put, List.setIfInBounds_toArray, List.set_cons_zero, List.set_cons_succ]
          clear O_4 Q_4
          refine wpAnyH_ready (rs := [9]) (by kernel_rfl) (by simp) ?_
          refine AllReadyH.cons rfl (fun K hK => ?_) AllReadyH.nil
          have q0 := V_4.out.c0
          have q1 := V_4.out.c1
          have g0 := V_4.out.fr 0
          have g1 := V_4.out.fr 1
          go_simp
          clear q0 q1 g0 g1
          have jj := J_4.out.two V_4.out LV.out (.bool tb) (.slice ta tk tc)
          have vv := V_4.out.set (.bool tb) (.slice ta tk tc)
          have nn := N_4.out.set2 V_4.out (.bool tb) (.slice ta tk tc)
          have hT := jj.s6
          clear J_4 V_4 N_4
          unfold two at jj vv nn hT
          refine hK.out _ _ hT (fun _ => ?_)
          clear hK K hS
          try simp only [Act.put, List.setIfInBounds_toArray, List.set_cons_zero, List.set_cons_succ]
          generalize (U16.setCell ⟨v, 0, none⟩ (.bool tb)).setCell ⟨v, 1, none⟩ (.slice ta tk tc) = U17 at *
          have J9 := Lib.hid jj
          have V9 := Lib.hid vv
          have N9 := Lib.hid nn
          clear jj vv nn hT
          refine wpAnyH_done (by kernel_rfl) ?_ _
          refine NoPanic.normal ?_
          go_wp2_with fail
          go_meet
          case rel => exact ⟨v, tb, ta, tk, tc, rfl, J9.out, V9.out, N9.out, LV.out⟩
      case rest =>
        obtain ⟨v, tb, ta, tk, tc, rfl, hJ, hV, hN, LV⟩ := hcut
        clear JN
        have k0 := hJ.out.s.c0
        have k1 := hJ.out.s.c1
        have v0 := hV.out.c0
        have v1 := hV.out.c1
        have HOV := Lib.hid (Over_c tb pb ta pa tk pk tc pc tt (P : Int) wc hN.out hJ.out.zp (by have := PP0.out; omega) (Nat.lt_of_lt_of_le TB.out (bp_mono (by decide))) PB.out)
        go_wp2_with fail
        clear k0 k1 v0 v1
        (refine HOV.out.mono ?_)
        rintro e w7 ⟨ob, oa, ok, oc, ob', oa', ok', oc', rfl, ho, ho', b7⟩
        have JR7 := Lib.hid (hJ.out.rr.keep b7)
        have V7 := Lib.hid (hV.out.keep b7)
        have N7 := Lib.hid (hN.out.below b7)
        have LL : Hid (w.heap.size + 1 + 1 < v) := by have l1 := hJ.out.lg; have l2 := hJ.out.gh; have l3 := LV.out; unfold Hid; omega
        have HRO := Lib.hid (ratioOf_c ob oa ok oc ob' oa' ok' oc' _ _ w7 ho ho' (Nat.lt_of_le_of_lt (tdiv_abs_le _ _) (Nat.lt_of_lt_of_le TB.out (bp_mono (by decide)))) (Nat.lt_of_le_of_lt (tdiv_abs_le _ _) PB.out) (red_pos (n := tt) (d := (P : Int)) (by have := PP0.out; omega)))
        obtain ⟨rr, hrr⟩ : ∃ rr, raR tt (P : Int) = rr := ⟨_, rfl⟩
        have RS2 : Hid (rnS s.data.toList t.data.toList (m : Int) = rr) := by rw [← hrr]; exact RS.out
        have HRO2 : Hid (Calls Tryz.prog 23 #[.agg #[.bool ob, .slice oa ok oc, .bool ob', .slice oa' ok' oc']] w7 (OpPost rr w7)) := by rw [← hrr]; exact HRO.out
        have RZ : Hid (rr.2.2 ≠ 0 → rr = (⟨#[]⟩, ⟨#[]⟩, rr.2.2)) := by
          unfold Hid
          rw [← hrr]
          unfold raR ra
          split
          · intro h; exact absurd rfl h
          · intro _; rfl
        clear hJ hV hN LV ho ho' b7 HOV HRO hrr RS
        obtain ⟨r1, r2, r3⟩ := rr
        go_wp2_with fail
        refine HRO2.out.mono ?_
        rintro e w8 ⟨rfl, b8⟩
        have JR8 := JR7.out.keep b8
        have V8 := V7.out.keep b8
        have N8 := N7.out.below b8
        obtain ⟨WE, hWE⟩ : ∃ W, w8.alloc (.cells #[.string ⟨#[]⟩, .string ⟨#[]⟩] 23) = W := ⟨_, rfl⟩
        have D1 : B2 WE w8.heap.size (.string ⟨#[]⟩) (.string ⟨#[]⟩) := by rw [← hWE]; exact B2.made _ _ _ _
        obtain ⟨WF, hWF⟩ : ∃ W, two WE w8.heap.size (.string r1) (.string r2) = W := ⟨_, rfl⟩
        have hb : Below w8.heap.size w8 WF := by rw [← hWF]; exact below_two (by rw [← hWE]; exact bel_one _ _) (Nat.le_refl _) _ _
        have D2 : Hid (B2 WF w8.heap.size (.string r1) (.string r2)) := by rw [← hWF]; exact D1.set _ _
        have JR9 := Lib.hid (JR8.keep hb)
        have V9 := Lib.hid (V8.keep hb)
        have N9 := Lib.hid (N8.below hb)
        have LW : Hid (w.heap.size + 1 + 1 < w8.heap.size) := JR8.i.lt
        have a0 := D1.c0
        have a1 := D1.c1
        have af0 := D1.fr 0
        have af1 := D1.fr 1
        unfold two at hWF
        clear D1 hb JR8 V8 N8 b8 HRO2 JR7 V7 N7
        by_cases hr3 : r3 = 0
        · subst hr3
          go_wp2_with fail
          clear hWE hWF a0 a1 af0 af1
          generalize w8.heap.size = u at *
          refine wp_region_noPanic ?_
          refine wp_region_held_drew (S := S4r u v r1 r2 tb ta tk tc) (by kernel_rfl) (show S4r u v r1 r2 tb ta tk tc WF.drew from ⟨D2.out.c0, D2.out.c1, V9.out.c0, V9.out.c1⟩) (fun hS => ?_)
          have JD := Lib.hid (JR9.out.keep (Below.refl _ _).drew)
          have VD := Lib.hid (V9.out.keep (Below.refl _ _).drew)
          have ND := Lib.hid (N9.out.below (Below.refl _ _).drew)
          have DD := Lib.hid (D2.out.keep (Below.refl _ _).drew)
          clear JR9 V9 N9 D2
          generalize WF.drew = WG at *
          refine wpAnyH_take (i := 0) (v := ?v0z29) rfl (by kernel_rfl) (by kernel_rfl) (by kernel_rfl) (fun _ _ _ h => h) (Or.inl ⟨by rfl, ?hy0z29⟩) (by assumption) ?rest0z29
          case hy0z29 =>
            intro w hSw
            dsimp only [S4r] at hSw
            go_simp
            try with_reducible rfl
          simp only [Act.put, List.getElem_toArray, List.getElem_cons_succ, List.getElem_cons_zero, List.setIfInBounds_toArray, List.set_cons_zero, List.set_cons_succ]
          refine wpAnyH_take (i := 1) (v := ?v1z30) rfl (by kernel_rfl) (by kernel_rfl) (by kernel_rfl) (fun _ _ _ h => h) (Or.inl ⟨by rfl, ?hy1z30⟩) (by assumption) ?rest1z30
          case hy1z30 =>
            intro w hSw
            dsimp only [S4r] at hSw
            go_simp
            try with_reducible rfl
          simp only [Act.put, List.getElem_toArray, List.getElem_cons_succ, List.getElem_cons_zero, List.setIfInBounds_toArray, List.set_cons_zero, List.set_cons_succ]
          refine wpAnyH_ready (rs := [2]) (by kernel_rfl) (by simp) ?_
          refine AllReadyH.cons rfl (fun K hK => ?_) AllReadyH.nil
          have q0 := JD.out.r.c0
          have q1 := JD.out.r.c1
          have g0 := JD.out.r.fr 0
          have g1 := JD.out.r.fr 1
          go_simp
          clear q0 q1 g0 g1
          have hT : S4r u v r1 r2 tb ta tk tc (two WG (w.heap.size + 1) (.string r1) (.string r2)) := by
            have l1 := LW.out
            have l2 := LL.out
            have x := DD.out.other (h := w.heap.size + 1) (by omega) (.string r1) (.string r2)
            have z := VD.out.other (h := w.heap.size + 1) (by omega) (.string r1) (.string r2)
            exact ⟨x.c0, x.c1, z.c0, z.c1⟩
          have ii := JD.out.i.other (h := w.heap.size + 1) (by omega) (.string r1) (.string r2)
          unfold two at hT ii
          refine hK.out _ _ hT (fun _ => ?_)
          clear hK K hS
          have hS := hT
          clear hT
          try simp only [Act.put, List.setIfInBounds_toArray, List.set_cons_zero, List.set_cons_succ]
          refine wpAnyH_ready (rs := [3]) (by kernel_rfl) (by simp) ?_
          refine AllReadyH.cons rfl (fun K hK => ?_) AllReadyH.nil
          have q0 := ii.c0
          have q1 := ii.c1
          have g0 := ii.fr 0
          have g1 := ii.fr 1
          go_simp
          clear q0 q1 g0 g1
          have hT : S4r u v r1 r2 tb ta tk tc (res w WG r1 r2 tb ta tk tc) := by
            have l1 := LW.out
            have l2 := LL.out
            have x := (DD.out.other (h := w.heap.size + 1) (by omega) (.string r1) (.string r2)).other (h := w.heap.size + 1 + 1) (by omega) (.bool tb) (.slice ta tk tc)
            have z := (VD.out.other (h := w.heap.size + 1) (by omega) (.string r1) (.string r2)).other (h := w.heap.size + 1 + 1) (by omega) (.bool tb) (.slice ta tk tc)
            exact ⟨x.c0, x.c1, z.c0, z.c1⟩
          have R9 := JD.out.res r1 r2 tb ta tk tc
          have NF : Zn (res w WG r1 r2 tb ta tk tc) tb ta tk tc tt := (ND.out.setS JD.out.r _ _).set2 (JD.out.i.other (by omega) _ _) _ _
          have PP : Hid (RtPost s.data.toList t.data.toList (m : Int) w (.returned (.tuple #[.agg #[.string r1, .string r2], .agg #[.bool tb, .slice ta tk tc], .int .i64 0])) (res w WG r1 r2 tb ta tk tc)) :=
            ⟨tb, ta, tk, tc, by rw [RS2.out], R9.2.2, fun _ => ⟨x, y, E1.out, by omega, by have := HM.out; omega, (by show Zn _ tb ta tk tc (tnR x y m); rw [TT.out]; exact NF), (by show (tnR x y m).natAbs < _; rw [TT.out]; exact TB.out)⟩⟩
          unfold res two at hT R9 PP
          refine hK.out _ _ hT (fun _ => ?_)
          clear hK K hS ii NF
          try simp only [Act.put, List.setIfInBounds_toArray, List.set_cons_zero, List.set_cons_succ]
          refine wpAnyH_take (i := 4) (v := ?v4z31) rfl (by kernel_rfl) (by kernel_rfl) (by kernel_rfl) (fun _ _ _ h => h) (Or.inl ⟨by rfl, ?hy4z31⟩) (by assumption) ?rest4z31
          case hy4z31 =>
            intro w hSw
            dsimp only [S4r] at hSw
            go_simp
            try with_reducible rfl
          simp only [Act.put, List.getElem_toArray, List.getElem_cons_succ, List.getElem_cons_zero, List.setIfInBounds_toArray, List.set_cons_zero, List.set_cons_succ]
          refine wpAnyH_done (by kernel_rfl) ?_ _
          refine NoPanic.normal ?_
          obtain ⟨r0, r1', _, _⟩ := id R9.1
          obtain ⟨i0, i1, _, _⟩ := id R9.2.1
          clear hT R9
          go_wp2_with fail
          exact bodyPost_ret (v := .tuple #[.agg #[.string r1, .string r2], .agg #[.bool tb, .slice ta tk tc], .int .i64 0]) (by simp [results, Tryz.results46, go_sem, r0, r1', i0, i1]) rfl PP.out
        · have hne : (r3 == 0) = false := by rw [beq_eq_false_iff_ne]; exact hr3
          have hne2 : (r3 != 0) = true := by simp [hr3]
          have h3 := RZ.out hr3
          injection h3 with h4 h5
          injection h5 with h5 h6
          subst h4 h5
          have HNZ : Hid (r3 ≠ 0) := hr3
          clear RZ h6 hr3
          obtain ⟨W9, hW9⟩ : ∃ W9, res w WF ⟨#[]⟩ ⟨#[]⟩ false none 0 0 = W9 := ⟨_, rfl⟩
          have R9 := JR9.out.res ⟨#[]⟩ ⟨#[]⟩ false none 0 0
          rw [hW9] at R9
          have PP : Hid (RtPost s.data.toList t.data.toList (m : Int) w (.returned (.tuple #[.agg #[.string ⟨#[]⟩, .string ⟨#[]⟩], .agg #[.bool false, .slice none 0 0], .int .i64 r3])) W9) := ⟨false, none, 0, 0, by rw [RS2.out], R9.2.2, (fun h => by rw [RS2.out] at h; exact absurd h HNZ.out)⟩
          have q0 := JR9.out.r.c0
          have q1 := JR9.out.r.c1
          have g0 := JR9.out.r.fr 0
          have g1 := JR9.out.r.fr 1
          have d0 := JR9.out.i.c0
          have d1 := JR9.out.i.c1
          have e0' := JR9.out.i.fr 0
          have e1' := JR9.out.i.fr 1
          obtain ⟨r0, r1, _, _⟩ := id R9.1
          obtain ⟨i0, i1, _, _⟩ := id R9.2.1
          unfold res two at hW9
          clear R9 JR9
          go_wp2_with fail
          exact bodyPost_ret (v := .tuple #[.agg #[.string ⟨#[]⟩, .string ⟨#[]⟩], .agg #[.bool false, .slice none 0 0], .int .i64 r3]) (by simp [results, Tryz.results46, go_sem, r0, r1, i0, i1]) rfl PP.out
  · have hne : (flt == 0) = false := by rw [beq_eq_false_iff_ne]; exact hz
    have hne2 : (flt != 0) = true := by simp [hz]
    have RS : Hid (rnS s.data.toList t.data.toList p = (⟨#[]⟩, ⟨#[]⟩, flt)) := by
      unfold Hid rnS
      obtain ⟨h1, h2⟩ := (P1.out.resolve_left (fun q => hz q.1)).2
      rw [h1, h2]
    have HNZ : Hid (flt ≠ 0) := hz
    clear hz P1 L5
    obtain ⟨W9, hW9⟩ : ∃ W9, res w W5 ⟨#[]⟩ ⟨#[]⟩ false none 0 0 = W9 := ⟨_, rfl⟩
    have R9 := JR5.out.res ⟨#[]⟩ ⟨#[]⟩ false none 0 0
    rw [hW9] at R9
    have PP : Hid (RtPost s.data.toList t.data.toList p w (.returned (.tuple #[.agg #[.string ⟨#[]⟩, .string ⟨#[]⟩], .agg #[.bool false, .slice none 0 0], .int .i64 flt])) W9) := ⟨false, none, 0, 0, by rw [RS.out], R9.2.2, (fun h => by rw [RS.out] at h; exact absurd h HNZ.out)⟩
    have q0 := JR5.out.r.c0
    have q1 := JR5.out.r.c1
    have g0 := JR5.out.r.fr 0
    have g1 := JR5.out.r.fr 1
    have d0 := JR5.out.i.c0
    have d1 := JR5.out.i.c1
    have e0' := JR5.out.i.fr 0
    have e1' := JR5.out.i.fr 1
    obtain ⟨r0, r1, _, _⟩ := id R9.1
    obtain ⟨i0, i1, _, _⟩ := id R9.2.1
    unfold res two at hW9
    clear R9 JR5
    go_wp2_with fail
    exact bodyPost_ret (v := .tuple #[.agg #[.string ⟨#[]⟩, .string ⟨#[]⟩], .agg #[.bool false, .slice none 0 0], .int .i64 flt]) (by simp [results, Tryz.results46, go_sem, r0, r1, i0, i1]) rfl PP.out
end Go.Proofs.YtfijhkaalpinhaaGreatDoor
