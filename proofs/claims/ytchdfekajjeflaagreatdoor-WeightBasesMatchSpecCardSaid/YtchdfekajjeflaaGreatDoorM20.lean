/-
  The reference's exact fractions: Ratio.
  Package weight's reference: a row of ratios that grows.
  Fractions of whole numbers of any size: Inverse.
  Package weight: Bases.
-/
import Derived.Test.YtchdfekajjeflaaGreatDoorM18
import Derived.Test.YtchdfekajjeflaaGreatDoorM19
import Derived.Test.YtchdfekajjeflaaGreatDoorM08
namespace Go.Proofs.YtchdfekajjeflaaGreatDoor
open Go.RowKit

/-- Ratio's fraction in lowest terms, its result, and the numbers. -/
structure Rt (w : World) (g : Nat) (sb : Bool) (na : Option Addr) (nk nc : Nat) (ea : Option Addr) (ek ec : Nat) (m e : Nat) (W : World) : Prop where
  x : Q3 W g (.bool sb) (.slice na nk nc) (.slice ea ek ec)
  r : B2 W (w.heap.size + 1) (.string ⟨#[]⟩) (.string ⟨#[]⟩)
  n : Nt W na nk nc m
  e : Nt W ea ek ec e
  pow : Pow W
  bel : Below w.heap.size w W
  lo : w.heap.size + 1 < g
theorem Rt.keep {w : World} {g : Nat} {sb : Bool} {na : Option Addr} {nk nc : Nat} {ea : Option Addr} {ek ec : Nat} {m e : Nat} {W W' : World} (h : Rt w g sb na nk nc ea ek ec m e W) (hb : Below W.heap.size W W') : Rt w g sb na nk nc ea ek ec m e W' :=
  ⟨h.x.keep hb, h.r.keep hb, h.n.below hb, h.e.below hb, h.pow.below hb, h.bel.trans (hb.mono h.bel.size), h.lo⟩
/-- The cells of a fraction's two numbers. -/
def S2x (g : Nat) (na : Option Addr) (nk nc : Nat) (ea : Option Addr) (ek ec : Nat) (W : World) : Prop :=
  W.cell? ⟨g, 1, none⟩ = some (.slice na nk nc) ∧ W.cell? ⟨g, 2, none⟩ = some (.slice ea ek ec)
theorem Rt.s2 {w : World} {g : Nat} {sb : Bool} {na : Option Addr} {nk nc : Nat} {ea : Option Addr} {ek ec : Nat} {m e : Nat} {W : World} (h : Rt w g sb na nk nc ea ek ec m e W) : S2x g na nk nc ea ek ec W := ⟨h.x.c1, h.x.c2⟩
theorem shV_and (b : Bool) (m e : Nat) : shV (b && decide (0 < m)) m e = shV b m e := by
  unfold shV
  cases b <;> cases h : decide (0 < m) <;> simp
set_option maxRecDepth 100000 in
set_option maxHeartbeats 4000000 in
theorem ratio_c (b : Bool) (a1 a2 : Option Addr) (c1 c2 k1 k2 p d : Nat) (w : World) (h1 : Nt w a1 k1 c1 p) (h2 : Nt w a2 k2 c2 d) (hd : 0 < d) (hn9 : p < tp 90000) (hd9 : d < tp 90000) (hE : Pow w) :
    Calls Tryz.prog 18 #[.agg #[.bool b, .slice a1 k1 c1, .slice a2 k2 c2]] w (OpPost (raR (zv b p) d) w) := by
  obtain ⟨W0, hW0⟩ : ∃ W0, (w.alloc (.cells #[.bool b, .slice a1 k1 c1, .slice a2 k2 c2] 50)).alloc (.cells #[.string ⟨#[]⟩, .string ⟨#[]⟩] 29) = W0 := ⟨_, rfl⟩
  have s1 : (w.alloc (.cells #[.bool b, .slice a1 k1 c1, .slice a2 k2 c2] 50)).heap.size = w.heap.size + 1 := by simp
  have B0 : Hid (Below w.heap.size w W0) := by rw [← hW0]; exact ((Below.refl _ _).alloc (Nat.le_refl _) _).alloc (by simp) _
  have X0 : Q3 W0 w.heap.size (.bool b) (.slice a1 k1 c1) (.slice a2 k2 c2) := by rw [← hW0]; exact (Q3.made w _ _ _ _).keep (bel_one _ _)
  have R0 : Hid (B2 W0 (w.heap.size + 1) (.string ⟨#[]⟩) (.string ⟨#[]⟩)) := by rw [← hW0, ← s1]; exact B2.made _ _ _ _
  have P0 := Lib.hid (hE.below B0.out)
  have HL := Lib.hid (lowest_c b a1 a2 c1 c2 k1 k2 p d W0 (h1.below B0.out) (h2.below B0.out) hd hn9 hd9)
  obtain ⟨m, hm⟩ : ∃ m, p / Nat.gcd p d = m := ⟨_, rfl⟩
  obtain ⟨e, he⟩ : ∃ e, d / Nat.gcd p d = e := ⟨_, rfl⟩
  obtain ⟨sb, hsb⟩ : ∃ sb, (b && decide (0 < p)) = sb := ⟨_, rfl⟩
  obtain ⟨rr, hrr⟩ : ∃ rr, raR (zv b p) d = rr := ⟨_, rfl⟩
  have hpm : decide (0 < p) = decide (0 < m) := by
    have hg : 0 < Nat.gcd p d := Nat.gcd_pos_of_pos_right _ hd
    rw [← hm]
    apply decide_eq_decide.2
    constructor
    · intro h; exact Nat.div_pos (Nat.le_of_dvd h (Nat.gcd_dvd_left _ _)) hg
    · intro h
      rcases Nat.eq_zero_or_pos p with e | e
      · subst e; rw [Nat.zero_div] at h; omega
      · exact e
  have RS : Hid (rr = shV sb m e) := by unfold Hid; rw [← hrr, raR_zv b p d hd, hm, he, ← hsb, hpm, shV_and]
  have SBM : Hid ((sb && decide (0 < m)) = sb) := by unfold Hid; rw [← hsb, hpm]; cases b <;> cases decide (0 < m) <;> rfl
  rw [hm, he, hsb] at HL
  rw [hrr]
  have x0 := X0.c0
  have x1 := X0.c1
  have x2 := X0.c2
  clear h1 h2 hE hd hn9 hd9 X0 s1 hm he hsb hpm hrr
  go_enter Tryz.func18, Tryz.ntmps18
  go_wp2_with fail
  clear hW0 x0 x1 x2
  (with_reducible refine HL.out.mono ?_)
  rintro e0 w2 ⟨na, nk, nc, ea, ek, ec, rfl, l1, l2, b2⟩
  have R2 := Lib.hid (R0.out.keep b2)
  have B2 := Lib.hid (B0.out.trans (b2.mono B0.out.size))
  have P2 := Lib.hid (P0.out.below b2)
  have L1 := Lib.hid l1
  have L2 := Lib.hid l2
  clear HL R0 B0 P0 l1 l2 b2
  obtain ⟨W3, hW3⟩ : ∃ W3, w2.alloc (.cells #[.bool false, .slice none 0 0, .slice none 0 0] 50) = W3 := ⟨_, rfl⟩
  have J3 : Q3 W3 w2.heap.size (.bool false) (.slice none 0 0) (.slice none 0 0) := by rw [← hW3]; exact Q3.made _ _ _ _ _
  have b3 : Below w2.heap.size w2 W3 := by rw [← hW3]; exact bel_one _ _
  obtain ⟨WX, hWX⟩ : ∃ WX, trio W3 w2.heap.size (.bool sb) (.slice na nk nc) (.slice ea ek ec) = WX := ⟨_, rfl⟩
  have bx : Below w2.heap.size w2 WX := by rw [← hWX]; exact below_trio b3 (Nat.le_refl _) _ _ _
  have JX : Hid (Rt w w2.heap.size sb na nk nc ea ek ec m e WX) :=
    ⟨by rw [← hWX]; exact J3.set _ _ _, R2.out.keep bx, L1.out.below bx, L2.out.below bx, P2.out.below bx, B2.out.trans (bx.mono B2.out.size), R2.out.lt⟩
  obtain ⟨r0, r1, r2, rf, _⟩ := J3
  have rf0 := rf 0
  have rf1 := rf 1
  have rf2 := rf 2
  obtain ⟨t0, t1, t2, _, _⟩ := id JX.out.x
  clear rf L1 L2 R2 B2 P2 b3 bx
  unfold trio at hWX
  go_wp2_with fail
  clear hWX hW3 t0 t1 t2 r0 r1 r2 rf0 rf1 rf2
  generalize w2.heap.size = g at *
  refine wp_region_noPanic ?_
  refine wp_region_held_drew (S := S2x g na nk nc ea ek ec) (by kernel_rfl) (JX.out.keep (Below.refl _ _).drew).s2 (fun hS => ?_)
  have J_0 := Lib.hid (JX.out.keep (Below.refl _ _).drew)
  clear JX
  generalize WX.drew = WD at *
  refine wpAnyH_take (i := 0) (v := ?v0z1) rfl (by kernel_rfl) (by kernel_rfl) (by kernel_rfl) (fun _ _ _ h => h) (Or.inl ⟨by rfl, ?hy0z1⟩) (by assumption) ?rest0z1
  case hy0z1 =>
    intro w hSw
    dsimp only [S2x] at hSw
    go_simp
    try with_reducible rfl
  simp only [Act.put, List.getElem_toArray, List.getElem_cons_succ, List.getElem_cons_zero, List.setIfInBounds_toArray, List.set_cons_zero, List.set_cons_succ]
  refine wpAnyH_take (i := 1) (v := ?v1z2) rfl (by kernel_rfl) (by kernel_rfl) (by kernel_rfl) (fun _ _ _ h => h) (Or.inl ⟨by rfl, ?hy1z2⟩) (by assumption) ?rest1z2
  case hy1z2 =>
    intro w hSw
    dsimp only [S2x] at hSw
    go_simp
    try with_reducible rfl
  simp only [Act.put, List.getElem_toArray, List.getElem_cons_succ, List.getElem_cons_zero, List.setIfInBounds_toArray, List.set_cons_zero, List.set_cons_succ]
  refine wpAnyH_take (i := 3) (v := ?v3z3) rfl (by kernel_rfl) (by kernel_rfl) (by kernel_rfl) (fun _ _ _ h => h) (Or.inl ⟨by rfl, ?hy3z3⟩) (by assumption) ?rest3z3
  case hy3z3 =>
    intro w hSw
    dsimp only [S2x] at hSw
    go_simp
    try with_reducible rfl
  simp only [Act.put, List.getElem_toArray, List.getElem_cons_succ, List.getElem_cons_zero, List.setIfInBounds_toArray, List.set_cons_zero, List.set_cons_succ]
  refine wpAnyH_take (i := 4) (v := ?v4z4) rfl (by kernel_rfl) (by kernel_rfl) (by kernel_rfl) (fun _ _ _ h => h) (Or.inl ⟨by rfl, ?hy4z4⟩) (by assumption) ?rest4z4
  case hy4z4 =>
    intro w hSw
    dsimp only [S2x] at hSw
    go_simp
    try with_reducible rfl
  simp only [Act.put, List.getElem_toArray, List.getElem_cons_succ, List.getElem_cons_zero, List.setIfInBounds_toArray, List.set_cons_zero, List.set_cons_succ]
  refine wpAnyH_ready (rs := [2, 7]) (by kernel_rfl) (by simp) ?_
  refine AllReadyH.cons rfl (fun K hK => ?_) (AllReadyH.cons rfl (fun K hK => ?_) AllReadyH.nil)
  · go_simp
    (refine (rtext_c na nk nc m WD J_0.out.n J_0.out.pow).mono ?_)
    rintro e0 W1x ⟨rfl, bc⟩
    try go_simp
    have J_1 := Lib.hid (J_0.out.keep bc)
    have hT := J_1.out.s2
    refine hK.out _ _ hT (fun _ => ?_)
    clear hK K hS bc J_0
    have hS := hT
    clear hT
    try simp only [Act.put, List.setIfInBounds_toArray, List.set_cons_zero, List.set_cons_succ]
    refine wpAnyH_ready (rs := [5, 7]) (by kernel_rfl) (by simp) ?_
    refine AllReadyH.cons rfl (fun K hK => ?_) (AllReadyH.cons rfl (fun K hK => ?_) AllReadyH.nil)
    · go_simp
      (refine (rtext_c ea ek ec e W1x J_1.out.e J_1.out.pow).mono ?_)
      rintro e0 W2x ⟨rfl, bc⟩
      try go_simp
      have J_2 := Lib.hid (J_1.out.keep bc)
      have hT := J_2.out.s2
      refine hK.out _ _ hT (fun _ => ?_)
      clear hK K hS bc J_1
      have hS := hT
      clear hT
      try simp only [Act.put, List.setIfInBounds_toArray, List.set_cons_zero, List.set_cons_succ]
      refine wpAnyH_take (i := 6) (v := ?v6z5) rfl (by kernel_rfl) (by kernel_rfl) (by kernel_rfl) (fun _ _ _ h => h) (Or.inl ⟨by rfl, ?hy6z5⟩) (by assumption) ?rest6z5
      case hy6z5 =>
        intro w hSw
        dsimp only [S2x] at hSw
        go_simp
        try with_reducible rfl
      simp only [Act.put, List.getElem_toArray, List.getElem_cons_succ, List.getElem_cons_zero, List.setIfInBounds_toArray, List.set_cons_zero, List.set_cons_succ]
      refine wpAnyH_ready (rs := [7]) (by kernel_rfl) (by simp) ?_
      refine AllReadyH.cons rfl (fun K hK => ?_) AllReadyH.nil
      go_simp
      have bc := bel_one W2x (.cells #[.string ⟨#[]⟩, .string ⟨#[]⟩] 29)
      have J_3 := Lib.hid (J_2.out.keep bc)
      have NE : Hid (W2x.heap.size ≠ g ∧ w.heap.size + 1 < W2x.heap.size) := by have := J_2.out.x.lt; have := J_2.out.lo; unfold Hid; omega
      have D_3 : Hid (B2 (W2x.alloc (.cells #[.string ⟨#[]⟩, .string ⟨#[]⟩] 29)) W2x.heap.size (.string ⟨#[]⟩) (.string ⟨#[]⟩)) := B2.made _ _ _ _
      have hT := J_3.out.s2
      refine hK.out _ _ hT (fun _ => ?_)
      clear hK K hS bc J_2
      try simp only [Act.put, List.setIfInBounds_toArray, List.set_cons_zero, List.set_cons_succ]
      generalize W2x.alloc (.cells #[.string ⟨#[]⟩, .string ⟨#[]⟩] 29) = W3x at *
      generalize W2x.heap.size = h at *
      have hS := hT
      clear hT
      refine wpAnyH_ready (rs := [8]) (by kernel_rfl) (by simp) ?_
      refine AllReadyH.cons rfl (fun K hK => ?_) AllReadyH.nil
      have q0 := D_3.out.c0
      have q1 := D_3.out.c1
      have g0 := D_3.out.fr 0
      have g1 := D_3.out.fr 1
      go_simp
      clear q0 q1 g0 g1
      have hT : S2x g na nk nc ea ek ec (two W3x h (.string (decB m)) (.string (decB e))) := ⟨(two_cell NE.out.1 _ _ 1).trans J_3.out.x.c1, (two_cell NE.out.1 _ _ 2).trans J_3.out.x.c2⟩
      have JR : Hid (B2 (two W3x h (.string (decB m)) (.string (decB e))) (w.heap.size + 1) (.string ⟨#[]⟩) (.string ⟨#[]⟩)) := J_3.out.r.other (by have := NE.out.2; omega) _ _
      have JB : Hid (Below w.heap.size w (two W3x h (.string (decB m)) (.string (decB e)))) := below_two J_3.out.bel (by have := NE.out.2; omega) _ _
      have D2 : Hid (B2 (two W3x h (.string (decB m)) (.string (decB e))) h (.string (decB m)) (.string (decB e))) := D_3.out.set _ _
      have q0 : (two W3x h (.string (decB m)) (.string (decB e))).cell? ⟨g, 0, none⟩ = some (.bool sb) := (two_cell NE.out.1 _ _ 0).trans J_3.out.x.c0
      have GE : Hid (w.heap.size + 1 < h) := NE.out.2
      clear J_3 D_3 NE
      unfold two at hT JR JB D2 q0
      refine hK.out _ _ hT (fun _ => ?_)
      clear hK K hS hT
      try simp only [Act.put, List.setIfInBounds_toArray, List.set_cons_zero, List.set_cons_succ]
      refine wpAnyH_done (by kernel_rfl) ?_ _
      refine NoPanic.normal ?_
      generalize (W3x.setCell ⟨h, 0, none⟩ (.string (decB m))).setCell ⟨h, 1, none⟩ (.string (decB e)) = WB at *
      have p0 := D2.out.c0
      have p1 := D2.out.c1
      have hms := decB_size m
      have hes := decB_size e
      by_cases f1 : (Lib.decDigits m).length ≤ 2000
      · have i1 : ¬ (2000 : Int) < ((decB m).size : Int) := by omega
        by_cases f2 : (Lib.decDigits e).length ≤ 2000
        · have i2 : ¬ (2000 : Int) < ((decB e).size : Int) := by omega
          have VS : Hid (shV sb m e = ((if (sb && decide (0 < m)) = true then ⟨#[45]⟩ ++ decB m else decB m), decB e, 0)) := by unfold Hid shV; rw [if_pos (by simp [f1, f2])]
          have hmb : ¬ (9223372036854775807 : Int) < 1 + ((decB m).size : Int) := by omega
          have hmb' : ¬ 9223372036854775807 < 1 + (decB m).size := by omega
          clear f1 f2 hms hes
          cases sb
          · have RS2 : Hid (rr = (decB m, decB e, 0)) := by unfold Hid; rw [RS.out, VS.out]; rfl
            clear RS VS hmb hmb'
            obtain ⟨W9, hW9⟩ : ∃ W9, two WB (w.heap.size + 1) (.string (decB m)) (.string (decB e)) = W9 := ⟨_, rfl⟩
            have R9 : B2 W9 (w.heap.size + 1) (.string (decB m)) (.string (decB e)) := by rw [← hW9]; exact JR.out.set _ _
            have PP : Hid (OpPost rr w (.returned (.tuple #[.agg #[.string (decB m), .string (decB e)], .int .i64 0])) W9) := by
              rw [← hW9]
              exact ⟨by rw [RS2.out], below_two JB.out (by omega) _ _⟩
            have c0 := JR.out.c0
            have c1' := JR.out.c1
            have cf0 := JR.out.fr 0
            have cf1 := JR.out.fr 1
            obtain ⟨r0, r1, _, _⟩ := id R9
            unfold two at hW9
            clear R9
            go_wp2_with fail
            exact bodyPost_ret (v := .tuple #[.agg #[.string (decB m), .string (decB e)], .int .i64 0]) (by simp [results, Tryz.results18, go_sem, r0, r1]) rfl PP.out
          · have RS2 : Hid (rr = (⟨#[45]⟩ ++ decB m, decB e, 0)) := by
              unfold Hid
              rw [RS.out, VS.out, SBM.out]
              rfl
            clear RS VS
            obtain ⟨WC, hWC⟩ : ∃ W, WB.setCell ⟨h, 0, none⟩ (.string (⟨#[45]⟩ ++ decB m)) = W := ⟨_, rfl⟩
            have JR2 : Hid (B2 WC (w.heap.size + 1) (.string ⟨#[]⟩) (.string ⟨#[]⟩)) := by
              rw [← hWC]
              have ne : ∀ o, (⟨h, 0, none⟩ : Addr) ≠ ⟨w.heap.size + 1, o, none⟩ := fun o e => by injection e with e1 _; have := GE.out; omega
              exact ⟨(World.cell?_setCell_other _ _ _ _ (ne 0)).trans JR.out.c0, (World.cell?_setCell_other _ _ _ _ (ne 1)).trans JR.out.c1, fun o => by rw [World.frozen?_setCell]; exact JR.out.fr o, by simpa using JR.out.lt⟩
            have JB2 : Hid (Below w.heap.size w WC) := by
              rw [← hWC]
              exact JB.out.setCell (p := ⟨h, 0, none⟩) (by have := GE.out; show w.heap.size ≤ h; omega) _
            have v0 : WC.cell? ⟨h, 0, none⟩ = some (.string (⟨#[45]⟩ ++ decB m)) := by rw [← hWC]; exact World.cell?_setCell_same _ _ _ p0
            have v1 : WC.cell? ⟨h, 1, none⟩ = some (.string (decB e)) := by rw [← hWC, World.cell?_setCell_other _ _ _ _ (qne (by decide))]; exact p1
            have pf0 := D2.out.fr 0
            clear JR JB D2
            have JR := JR2
            have JB := JB2
            clear JR2 JB2
            obtain ⟨W9, hW9⟩ : ∃ W9, two WC (w.heap.size + 1) (.string (⟨#[45]⟩ ++ decB m)) (.string (decB e)) = W9 := ⟨_, rfl⟩
            have R9 : B2 W9 (w.heap.size + 1) (.string (⟨#[45]⟩ ++ decB m)) (.string (decB e)) := by rw [← hW9]; exact JR.out.set _ _
            have PP : Hid (OpPost rr w (.returned (.tuple #[.agg #[.string (⟨#[45]⟩ ++ decB m), .string (decB e)], .int .i64 0])) W9) := by
              rw [← hW9]
              exact ⟨by rw [RS2.out], below_two JB.out (by omega) _ _⟩
            have c0 := JR.out.c0
            have c1' := JR.out.c1
            have cf0 := JR.out.fr 0
            have cf1 := JR.out.fr 1
            obtain ⟨r0, r1, _, _⟩ := id R9
            unfold two at hW9
            clear R9
            go_wp2_with fail
            exact bodyPost_ret (v := .tuple #[.agg #[.string (⟨#[45]⟩ ++ decB m), .string (decB e)], .int .i64 0]) (by simp [results, Tryz.results18, go_sem, r0, r1]) rfl PP.out
        · have i2 : (2000 : Int) < ((decB e).size : Int) := by omega
          have RS2 : Hid (rr = (⟨#[]⟩, ⟨#[]⟩, 2)) := by unfold Hid; rw [RS.out]; unfold shV; rw [if_neg (by simp [f2])]
          clear f1 f2 RS hms hes
          obtain ⟨W9, hW9⟩ : ∃ W9, two WB (w.heap.size + 1) (.string ⟨#[]⟩) (.string ⟨#[]⟩) = W9 := ⟨_, rfl⟩
          have R9 : B2 W9 (w.heap.size + 1) (.string ⟨#[]⟩) (.string ⟨#[]⟩) := by rw [← hW9]; exact JR.out.set _ _
          have PP : Hid (OpPost rr w (.returned (.tuple #[.agg #[.string ⟨#[]⟩, .string ⟨#[]⟩], .int .i64 2])) W9) := by
            rw [← hW9]
            exact ⟨by rw [RS2.out], below_two JB.out (by omega) _ _⟩
          have c0 := JR.out.c0
          have c1' := JR.out.c1
          have cf0 := JR.out.fr 0
          have cf1 := JR.out.fr 1
          obtain ⟨r0, r1, _, _⟩ := id R9
          unfold two at hW9
          clear R9
          go_wp2_with fail
          exact bodyPost_ret (v := .tuple #[.agg #[.string ⟨#[]⟩, .string ⟨#[]⟩], .int .i64 2]) (by simp [results, Tryz.results18, go_sem, r0, r1]) rfl PP.out
      · have i1 : (2000 : Int) < ((decB m).size : Int) := by omega
        have RS2 : Hid (rr = (⟨#[]⟩, ⟨#[]⟩, 2)) := by unfold Hid; rw [RS.out]; unfold shV; rw [if_neg (by simp [f1])]
        clear f1 RS hms hes
        obtain ⟨W9, hW9⟩ : ∃ W9, two WB (w.heap.size + 1) (.string ⟨#[]⟩) (.string ⟨#[]⟩) = W9 := ⟨_, rfl⟩
        have R9 : B2 W9 (w.heap.size + 1) (.string ⟨#[]⟩) (.string ⟨#[]⟩) := by rw [← hW9]; exact JR.out.set _ _
        have PP : Hid (OpPost rr w (.returned (.tuple #[.agg #[.string ⟨#[]⟩, .string ⟨#[]⟩], .int .i64 2])) W9) := by
          rw [← hW9]
          exact ⟨by rw [RS2.out], below_two JB.out (by omega) _ _⟩
        have c0 := JR.out.c0
        have c1' := JR.out.c1
        have cf0 := JR.out.fr 0
        have cf1 := JR.out.fr 1
        obtain ⟨r0, r1, _, _⟩ := id R9
        unfold two at hW9
        clear R9
        go_wp2_with fail
        exact bodyPost_ret (v := .tuple #[.agg #[.string ⟨#[]⟩, .string ⟨#[]⟩], .int .i64 2]) (by simp [results, Tryz.results18, go_sem, r0, r1]) rfl PP.out
    · go_simp
      have bc := bel_one W1x (.cells #[.string ⟨#[]⟩, .string ⟨#[]⟩] 29)
      have J_2 := Lib.hid (J_1.out.keep bc)
      have NE : Hid (W1x.heap.size ≠ g ∧ w.heap.size + 1 < W1x.heap.size) := by have := J_1.out.x.lt; have := J_1.out.lo; unfold Hid; omega
      have D_2 : Hid (B2 (W1x.alloc (.cells #[.string ⟨#[]⟩, .string ⟨#[]⟩] 29)) W1x.heap.size (.string ⟨#[]⟩) (.string ⟨#[]⟩)) := B2.made _ _ _ _
      have hT := J_2.out.s2
      refine hK.out _ _ hT (fun _ => ?_)
      clear hK K hS bc J_1
      try simp only [Act.put, List.setIfInBounds_toArray, List.set_cons_zero, List.set_cons_succ]
      generalize W1x.alloc (.cells #[.string ⟨#[]⟩, .string ⟨#[]⟩] 29) = W4x at *
      generalize W1x.heap.size = h at *
      have hS := hT
      clear hT
      refine wpAnyH_ready (rs := [5]) (by kernel_rfl) (by simp) ?_
      refine AllReadyH.cons rfl (fun K hK => ?_) AllReadyH.nil
      go_simp
      (refine (rtext_c ea ek ec e W4x J_2.out.e J_2.out.pow).mono ?_)
      rintro e0 W5x ⟨rfl, bc⟩
      try go_simp
      have J_3 := Lib.hid (J_2.out.keep bc)
      have D_3 := Lib.hid (D_2.out.keep bc)
      have hT := J_3.out.s2
      refine hK.out _ _ hT (fun _ => ?_)
      clear hK K hS bc J_2 D_2
      have hS := hT
      clear hT
      try simp only [Act.put, List.setIfInBounds_toArray, List.set_cons_zero, List.set_cons_succ]
      refine wpAnyH_take (i := 6) (v := ?v6z6) rfl (by kernel_rfl) (by kernel_rfl) (by kernel_rfl) (fun _ _ _ h => h) (Or.inl ⟨by rfl, ?hy6z6⟩) (by assumption) ?rest6z6
      case hy6z6 =>
        intro w hSw
        dsimp only [S2x] at hSw
        go_simp
        try with_reducible rfl
      simp only [Act.put, List.getElem_toArray, List.getElem_cons_succ, List.getElem_cons_zero, List.setIfInBounds_toArray, List.set_cons_zero, List.set_cons_succ]
      refine wpAnyH_ready (rs := [8]) (by kernel_rfl) (by simp) ?_
      refine AllReadyH.cons rfl (fun K hK => ?_) AllReadyH.nil
      have q0 := D_3.out.c0
      have q1 := D_3.out.c1
      have g0 := D_3.out.fr 0
      have g1 := D_3.out.fr 1
      go_simp
      clear q0 q1 g0 g1
      have hT : S2x g na nk nc ea ek ec (two W5x h (.string (decB m)) (.string (decB e))) := ⟨(two_cell NE.out.1 _ _ 1).trans J_3.out.x.c1, (two_cell NE.out.1 _ _ 2).trans J_3.out.x.c2⟩
      have JR : Hid (B2 (two W5x h (.string (decB m)) (.string (decB e))) (w.heap.size + 1) (.string ⟨#[]⟩) (.string ⟨#[]⟩)) := J_3.out.r.other (by have := NE.out.2; omega) _ _
      have JB : Hid (Below w.heap.size w (two W5x h (.string (decB m)) (.string (decB e)))) := below_two J_3.out.bel (by have := NE.out.2; omega) _ _
      have D2 : Hid (B2 (two W5x h (.string (decB m)) (.string (decB e))) h (.string (decB m)) (.string (decB e))) := D_3.out.set _ _
      have q0 : (two W5x h (.string (decB m)) (.string (decB e))).cell? ⟨g, 0, none⟩ = some (.bool sb) := (two_cell NE.out.1 _ _ 0).trans J_3.out.x.c0
      have GE : Hid (w.heap.size + 1 < h) := NE.out.2
      clear J_3 D_3 NE
      unfold two at hT JR JB D2 q0
      refine hK.out _ _ hT (fun _ => ?_)
      clear hK K hS hT
      try simp only [Act.put, List.setIfInBounds_toArray, List.set_cons_zero, List.set_cons_succ]
      refine wpAnyH_done (by kernel_rfl) ?_ _
      refine NoPanic.normal ?_
      generalize (W5x.setCell ⟨h, 0, none⟩ (.string (decB m))).setCell ⟨h, 1, none⟩ (.string (decB e)) = WB at *
      have p0 := D2.out.c0
      have p1 := D2.out.c1
      have hms := decB_size m
      have hes := decB_size e
      by_cases f1 : (Lib.decDigits m).length ≤ 2000
      · have i1 : ¬ (2000 : Int) < ((decB m).size : Int) := by omega
        by_cases f2 : (Lib.decDigits e).length ≤ 2000
        · have i2 : ¬ (2000 : Int) < ((decB e).size : Int) := by omega
          have VS : Hid (shV sb m e = ((if (sb && decide (0 < m)) = true then ⟨#[45]⟩ ++ decB m else decB m), decB e, 0)) := by unfold Hid shV; rw [if_pos (by simp [f1, f2])]
          have hmb : ¬ (9223372036854775807 : Int) < 1 + ((decB m).size : Int) := by omega
          have hmb' : ¬ 9223372036854775807 < 1 + (decB m).size := by omega
          clear f1 f2 hms hes
          cases sb
          · have RS2 : Hid (rr = (decB m, decB e, 0)) := by unfold Hid; rw [RS.out, VS.out]; rfl
            clear RS VS hmb hmb'
            obtain ⟨W9, hW9⟩ : ∃ W9, two WB (w.heap.size + 1) (.string (decB m)) (.string (decB e)) = W9 := ⟨_, rfl⟩
            have R9 : B2 W9 (w.heap.size + 1) (.string (decB m)) (.string (decB e)) := by rw [← hW9]; exact JR.out.set _ _
            have PP : Hid (OpPost rr w (.returned (.tuple #[.agg #[.string (decB m), .string (decB e)], .int .i64 0])) W9) := by
              rw [← hW9]
              exact ⟨by rw [RS2.out], below_two JB.out (by omega) _ _⟩
            have c0 := JR.out.c0
            have c1' := JR.out.c1
            have cf0 := JR.out.fr 0
            have cf1 := JR.out.fr 1
            obtain ⟨r0, r1, _, _⟩ := id R9
            unfold two at hW9
            clear R9
            go_wp2_with fail
            exact bodyPost_ret (v := .tuple #[.agg #[.string (decB m), .string (decB e)], .int .i64 0]) (by simp [results, Tryz.results18, go_sem, r0, r1]) rfl PP.out
          · have RS2 : Hid (rr = (⟨#[45]⟩ ++ decB m, decB e, 0)) := by
              unfold Hid
              rw [RS.out, VS.out, SBM.out]
              rfl
            clear RS VS
            obtain ⟨WC, hWC⟩ : ∃ W, WB.setCell ⟨h, 0, none⟩ (.string (⟨#[45]⟩ ++ decB m)) = W := ⟨_, rfl⟩
            have JR2 : Hid (B2 WC (w.heap.size + 1) (.string ⟨#[]⟩) (.string ⟨#[]⟩)) := by
              rw [← hWC]
              have ne : ∀ o, (⟨h, 0, none⟩ : Addr) ≠ ⟨w.heap.size + 1, o, none⟩ := fun o e => by injection e with e1 _; have := GE.out; omega
              exact ⟨(World.cell?_setCell_other _ _ _ _ (ne 0)).trans JR.out.c0, (World.cell?_setCell_other _ _ _ _ (ne 1)).trans JR.out.c1, fun o => by rw [World.frozen?_setCell]; exact JR.out.fr o, by simpa using JR.out.lt⟩
            have JB2 : Hid (Below w.heap.size w WC) := by
              rw [← hWC]
              exact JB.out.setCell (p := ⟨h, 0, none⟩) (by have := GE.out; show w.heap.size ≤ h; omega) _
            have v0 : WC.cell? ⟨h, 0, none⟩ = some (.string (⟨#[45]⟩ ++ decB m)) := by rw [← hWC]; exact World.cell?_setCell_same _ _ _ p0
            have v1 : WC.cell? ⟨h, 1, none⟩ = some (.string (decB e)) := by rw [← hWC, World.cell?_setCell_other _ _ _ _ (qne (by decide))]; exact p1
            have pf0 := D2.out.fr 0
            clear JR JB D2
            have JR := JR2
            have JB := JB2
            clear JR2 JB2
            obtain ⟨W9, hW9⟩ : ∃ W9, two WC (w.heap.size + 1) (.string (⟨#[45]⟩ ++ decB m)) (.string (decB e)) = W9 := ⟨_, rfl⟩
            have R9 : B2 W9 (w.heap.size + 1) (.string (⟨#[45]⟩ ++ decB m)) (.string (decB e)) := by rw [← hW9]; exact JR.out.set _ _
            have PP : Hid (OpPost rr w (.returned (.tuple #[.agg #[.string (⟨#[45]⟩ ++ decB m), .string (decB e)], .int .i64 0])) W9) := by
              rw [← hW9]
              exact ⟨by rw [RS2.out], below_two JB.out (by omega) _ _⟩
            have c0 := JR.out.c0
            have c1' := JR.out.c1
            have cf0 := JR.out.fr 0
            have cf1 := JR.out.fr 1
            obtain ⟨r0, r1, _, _⟩ := id R9
            unfold two at hW9
            clear R9
            go_wp2_with fail
            exact bodyPost_ret (v := .tuple #[.agg #[.string (⟨#[45]⟩ ++ decB m), .string (decB e)], .int .i64 0]) (by simp [results, Tryz.results18, go_sem, r0, r1]) rfl PP.out
        · have i2 : (2000 : Int) < ((decB e).size : Int) := by omega
          have RS2 : Hid (rr = (⟨#[]⟩, ⟨#[]⟩, 2)) := by unfold Hid; rw [RS.out]; unfold shV; rw [if_neg (by simp [f2])]
          clear f1 f2 RS hms hes
          obtain ⟨W9, hW9⟩ : ∃ W9, two WB (w.heap.size + 1) (.string ⟨#[]⟩) (.string ⟨#[]⟩) = W9 := ⟨_, rfl⟩
          have R9 : B2 W9 (w.heap.size + 1) (.string ⟨#[]⟩) (.string ⟨#[]⟩) := by rw [← hW9]; exact JR.out.set _ _
          have PP : Hid (OpPost rr w (.returned (.tuple #[.agg #[.string ⟨#[]⟩, .string ⟨#[]⟩], .int .i64 2])) W9) := by
            rw [← hW9]
            exact ⟨by rw [RS2.out], below_two JB.out (by omega) _ _⟩
          have c0 := JR.out.c0
          have c1' := JR.out.c1
          have cf0 := JR.out.fr 0
          have cf1 := JR.out.fr 1
          obtain ⟨r0, r1, _, _⟩ := id R9
          unfold two at hW9
          clear R9
          go_wp2_with fail
          exact bodyPost_ret (v := .tuple #[.agg #[.string ⟨#[]⟩, .string ⟨#[]⟩], .int .i64 2]) (by simp [results, Tryz.results18, go_sem, r0, r1]) rfl PP.out
      · have i1 : (2000 : Int) < ((decB m).size : Int) := by omega
        have RS2 : Hid (rr = (⟨#[]⟩, ⟨#[]⟩, 2)) := by unfold Hid; rw [RS.out]; unfold shV; rw [if_neg (by simp [f1])]
        clear f1 RS hms hes
        obtain ⟨W9, hW9⟩ : ∃ W9, two WB (w.heap.size + 1) (.string ⟨#[]⟩) (.string ⟨#[]⟩) = W9 := ⟨_, rfl⟩
        have R9 : B2 W9 (w.heap.size + 1) (.string ⟨#[]⟩) (.string ⟨#[]⟩) := by rw [← hW9]; exact JR.out.set _ _
        have PP : Hid (OpPost rr w (.returned (.tuple #[.agg #[.string ⟨#[]⟩, .string ⟨#[]⟩], .int .i64 2])) W9) := by
          rw [← hW9]
          exact ⟨by rw [RS2.out], below_two JB.out (by omega) _ _⟩
        have c0 := JR.out.c0
        have c1' := JR.out.c1
        have cf0 := JR.out.fr 0
        have cf1 := JR.out.fr 1
        obtain ⟨r0, r1, _, _⟩ := id R9
        unfold two at hW9
        clear R9
        go_wp2_with fail
        exact bodyPost_ret (v := .tuple #[.agg #[.string ⟨#[]⟩, .string ⟨#[]⟩], .int .i64 2]) (by simp [results, Tryz.results18, go_sem, r0, r1]) rfl PP.out
  · go_simp
    have bc := bel_one WD (.cells #[.string ⟨#[]⟩, .string ⟨#[]⟩] 29)
    have J_1 := Lib.hid (J_0.out.keep bc)
    have NE : Hid (WD.heap.size ≠ g ∧ w.heap.size + 1 < WD.heap.size) := by have := J_0.out.x.lt; have := J_0.out.lo; unfold Hid; omega
    have D_1 : Hid (B2 (WD.alloc (.cells #[.string ⟨#[]⟩, .string ⟨#[]⟩] 29)) WD.heap.size (.string ⟨#[]⟩) (.string ⟨#[]⟩)) := B2.made _ _ _ _
    have hT := J_1.out.s2
    refine hK.out _ _ hT (fun _ => ?_)
    clear hK K hS bc J_0
    try simp only [Act.put, List.setIfInBounds_toArray, List.set_cons_zero, List.set_cons_succ]
    generalize WD.alloc (.cells #[.string ⟨#[]⟩, .string ⟨#[]⟩] 29) = W6x at *
    generalize WD.heap.size = h at *
    have hS := hT
    clear hT
    refine wpAnyH_ready (rs := [2]) (by kernel_rfl) (by simp) ?_
    refine AllReadyH.cons rfl (fun K hK => ?_) AllReadyH.nil
    go_simp
    (refine (rtext_c na nk nc m W6x J_1.out.n J_1.out.pow).mono ?_)
    rintro e0 W7x ⟨rfl, bc⟩
    try go_simp
    have J_2 := Lib.hid (J_1.out.keep bc)
    have D_2 := Lib.hid (D_1.out.keep bc)
    have hT := J_2.out.s2
    refine hK.out _ _ hT (fun _ => ?_)
    clear hK K hS bc J_1 D_1
    have hS := hT
    clear hT
    try simp only [Act.put, List.setIfInBounds_toArray, List.set_cons_zero, List.set_cons_succ]
    refine wpAnyH_ready (rs := [5]) (by kernel_rfl) (by simp) ?_
    refine AllReadyH.cons rfl (fun K hK => ?_) AllReadyH.nil
    go_simp
    (refine (rtext_c ea ek ec e W7x J_2.out.e J_2.out.pow).mono ?_)
    rintro e0 W8x ⟨rfl, bc⟩
    try go_simp
    have J_3 := Lib.hid (J_2.out.keep bc)
    have D_3 := Lib.hid (D_2.out.keep bc)
    have hT := J_3.out.s2
    refine hK.out _ _ hT (fun _ => ?_)
    clear hK K hS bc J_2 D_2
    have hS := hT
    clear hT
    try simp only [Act.put, List.setIfInBounds_toArray, List.set_cons_zero, List.set_cons_succ]
    refine wpAnyH_take (i := 6) (v := ?v6z7) rfl (by kernel_rfl) (by kernel_rfl) (by kernel_rfl) (fun _ _ _ h => h) (Or.inl ⟨by rfl, ?hy6z7⟩) (by assumption) ?rest6z7
    case hy6z7 =>
      intro w hSw
      dsimp only [S2x] at hSw
      go_simp
      try with_reducible rfl
    simp only [Act.put, List.getElem_toArray, List.getElem_cons_succ, List.getElem_cons_zero, List.setIfInBounds_toArray, List.set_cons_zero, List.set_cons_succ]
    refine wpAnyH_ready (rs := [8]) (by kernel_rfl) (by simp) ?_
    refine AllReadyH.cons rfl (fun K hK => ?_) AllReadyH.nil
    have q0 := D_3.out.c0
    have q1 := D_3.out.c1
    have g0 := D_3.out.fr 0
    have g1 := D_3.out.fr 1
    go_simp
    clear q0 q1 g0 g1
    have hT : S2x g na nk nc ea ek ec (two W8x h (.string (decB m)) (.string (decB e))) := ⟨(two_cell NE.out.1 _ _ 1).trans J_3.out.x.c1, (two_cell NE.out.1 _ _ 2).trans J_3.out.x.c2⟩
    have JR : Hid (B2 (two W8x h (.string (decB m)) (.string (decB e))) (w.heap.size + 1) (.string ⟨#[]⟩) (.string ⟨#[]⟩)) := J_3.out.r.other (by have := NE.out.2; omega) _ _
    have JB : Hid (Below w.heap.size w (two W8x h (.string (decB m)) (.string (decB e)))) := below_two J_3.out.bel (by have := NE.out.2; omega) _ _
    have D2 : Hid (B2 (two W8x h (.string (decB m)) (.string (decB e))) h (.string (decB m)) (.string (decB e))) := D_3.out.set _ _
    have q0 : (two W8x h (.string (decB m)) (.string (decB e))).cell? ⟨g, 0, none⟩ = some (.bool sb) := (two_cell NE.out.1 _ _ 0).trans J_3.out.x.c0
    have GE : Hid (w.heap.size + 1 < h) := NE.out.2
    clear J_3 D_3 NE
    unfold two at hT JR JB D2 q0
    refine hK.out _ _ hT (fun _ => ?_)
    clear hK K hS hT
    try simp only [Act.put, List.setIfInBounds_toArray, List.set_cons_zero, List.set_cons_succ]
    refine wpAnyH_done (by kernel_rfl) ?_ _
    refine NoPanic.normal ?_
    generalize (W8x.setCell ⟨h, 0, none⟩ (.string (decB m))).setCell ⟨h, 1, none⟩ (.string (decB e)) = WB at *
    have p0 := D2.out.c0
    have p1 := D2.out.c1
    have hms := decB_size m
    have hes := decB_size e
    by_cases f1 : (Lib.decDigits m).length ≤ 2000
    · have i1 : ¬ (2000 : Int) < ((decB m).size : Int) := by omega
      by_cases f2 : (Lib.decDigits e).length ≤ 2000
      · have i2 : ¬ (2000 : Int) < ((decB e).size : Int) := by omega
        have VS : Hid (shV sb m e = ((if (sb && decide (0 < m)) = true then ⟨#[45]⟩ ++ decB m else decB m), decB e, 0)) := by unfold Hid shV; rw [if_pos (by simp [f1, f2])]
        have hmb : ¬ (9223372036854775807 : Int) < 1 + ((decB m).size : Int) := by omega
        have hmb' : ¬ 9223372036854775807 < 1 + (decB m).size := by omega
        clear f1 f2 hms hes
        cases sb
        · have RS2 : Hid (rr = (decB m, decB e, 0)) := by unfold Hid; rw [RS.out, VS.out]; rfl
          clear RS VS hmb hmb'
          obtain ⟨W9, hW9⟩ : ∃ W9, two WB (w.heap.size + 1) (.string (decB m)) (.string (decB e)) = W9 := ⟨_, rfl⟩
          have R9 : B2 W9 (w.heap.size + 1) (.string (decB m)) (.string (decB e)) := by rw [← hW9]; exact JR.out.set _ _
          have PP : Hid (OpPost rr w (.returned (.tuple #[.agg #[.string (decB m), .string (decB e)], .int .i64 0])) W9) := by
            rw [← hW9]
            exact ⟨by rw [RS2.out], below_two JB.out (by omega) _ _⟩
          have c0 := JR.out.c0
          have c1' := JR.out.c1
          have cf0 := JR.out.fr 0
          have cf1 := JR.out.fr 1
          obtain ⟨r0, r1, _, _⟩ := id R9
          unfold two at hW9
          clear R9
          go_wp2_with fail
          exact bodyPost_ret (v := .tuple #[.agg #[.string (decB m), .string (decB e)], .int .i64 0]) (by simp [results, Tryz.results18, go_sem, r0, r1]) rfl PP.out
        · have RS2 : Hid (rr = (⟨#[45]⟩ ++ decB m, decB e, 0)) := by
            unfold Hid
            rw [RS.out, VS.out, SBM.out]
            rfl
          clear RS VS
          obtain ⟨WC, hWC⟩ : ∃ W, WB.setCell ⟨h, 0, none⟩ (.string (⟨#[45]⟩ ++ decB m)) = W := ⟨_, rfl⟩
          have JR2 : Hid (B2 WC (w.heap.size + 1) (.string ⟨#[]⟩) (.string ⟨#[]⟩)) := by
            rw [← hWC]
            have ne : ∀ o, (⟨h, 0, none⟩ : Addr) ≠ ⟨w.heap.size + 1, o, none⟩ := fun o e => by injection e with e1 _; have := GE.out; omega
            exact ⟨(World.cell?_setCell_other _ _ _ _ (ne 0)).trans JR.out.c0, (World.cell?_setCell_other _ _ _ _ (ne 1)).trans JR.out.c1, fun o => by rw [World.frozen?_setCell]; exact JR.out.fr o, by simpa using JR.out.lt⟩
          have JB2 : Hid (Below w.heap.size w WC) := by
            rw [← hWC]
            exact JB.out.setCell (p := ⟨h, 0, none⟩) (by have := GE.out; show w.heap.size ≤ h; omega) _
          have v0 : WC.cell? ⟨h, 0, none⟩ = some (.string (⟨#[45]⟩ ++ decB m)) := by rw [← hWC]; exact World.cell?_setCell_same _ _ _ p0
          have v1 : WC.cell? ⟨h, 1, none⟩ = some (.string (decB e)) := by rw [← hWC, World.cell?_setCell_other _ _ _ _ (qne (by decide))]; exact p1
          have pf0 := D2.out.fr 0
          clear JR JB D2
          have JR := JR2
          have JB := JB2
          clear JR2 JB2
          obtain ⟨W9, hW9⟩ : ∃ W9, two WC (w.heap.size + 1) (.string (⟨#[45]⟩ ++ decB m)) (.string (decB e)) = W9 := ⟨_, rfl⟩
          have R9 : B2 W9 (w.heap.size + 1) (.string (⟨#[45]⟩ ++ decB m)) (.string (decB e)) := by rw [← hW9]; exact JR.out.set _ _
          have PP : Hid (OpPost rr w (.returned (.tuple #[.agg #[.string (⟨#[45]⟩ ++ decB m), .string (decB e)], .int .i64 0])) W9) := by
            rw [← hW9]
            exact ⟨by rw [RS2.out], below_two JB.out (by omega) _ _⟩
          have c0 := JR.out.c0
          have c1' := JR.out.c1
          have cf0 := JR.out.fr 0
          have cf1 := JR.out.fr 1
          obtain ⟨r0, r1, _, _⟩ := id R9
          unfold two at hW9
          clear R9
          go_wp2_with fail
          exact bodyPost_ret (v := .tuple #[.agg #[.string (⟨#[45]⟩ ++ decB m), .string (decB e)], .int .i64 0]) (by simp [results, Tryz.results18, go_sem, r0, r1]) rfl PP.out
      · have i2 : (2000 : Int) < ((decB e).size : Int) := by omega
        have RS2 : Hid (rr = (⟨#[]⟩, ⟨#[]⟩, 2)) := by unfold Hid; rw [RS.out]; unfold shV; rw [if_neg (by simp [f2])]
        clear f1 f2 RS hms hes
        obtain ⟨W9, hW9⟩ : ∃ W9, two WB (w.heap.size + 1) (.string ⟨#[]⟩) (.string ⟨#[]⟩) = W9 := ⟨_, rfl⟩
        have R9 : B2 W9 (w.heap.size + 1) (.string ⟨#[]⟩) (.string ⟨#[]⟩) := by rw [← hW9]; exact JR.out.set _ _
        have PP : Hid (OpPost rr w (.returned (.tuple #[.agg #[.string ⟨#[]⟩, .string ⟨#[]⟩], .int .i64 2])) W9) := by
          rw [← hW9]
          exact ⟨by rw [RS2.out], below_two JB.out (by omega) _ _⟩
        have c0 := JR.out.c0
        have c1' := JR.out.c1
        have cf0 := JR.out.fr 0
        have cf1 := JR.out.fr 1
        obtain ⟨r0, r1, _, _⟩ := id R9
        unfold two at hW9
        clear R9
        go_wp2_with fail
        exact bodyPost_ret (v := .tuple #[.agg #[.string ⟨#[]⟩, .string ⟨#[]⟩], .int .i64 2]) (by simp [results, Tryz.results18, go_sem, r0, r1]) rfl PP.out
    · have i1 : (2000 : Int) < ((decB m).size : Int) := by omega
      have RS2 : Hid (rr = (⟨#[]⟩, ⟨#[]⟩, 2)) := by unfold Hid; rw [RS.out]; unfold shV; rw [if_neg (by simp [f1])]
      clear f1 RS hms hes
      obtain ⟨W9, hW9⟩ : ∃ W9, two WB (w.heap.size + 1) (.string ⟨#[]⟩) (.string ⟨#[]⟩) = W9 := ⟨_, rfl⟩
      have R9 : B2 W9 (w.heap.size + 1) (.string ⟨#[]⟩) (.string ⟨#[]⟩) := by rw [← hW9]; exact JR.out.set _ _
      have PP : Hid (OpPost rr w (.returned (.tuple #[.agg #[.string ⟨#[]⟩, .string ⟨#[]⟩], .int .i64 2])) W9) := by
        rw [← hW9]
        exact ⟨by rw [RS2.out], below_two JB.out (by omega) _ _⟩
      have c0 := JR.out.c0
      have c1' := JR.out.c1
      have cf0 := JR.out.fr 0
      have cf1 := JR.out.fr 1
      obtain ⟨r0, r1, _, _⟩ := id R9
      unfold two at hW9
      clear R9
      go_wp2_with fail
      exact bodyPost_ret (v := .tuple #[.agg #[.string ⟨#[]⟩, .string ⟨#[]⟩], .int .i64 2]) (by simp [results, Tryz.results18, go_sem, r0, r1]) rfl PP.out
end Go.Proofs.YtchdfekajjeflaaGreatDoor
namespace Go.Proofs.YtchdfekajjeflaaGreatDoor
open Go.RowKit

def rcells (u : Rr) : List Value := [.string u.1, .string u.2]
def rrow (C : List Rr) : List Value := C.flatMap rcells
theorem rrow_snoc (C : List Rr) (u : Rr) : rrow (C ++ [u]) = rrow C ++ rcells u := by unfold rrow; rw [List.flatMap_append]; simp
theorem rrow_len : ∀ C : List Rr, (rrow C).length = C.length * 2
  | [] => rfl
  | u :: C => by
    show (rcells u ++ rrow C).length = _
    rw [List.length_append, rrow_len C]
    simp only [rcells, List.length_cons, List.length_nil]; omega
theorem add_atR (b off j : Nat) : (⟨b, off, none⟩ : Addr).add j = ⟨b, off + j, none⟩ := by
  unfold Addr.add
  split
  · rename_i h; subst h; simp
  · rfl
theorem cell_two_new (w : World) (x y : Value) (e : TypeId) : ∀ j v, [x, y][j]? = some v → (w.alloc (.cells #[x, y] e)).cell? ((⟨w.heap.size, 0, none⟩ : Addr).add j) = some v := fun j v h => by
  rw [add_atR, Nat.zero_add, World.cell?_alloc_at _ _ _ _ rfl]
  simpa using h
theorem info_ratio : ∃ i, Tryz.prog.info? 29 = some i ∧ i.zero = some (.agg #[.string ⟨#[]⟩, .string ⟨#[]⟩]) ∧ i.size = 2 ∧ i.bytes = 32 := by
  have h := infoR
  cases e : Tryz.prog.info? 29 with
  | none => rw [e] at h; cases h
  | some i => rw [e] at h; simp at h; exact ⟨i, rfl, h⟩
def rr (l : List Rr) (j : Nat) : Rr := l.getD j (⟨#[]⟩, ⟨#[]⟩)
def RrAt (w : World) (b o : Nat) (u : Rr) : Prop := w.cell? ⟨b, o, none⟩ = some (.string u.1) ∧ w.cell? ⟨b, o + 1, none⟩ = some (.string u.2)
/-- A slice that reads as a list of ratios. -/
def RdR (w : World) (a : Option Addr) (l : List Rr) : Prop :=
  l.length ≤ 9223372036854775807 ∧ (0 < l.length → ∃ b off, a = some ⟨b, off, none⟩ ∧ b < w.heap.size ∧ ∀ j, j < l.length → RrAt w b (off + j * 2) (rr l j))
theorem RdR.below {w w' : World} {a : Option Addr} {l : List Rr} (h : RdR w a l) (hb : Below w.heap.size w w') : RdR w' a l :=
  ⟨h.1, fun h0 => by
    obtain ⟨b, off, e, hl, hc⟩ := h.2 h0
    exact ⟨b, off, e, Nat.lt_of_lt_of_le hl hb.size, fun j hj => ⟨(hb.cell (p := ⟨b, off + j * 2, none⟩) hl).trans (hc j hj).1, (hb.cell (p := ⟨b, off + j * 2 + 1, none⟩) hl).trans (hc j hj).2⟩⟩⟩
theorem rrow_at : ∀ (C : List Rr) (j : Nat), j < C.length → ∀ i, i < 2 → (rrow C)[j * 2 + i]? = (rcells (rr C j))[i]?
  | [], _, h, _, _ => by simp at h
  | u :: C, 0, _, i, hi => by
    show (rcells u ++ rrow C)[0 * 2 + i]? = _
    rw [Nat.zero_mul, Nat.zero_add, List.getElem?_append_left (by simpa [rcells] using hi)]
    rfl
  | u :: C, j + 1, h, i, hi => by
    show (rcells u ++ rrow C)[(j + 1) * 2 + i]? = _
    rw [List.getElem?_append_right (by simp only [rcells, List.length_cons, List.length_nil]; omega)]
    rw [show (j + 1) * 2 + i - (rcells u).length = j * 2 + i by simp only [rcells, List.length_cons, List.length_nil]; omega]
    rw [rrow_at C j (by simpa using h) i hi]
    rfl
theorem rd_R {w : World} {T : TypeId} {B : Nat} {v : Value} {C : List Rr} (h : w.ownsRow B T 2 v C.length (rrow C)) (hn : C.length ≤ 9223372036854775807) : ∃ a c, v = .slice a C.length c ∧ RdR w a C := by
  rcases h.2 with ⟨rfl, h0⟩ | ⟨g, cap, cur, rfl, hbase, hb, h1, h2, h3, h4⟩
  · have e : C = [] := List.eq_nil_of_length_eq_zero (by omega)
    subst e
    exact ⟨none, 0, rfl, by simp, fun h => by simp at h⟩
  · refine ⟨some ⟨g, 0, none⟩, cap, rfl, hn, fun _ => ⟨g, 0, rfl, (Array.getElem?_eq_some_iff.1 hb).1, fun j hj => ?_⟩⟩
    have key : ∀ i, i < 2 → w.cell? ⟨g, j * 2 + i, none⟩ = (rcells (rr C j))[i]? := fun i hi => by rw [h.cellAt _ (by omega), rrow_at C j hj i hi]
    rw [Nat.zero_add]
    exact ⟨key 0 (by omega), key 1 (by omega)⟩
/-- The texts of the first j picks' weights. -/
def bsL (l : List Pk) (j : Nat) : List Rr := (List.range j).map fun i => bsT (pk l i)
theorem bsL_len (l : List Pk) (j : Nat) : (bsL l j).length = j := by unfold bsL; simp
theorem bsL_succ (l : List Pk) (j : Nat) : bsL l (j + 1) = bsL l j ++ [bsT (pk l j)] := by unfold bsL; rw [List.range_succ, List.map_append]; rfl
theorem own_keepR {W W' : World} {base : Nat} {e : TypeId} {size : Nat} {v : Value} {n : Nat} {xs : List Value} (h : W.ownsRow base e size v n xs) (hb : Below W.heap.size W W') : W'.ownsRow base e size v n xs := by
  refine h.kept (⟨hb.os, hb.tape, hb.output, hb.size, fun i hi _ => hb.block i hi⟩ : W.grownBy W' none) ?_
  cases v.ownBlock with
  | none => exact .inl rfl
  | some _ => exact .inr (by simp)
end Go.Proofs.YtchdfekajjeflaaGreatDoor
namespace Go.Proofs.YtchdfekajjeflaaGreatDoor
open Go.RowKit

set_option maxRecDepth 100000 in
set_option maxHeartbeats 4000000 in
theorem FInverse_pos (a1 : Option Addr) (k1 c1 : Nat) (d1 : Bool) (e1 : Option Addr) (m1 q1 : Nat) (z1 y1 : Int) (w : World) (h1 : Zn w false a1 k1 c1 z1) (g1 : Zn w d1 e1 m1 q1 y1) :
    Calls Tryz.prog 11 #[.agg #[.bool false, .slice a1 k1 c1, .bool d1, .slice e1 m1 q1]] w (FrPost (y1) (z1) w) := by
  obtain ⟨W0, hW0⟩ : ∃ W0, (w.alloc (.cells #[.bool false, .slice a1 k1 c1, .bool d1, .slice e1 m1 q1] 38)).alloc (.cells #[.bool false, .slice none 0 0, .bool false, .slice none 0 0] 38) = W0 := ⟨_, rfl⟩
  have s1 : (w.alloc (.cells #[.bool false, .slice a1 k1 c1, .bool d1, .slice e1 m1 q1] 38)).heap.size = w.heap.size + 1 := by simp
  have X0 : B4 W0 w.heap.size (.bool false) (.slice a1 k1 c1) (.bool d1) (.slice e1 m1 q1) := by rw [← hW0]; exact (B4.made w _ _ _ _ _).keep (bel_one _ _)
  have R0 : B4 W0 (w.heap.size + 1) (.bool false) (.slice none 0 0) (.bool false) (.slice none 0 0) := by rw [← hW0, ← s1]; exact B4.made _ _ _ _ _ _
  have B0 : Below w.heap.size w W0 := by rw [← hW0]; exact ((Below.refl _ _).alloc (Nat.le_refl _) _).alloc (by simp) _
  have ZZ := Lib.hid (h1.below B0)
  have GG := Lib.hid (g1.below B0)
  have HR0 := Lib.hid R0
  have HX0 := Lib.hid X0
  have HB0 := Lib.hid B0
  obtain ⟨WX, hWX⟩ : ∃ WX, four W0 (w.heap.size + 1) (.bool d1) (.slice e1 m1 q1) (.bool false) (.slice a1 k1 c1) = WX := ⟨_, rfl⟩
  have RX : B4 WX (w.heap.size + 1) (.bool d1) (.slice e1 m1 q1) (.bool false) (.slice a1 k1 c1) := by rw [← hWX]; exact R0.set _ _ _ _
  have PP : Hid (FrPost (y1) (z1) w (.returned (.agg #[.bool d1, .slice e1 m1 q1, .bool false, .slice a1 k1 c1])) WX) := by
    rw [← hWX]
    exact ⟨_, _, _, _, _, _, _, _, rfl, GG.out.set4 R0 (NL.b _) (NL.s _ _ _) (NL.b _) (NL.s _ _ _) _ _ _ _, ZZ.out.set4 R0 (NL.b _) (NL.s _ _ _) (NL.b _) (NL.s _ _ _) _ _ _ _, below_four B0 (by omega) _ _ _ _⟩
  obtain ⟨x0, x1, x2, x3, _, _⟩ := X0
  obtain ⟨r0, r1, r2, r3, rf, _⟩ := R0
  have rf0 := rf 0
  have rf1 := rf 1
  have rf2 := rf 2
  have rf3 := rf 3
  clear h1 g1 s1 B0 rf
  go_enter Tryz.func11, Tryz.ntmps11
  obtain ⟨t0, t1, t2, t3, _, _⟩ := id RX
  clear RX
  unfold four at hWX
  go_wp2_with fail
  exact bodyPost_ret (v := .agg #[.bool d1, .slice e1 m1 q1, .bool false, .slice a1 k1 c1]) (by simp [results, Tryz.results11, go_sem, t0, t1, t2, t3]) rfl PP.out
end Go.Proofs.YtchdfekajjeflaaGreatDoor
namespace Go.Proofs.YtchdfekajjeflaaGreatDoor
open Go.RowKit

def xv (p : Pk) : Int := ((rread p.s.data.toList p.t.data.toList).getD (0, 1)).1
def yv (p : Pk) : Int := ((rread p.s.data.toList p.t.data.toList).getD (0, 1)).2
/-- Where the loop of Bases is. -/
def IB (w : World) (l : List Pk) (j : Nat) (W : World) : Prop :=
  ∃ F, Bq W w.heap.size l.length F ∧ Below w.heap.size w W ∧ ∀ i, i < j → bsE (pk l i) = 0 ∧ Fz W (F i) (yv (pk l i)) (xv (pk l i))
theorem IB.keep {w : World} {l : List Pk} {j : Nat} {W W' : World} (h : IB w l j W) (hb : Below W.heap.size W W') : IB w l j W' := by
  obtain ⟨F, h1, h2, h3⟩ := h
  exact ⟨F, h1.keep hb, h2.trans (hb.mono h2.size), fun i hi => ⟨(h3 i hi).1, (h3 i hi).2.below hb⟩⟩
theorem IB.bel {w : World} {l : List Pk} {j : Nat} {W : World} (h : IB w l j W) : Below w.heap.size w W := by
  obtain ⟨F, h1, h2, h3⟩ := h
  exact h2
/-- A chance in its box, within the loop. -/
structure Bz (w : World) (l : List Pk) (j h : Nat) (f : Fq) (x y : Int) (W : World) : Prop where
  i : IB w l j W
  b : B4q W h f
  f : Fi W f x y
theorem Bz.keep {w : World} {l : List Pk} {j h : Nat} {f : Fq} {x y : Int} {W W' : World} (z : Bz w l j h f x y W) (hb : Below W.heap.size W W') : Bz w l j h f x y W' :=
  ⟨z.i.keep hb, z.b.keep hb, z.f.below hb⟩
theorem Bz.sr {w : World} {l : List Pk} {j h : Nat} {f : Fq} {x y : Int} {W : World} (z : Bz w l j h f x y W) : SR h f.b f.a f.k f.c f.b' f.a' f.k' f.c' W := ⟨z.b.c0, z.b.c1, z.b.c2, z.b.c3⟩
/-- What Bases answers. -/
def BsP (l : List Pk) (w : World) (e : Ending) (w' : World) : Prop :=
  Below w.heap.size w w' ∧ (
    (3000 < l.length ∧ e = .returned (.tuple #[.slice none 0 0, .int .i64 2])) ∨
    (l.length ≤ 3000 ∧ ∃ j, j < l.length ∧ (∀ i, i < j → bsE (pk l i) = 0) ∧ bsE (pk l j) ≠ 0 ∧ e = .returned (.tuple #[.slice none 0 0, .int .i64 (bsE (pk l j))])) ∨
    (l.length ≤ 3000 ∧ (∀ i, i < l.length → bsE (pk l i) = 0) ∧
      ((∃ g, e = .returned (.tuple #[.slice (some ⟨g, 0, none⟩) l.length l.length, .int .i64 0]) ∧ Br w' g l.length (fun i => bsT (pk l i))) ∨
       (e = .returned (.tuple #[.slice none 0 0, .int .i64 2]) ∧ ∃ j, j < l.length ∧ (ra (yv (pk l j)) (xv (pk l j))).2.2 = 2))))
theorem bsE_one {p : Pk} {x y : Int} (h1 : shS p.s.data.toList p.t.data.toList = 0) (h2 : rread p.s.data.toList p.t.data.toList = some (x, y)) (h : x ≤ 0 ∨ y < x) : bsE p = 1 := by
  unfold bsE
  rw [h1, h2, if_neg (by simp)]
  simp only
  rw [if_pos h]
theorem bsE_ok {p : Pk} {x y : Int} (h1 : shS p.s.data.toList p.t.data.toList = 0) (h2 : rread p.s.data.toList p.t.data.toList = some (x, y)) (h : ¬ (x ≤ 0 ∨ y < x)) : bsE p = 0 := by
  unfold bsE
  rw [h1, h2, if_neg (by simp)]
  simp only
  rw [if_neg h]
theorem bsE_sh {p : Pk} (h1 : shS p.s.data.toList p.t.data.toList ≠ 0) : bsE p = shS p.s.data.toList p.t.data.toList := by
  unfold bsE
  rw [if_pos h1]
theorem rread_somes {p : Pk} (h : bsE p = 0) : rread p.s.data.toList p.t.data.toList = none ∨ rread p.s.data.toList p.t.data.toList = some (xv p, yv p) := by
  unfold xv yv
  cases rread p.s.data.toList p.t.data.toList with
  | none => exact .inl rfl
  | some q => exact .inr rfl
theorem bsE_some {p : Pk} (h : bsE p = 0) : ∃ q, rread p.s.data.toList p.t.data.toList = some q := by
  unfold bsE at h
  by_cases h1 : shS p.s.data.toList p.t.data.toList ≠ 0
  · rw [if_pos h1] at h; exact absurd h h1
  · have h2 : ck p.s.data.toList p.t.data.toList = 0 := by
      unfold shS at h1
      by_cases h3 : ck p.s.data.toList p.t.data.toList ≠ 0
      · rw [if_pos h3] at h1; exact absurd h3 h1
      · simpa using h3
    unfold ck at h2
    by_cases hs : (rread p.s.data.toList p.t.data.toList).isSome = true
    · exact Option.isSome_iff_exists.1 hs
    · rw [if_neg hs] at h2; exact absurd h2 (rflt_ne _ _)
theorem bsT_is {l : List Pk} {i : Nat} (h : bsE (pk l i) = 0) (hi : i < l.length) : rtx (fun i => yv (pk l i)) (fun i => xv (pk l i)) l.length i = bsT (pk l i) := by
  obtain ⟨q, hq⟩ := bsE_some h
  unfold rtx bsT
  rw [if_pos hi, hq]
  unfold yv xv
  dsimp only
  rw [hq]
  rfl
theorem one_bp : (1 : Int).natAbs < bp 400 := Nat.lt_of_lt_of_le (by rw [bp_one]; decide) (bp_mono (show 1 ≤ 400 by decide))
set_option maxRecDepth 100000 in
set_option maxHeartbeats 4000000 in
theorem Bases_c (a : Option Addr) (c : Nat) (l : List Pk) (w : World) (h : RdP w a l) :
    Calls Tryz.prog 4 #[.slice a l.length c] w (BsP l w) := by
  have hmk := fun W (hk : l.length ≤ 100000) => mk_fractions l.length hk W
  have HR := Lib.hid (fun W (hb : Below w.heap.size w W) => h.below hb)
  have HL := Lib.hid h.1
  clear h
  by_cases hl : 3000 < l.length
  · have hi : (3000 : Int) < (l.length : Int) := by omega
    have PP : Hid (BsP l w (.returned (.tuple #[.slice none 0 0, .int .i64 2])) w) := ⟨Below.refl _ _, .inl ⟨hl, rfl⟩⟩
    clear hl hmk
    go_enter Tryz.func4, Tryz.ntmps4
    go_wp2_with fail
    exact bodyPost_ret (v := .tuple #[.slice none 0 0, .int .i64 2]) (by simp [results, Tryz.results4, go_sem]) rfl PP.out
  · have hi : ¬ (3000 : Int) < (l.length : Int) := by omega
    have LL : Hid (l.length ≤ 3000) := by unfold Hid; omega
    have hmk := fun W => hmk W (by omega)
    have BL : Hid (Below w.heap.size w (w.alloc (.cells (madeCells #[.bool false, .slice none 0 0, .bool false, .slice none 0 0] (l.length * 4)) 38))) := bel_one _ _
    have B0 : Hid (IB w l 0 (w.alloc (.cells (madeCells #[.bool false, .slice none 0 0, .bool false, .slice none 0 0] (l.length * 4)) 38))) := ⟨_, Bq.made w l.length _, BL.out, fun i hi => by omega⟩
    clear hl
    go_enter Tryz.func4, Tryz.ntmps4
    go_wp2_with (rw [hmk])
    generalize w.alloc (.cells (madeCells #[.bool false, .slice none 0 0, .bool false, .slice none 0 0] (l.length * 4)) 38) = W1 at *
    clear hmk BL
    go_loopw [17] (fun i wr => ∃ j, j ≤ l.length ∧ i = .int .i64 (j : Nat) ∧ Hid (IB w l j wr)) (fun i _ => l.length - (intOf i).toNat)
    case atStart => exact ⟨0, Nat.zero_le _, rfl, B0.out⟩
    case round =>
      clear B0
      obtain ⟨j, hj, rfl, hI⟩ := hrel
      by_cases hlt : j < l.length
      · have hlt' : (j : Int) < (l.length : Int) := by omega
        have LT := Lib.hid hlt
        have hw1 : IntKind.i64.wrap ((j : Int) + 1) = ((j + 1 : Nat) : Int) := by rw [IntKind.wrap_i64] <;> omega
        obtain ⟨b, off, rfl, f0, f1, f2⟩ := (HR.out wr hI.out.bel).at_ hlt
        obtain ⟨p, hp⟩ : ∃ p, pk l j = p := ⟨_, rfl⟩
        have HP := Lib.hid hp
        rw [hp] at f0 f1 f2
        clear hp
        obtain ⟨WA, hWA⟩ : ∃ W, wr.alloc (.cells #[.int .i64 0, .string ⟨#[]⟩, .string ⟨#[]⟩] 33) = W := ⟨_, rfl⟩
        have JA : Q3 WA wr.heap.size (.int .i64 0) (.string ⟨#[]⟩) (.string ⟨#[]⟩) := by rw [← hWA]; exact Q3.made _ _ _ _ _
        obtain ⟨WX, hWX⟩ : ∃ W, trio WA wr.heap.size (.int .i64 p.id) (.string p.s) (.string p.t) = W := ⟨_, rfl⟩
        have JX : Q3 WX wr.heap.size (.int .i64 p.id) (.string p.s) (.string p.t) := by rw [← hWX]; exact JA.set _ _ _
        have bx : Below wr.heap.size wr WX := by rw [← hWX]; exact below_trio (by rw [← hWA]; exact bel_one _ _) (Nat.le_refl _) _ _ _
        have I2 := Lib.hid (hI.out.keep bx)
        have HC := Lib.hid (shortOf_c p.s p.t WX)
        have a0 := JA.c0
        have a1 := JA.c1
        have a2 := JA.c2
        have af0 := JA.fr 0
        have af1 := JA.fr 1
        have af2 := JA.fr 2
        have x0 := JX.c0
        have x1 := JX.c1
        have x2 := JX.c2
        unfold trio at hWX
        clear hI bx JA JX
        go_wp2_with fail
        clear hWX hWA a0 a1 a2 af0 af1 af2 x0 x1 x2 f0 f1 f2
        refine HC.out.mono ?_
        rintro e w3 ⟨⟨fb, fa, fk, fc, fb', fa', fk', fc'⟩, flt, rfl, b3, hflt, hok⟩
        dsimp only
        have I3 := Lib.hid (I2.out.keep b3)
        obtain ⟨WB, hWB⟩ : ∃ W, w3.alloc (.cells #[.bool false, .slice none 0 0, .bool false, .slice none 0 0] 38) = W := ⟨_, rfl⟩
        have JB : B4 WB w3.heap.size (.bool false) (.slice none 0 0) (.bool false) (.slice none 0 0) := by rw [← hWB]; exact B4.made _ _ _ _ _ _
        obtain ⟨WY, hWY⟩ : ∃ W, four WB w3.heap.size (.bool fb) (.slice fa fk fc) (.bool fb') (.slice fa' fk' fc') = W := ⟨_, rfl⟩
        have JY : Hid (B4 WY w3.heap.size (.bool fb) (.slice fa fk fc) (.bool fb') (.slice fa' fk' fc')) := by rw [← hWY]; exact JB.set _ _ _ _
        have bY : Below w3.heap.size w3 WY := by rw [← hWY]; exact below_four (by rw [← hWB]; exact bel_one _ _) (Nat.le_refl _) _ _ _ _
        have I4 := Lib.hid (I3.out.keep bY)
        have BY := Lib.hid bY
        have HOK := Lib.hid hok
        have HFL := Lib.hid hflt
        have a0 := JB.c0
        have a1 := JB.c1
        have a2 := JB.c2
        have a3 := JB.c3
        have af0 := JB.fr 0
        have af1 := JB.fr 1
        have af2 := JB.fr 2
        have af3 := JB.fr 3
        have y0 := JY.out.c0
        have y1 := JY.out.c1
        have y2 := JY.out.c2
        have y3 := JY.out.c3
        unfold four at hWY
        clear JB bY I3 I2 HC b3 hok hflt
        by_cases hz : flt = 0
        · subst hz
          obtain ⟨x, y, hr, hfi⟩ := HOK.out rfl
          have RR : Hid (rread (pk l j).s.data.toList (pk l j).t.data.toList = some (x, y)) := by unfold Hid; rw [HP.out]; exact hr
          have SZ : Hid (shS (pk l j).s.data.toList (pk l j).t.data.toList = 0) := by unfold Hid; rw [HP.out]; exact HFL.out.symm
          have J1 : Hid (Bz w l j w3.heap.size ⟨fb, fa, fk, fc, fb', fa', fk', fc'⟩ x y WY) := ⟨I4.out, JY.out, hfi.below BY.out⟩
          clear hr hfi HOK HFL I4 JY BY
          go_wp2_with fail
          clear hWY hWB a0 a1 a2 a3 af0 af1 af2 af3 y0 y1 y2 y3
          generalize w3.heap.size = h at *
          refine wp_region_noPanic ?_
          refine wp_region_held_drew (S := SR h fb fa fk fc fb' fa' fk' fc') (by kernel_rfl) (J1.out.keep (Below.refl _ _).drew).sr (fun hS => ?_)
          have J1d := Lib.hid (J1.out.keep (Below.refl _ _).drew)
          clear J1
          generalize WY.drew = WD at *
          refine wpAnyH_take (i := 0) (v := ?v0z7) rfl (by kernel_rfl) (by kernel_rfl) (by kernel_rfl) (fun _ _ _ h => h) (Or.inl ⟨by rfl, ?hy0z7⟩) (by assumption) ?rest0z7
          case hy0z7 =>
            intro w hSw
            dsimp only [SR] at hSw
            go_simp
            try with_reducible rfl
          simp only [Act.put, List.getElem_toArray, List.getElem_cons_succ, List.getElem_cons_zero, List.setIfInBounds_toArray, List.set_cons_zero, List.set_cons_succ]
          refine wpAnyH_take (i := 1) (v := ?v1z8) rfl (by kernel_rfl) (by kernel_rfl) (by kernel_rfl) (fun _ _ _ h => h) (Or.inl ⟨by rfl, ?hy1z8⟩) (by assumption) ?rest1z8
          case hy1z8 =>
            intro w hSw
            dsimp only [SR] at hSw
            go_simp
            try with_reducible rfl
          simp only [Act.put, List.getElem_toArray, List.getElem_cons_succ, List.getElem_cons_zero, List.setIfInBounds_toArray, List.set_cons_zero, List.set_cons_succ]
          refine wpAnyH_ready (rs := [2]) (by kernel_rfl) (by simp) ?_
          refine AllReadyH.cons rfl (fun K hK => ?_) AllReadyH.nil
          go_simp
          (refine (Sign_c fb fa fk fc x _ J1d.out.f.n).mono ?_)
          rintro e V2J2 ⟨rfl, bc⟩
          try go_simp
          have J2 := Lib.hid (J1d.out.keep bc)
          have hT := J2.out.sr
          refine hK.out _ _ hT (fun _ => ?_)
          clear hK K hS bc J1d
          have hS := hT
          clear hT
          try simp only [Act.put, List.setIfInBounds_toArray, List.set_cons_zero, List.set_cons_succ]
          by_cases hx : x ≤ 0
          · have hsx : x.sign ≤ 0 := by
              rcases Int.lt_trichotomy x 0 with h | h | h
              · rw [Int.sign_eq_neg_one_of_neg h]; decide
              · subst h; decide
              · omega
            have EV : Hid (bsE (pk l j) = 1) := bsE_one SZ.out RR.out (.inl hx)
            obtain ⟨sx, hsx2⟩ : ∃ sx, x.sign = sx := ⟨_, rfl⟩
            rw [hsx2] at hsx ⊢
            clear hsx2 hx
            refine wpAnyH_take (i := 3) (v := ?v3z9) rfl (by kernel_rfl) (by kernel_rfl) (by kernel_rfl) (fun _ _ _ h => h) (Or.inl ⟨by rfl, ?hy3z9⟩) (by assumption) ?rest3z9
            case hy3z9 =>
              intro w hSw
              dsimp only [SR] at hSw
              go_simp
              try with_reducible rfl
            simp only [Act.put, List.getElem_toArray, List.getElem_cons_succ, List.getElem_cons_zero, List.setIfInBounds_toArray, List.set_cons_zero, List.set_cons_succ]
            refine wpAnyH_take (i := 4) (v := ?v4z10) rfl (by kernel_rfl) (by kernel_rfl) (by kernel_rfl) (fun _ _ _ h => h) (Or.inl ⟨by rfl, ?hy4z10⟩) (by assumption) ?rest4z10
            case hy4z10 =>
              intro w hSw
              dsimp only [SR] at hSw
              go_simp
              try with_reducible rfl
            simp only [Act.put, List.getElem_toArray, List.getElem_cons_succ, List.getElem_cons_zero, List.setIfInBounds_toArray, List.set_cons_zero, List.set_cons_succ]
            refine wpAnyH_take (i := 5) (v := undef) rfl (by kernel_rfl) (by kernel_rfl) (by kernel_rfl) (fun _ _ _ h => h) (Or.inr ⟨by rfl, rfl⟩) (by assumption) ?rest5u1
            simp only [Act.put, List.getElem_toArray, List.getElem_cons_succ, List.getElem_cons_zero, List.setIfInBounds_toArray, List.set_cons_zero, List.set_cons_succ]
            refine wpAnyH_ready (rs := [6]) (by kernel_rfl) (by simp) ?_
            refine AllReadyH.cons rfl (fun K hK => ?_) AllReadyH.nil
            go_simp
            have hT := J2.out.sr
            refine hK.out _ _ hT (fun _ => ?_)
            clear hK K hS
            have hS := hT
            clear hT
            try simp only [Act.put, List.setIfInBounds_toArray, List.set_cons_zero, List.set_cons_succ]
            refine wpAnyH_ready (rs := [7]) (by kernel_rfl) (by simp) ?_
            refine AllReadyH.cons rfl (fun K hK => ?_) AllReadyH.nil
            go_simp
            have hT := J2.out.sr
            refine hK.out _ _ hT (fun _ => ?_)
            clear hK K hS
            have hS := hT
            clear hT
            try simp only [Act.put, List.setIfInBounds_toArray, List.set_cons_zero, List.set_cons_succ]
            refine wpAnyH_take (i := 8) (v := undef) rfl (by kernel_rfl) (by kernel_rfl) (by kernel_rfl) (fun _ _ _ h => h) (Or.inr ⟨by rfl, rfl⟩) (by assumption) ?rest8u2
            simp only [Act.put, List.getElem_toArray, List.getElem_cons_succ, List.getElem_cons_zero, List.setIfInBounds_toArray, List.set_cons_zero, List.set_cons_succ]
            refine wpAnyH_take (i := 9) (v := ?v9z1) rfl (by kernel_rfl) (by kernel_rfl) (by kernel_rfl) (fun _ _ _ h => h) (Or.inl ⟨by rfl, ?hy9z1⟩) (by assumption) ?rest9z1
            case hy9z1 =>
              intro w hSw
              dsimp only [SR] at hSw
              go_simp
              try with_reducible rfl
            simp only [Act.put, List.getElem_toArray, List.getElem_cons_succ, List.getElem_cons_zero, List.setIfInBounds_toArray, List.set_cons_zero, List.set_cons_succ]
            refine wpAnyH_done (by kernel_rfl) ?_ _
            refine NoPanic.normal ?_
            have PP : Hid (BsP l w (.returned (.tuple #[.slice none 0 0, .int .i64 1])) _) := ⟨J2.out.i.bel, .inr (.inl ⟨LL.out, j, LT.out, fun i hi => by obtain ⟨F, _, _, h3⟩ := J2.out.i; exact (h3 i hi).1, by rw [EV.out]; decide, by rw [EV.out]⟩)⟩
            clear J2 hS
            go_wp2_with fail
            exact bodyPost_ret (v := .tuple #[.slice none 0 0, .int .i64 1]) (by simp [results, Tryz.results4, go_sem]) rfl PP.out
          · have hsx : ¬ x.sign ≤ 0 := by
              rw [Int.sign_eq_one_of_pos (by omega)]; decide
            obtain ⟨sx, hsx2⟩ : ∃ sx, x.sign = sx := ⟨_, rfl⟩
            rw [hsx2] at hsx ⊢
            clear hsx2
            refine wpAnyH_take (i := 3) (v := ?v3z11) rfl (by kernel_rfl) (by kernel_rfl) (by kernel_rfl) (fun _ _ _ h => h) (Or.inl ⟨by rfl, ?hy3z11⟩) (by assumption) ?rest3z11
            case hy3z11 =>
              intro w hSw
              dsimp only [SR] at hSw
              go_simp
              try with_reducible rfl
            simp only [Act.put, List.getElem_toArray, List.getElem_cons_succ, List.getElem_cons_zero, List.setIfInBounds_toArray, List.set_cons_zero, List.set_cons_succ]
            refine wpAnyH_take (i := 4) (v := ?v4z12) rfl (by kernel_rfl) (by kernel_rfl) (by kernel_rfl) (fun _ _ _ h => h) (Or.inl ⟨by rfl, ?hy4z12⟩) (by assumption) ?rest4z12
            case hy4z12 =>
              intro w hSw
              dsimp only [SR] at hSw
              go_simp
              try with_reducible rfl
            simp only [Act.put, List.getElem_toArray, List.getElem_cons_succ, List.getElem_cons_zero, List.setIfInBounds_toArray, List.set_cons_zero, List.set_cons_succ]
            refine wpAnyH_take (i := 5) (v := ?v5z2) rfl (by kernel_rfl) (by kernel_rfl) (by kernel_rfl) (fun _ _ _ h => h) (Or.inl ⟨by rfl, ?hy5z2⟩) (by assumption) ?rest5z2
            case hy5z2 =>
              intro w hSw
              dsimp only [SR] at hSw
              go_simp
              try with_reducible rfl
            simp only [Act.put, List.getElem_toArray, List.getElem_cons_succ, List.getElem_cons_zero, List.setIfInBounds_toArray, List.set_cons_zero, List.set_cons_succ]
            refine wpAnyH_ready (rs := [6]) (by kernel_rfl) (by simp) ?_
            refine AllReadyH.cons rfl (fun K hK => ?_) AllReadyH.nil
            go_simp
            (refine (fraction_c 1 _ (by decide) (by decide)).mono ?_)
            rintro e V6J3 ⟨q, rfl, zq1, zq2, bc⟩
            try go_simp
            have J3 := Lib.hid (J2.out.keep bc)
            have QN := Lib.hid (And.intro zq1 zq2)
            clear zq1 zq2
            have hT := J3.out.sr
            refine hK.out _ _ hT (fun _ => ?_)
            clear hK K hS bc J2
            have hS := hT
            clear hT
            try simp only [Act.put, List.setIfInBounds_toArray, List.set_cons_zero, List.set_cons_succ]
            refine wpAnyH_ready (rs := [7]) (by kernel_rfl) (by simp) ?_
            refine AllReadyH.cons rfl (fun K hK => ?_) AllReadyH.nil
            go_simp
            (refine (FCompare_c fb fa fk fc fb' fa' fk' fc' q.b q.a q.k q.c q.b' q.a' q.k' q.c' x y 1 1 _ J3.out.f.n J3.out.f.d QN.out.1 QN.out.2 (Nat.lt_of_lt_of_le J3.out.f.nb (bp_mono (by omega))) (Nat.lt_of_lt_of_le J3.out.f.db (bp_mono (by omega))) one_bp one_bp).mono ?_)
            rintro e V7J4 ⟨rfl, bc⟩
            try go_simp
            have J4 := Lib.hid (J3.out.keep bc)
            have hT := J4.out.sr
            refine hK.out _ _ hT (fun _ => ?_)
            clear hK K hS bc J3
            have hS := hT
            clear hT
            try simp only [Act.put, List.setIfInBounds_toArray, List.set_cons_zero, List.set_cons_succ]
            by_cases hgt : y < x
            · have hz : zcmp x y = 1 := by unfold zcmp; rw [if_neg (by omega), if_pos hgt]
              rw [hz]
              have EV : Hid (bsE (pk l j) = 1) := bsE_one SZ.out RR.out (.inr hgt)
              clear hz QN
              refine wpAnyH_take (i := 8) (v := ?v8z3) rfl (by kernel_rfl) (by kernel_rfl) (by kernel_rfl) (fun _ _ _ h => h) (Or.inl ⟨by rfl, ?hy8z3⟩) (by assumption) ?rest8z3
              case hy8z3 =>
                intro w hSw
                dsimp only [SR] at hSw
                go_simp
                try with_reducible rfl
              simp only [Act.put, List.getElem_toArray, List.getElem_cons_succ, List.getElem_cons_zero, List.setIfInBounds_toArray, List.set_cons_zero, List.set_cons_succ]
              refine wpAnyH_take (i := 9) (v := ?v9z4) rfl (by kernel_rfl) (by kernel_rfl) (by kernel_rfl) (fun _ _ _ h => h) (Or.inl ⟨by rfl, ?hy9z4⟩) (by assumption) ?rest9z4
              case hy9z4 =>
                intro w hSw
                dsimp only [SR] at hSw
                go_simp
                try with_reducible rfl
              simp only [Act.put, List.getElem_toArray, List.getElem_cons_succ, List.getElem_cons_zero, List.setIfInBounds_toArray, List.set_cons_zero, List.set_cons_succ]
              refine wpAnyH_done (by kernel_rfl) ?_ _
              refine NoPanic.normal ?_
              have PP : Hid (BsP l w (.returned (.tuple #[.slice none 0 0, .int .i64 1])) _) := ⟨J4.out.i.bel, .inr (.inl ⟨LL.out, j, LT.out, fun i hi => by obtain ⟨F, _, _, h3⟩ := J4.out.i; exact (h3 i hi).1, by rw [EV.out]; decide, by rw [EV.out]⟩)⟩
              clear J4 hS
              go_wp2_with fail
              exact bodyPost_ret (v := .tuple #[.slice none 0 0, .int .i64 1]) (by simp [results, Tryz.results4, go_sem]) rfl PP.out
            · have hz : (zcmp x y = -1 ∨ zcmp x y = 0) := by
                unfold zcmp; rw [if_neg hgt]
                by_cases h : x < y
                · exact .inl (if_pos h)
                · exact .inr (if_neg h)
              have EV : Hid (bsE (pk l j) = 0) := bsE_ok SZ.out RR.out (by omega)
              clear QN
              obtain ⟨zz, hzz⟩ : ∃ zz, zcmp x y = zz := ⟨_, rfl⟩
              rw [hzz] at hz ⊢
              have hzn : ¬ 0 < zz := by omega
              have hzd : decide (0 < zz) = false := decide_eq_false hzn
              clear hzz
              refine wpAnyH_take (i := 8) (v := ?v8z5) rfl (by kernel_rfl) (by kernel_rfl) (by kernel_rfl) (fun _ _ _ h => h) (Or.inl ⟨by rfl, ?hy8z5⟩) (by assumption) ?rest8z5
              case hy8z5 =>
                intro w hSw
                dsimp only [SR] at hSw
                go_simp
                try with_reducible rfl
              simp only [Act.put, List.getElem_toArray, List.getElem_cons_succ, List.getElem_cons_zero, List.setIfInBounds_toArray, List.set_cons_zero, List.set_cons_succ]
              refine wpAnyH_take (i := 9) (v := ?v9z6) rfl (by kernel_rfl) (by kernel_rfl) (by kernel_rfl) (fun _ _ _ h => h) (Or.inl ⟨by rfl, ?hy9z6⟩) (by assumption) ?rest9z6
              case hy9z6 =>
                intro w hSw
                dsimp only [SR] at hSw
                go_simp
                try with_reducible rfl
              simp only [Act.put, List.getElem_toArray, List.getElem_cons_succ, List.getElem_cons_zero, List.setIfInBounds_toArray, List.set_cons_zero, List.set_cons_succ]
              refine wpAnyH_done (by kernel_rfl) ?_ _
              refine NoPanic.normal ?_
              clear hS
              generalize V7J4 = W7 at *
              have hfb : fb = false := by
                have h := J4.out.f.n
                obtain ⟨n, _, h1, h2⟩ := h
                cases fb
                · rfl
                · have := h1 rfl
                  rw [zv_true] at h2
                  omega
              subst hfb
              have y0 := J4.out.b.c0
              have y1 := J4.out.b.c1
              have y2 := J4.out.b.c2
              have y3 := J4.out.b.c3
              have HI := Lib.hid (FInverse_pos fa fk fc fb' fa' fk' fc' x y W7 J4.out.f.n J4.out.f.d)
              go_wp2_with fail
              clear y0 y1 y2 y3 hzn hzd hz
              refine HI.out.mono ?_
              rintro e w8 ⟨ib, ia, ik, ic, ib', ia', ik', ic', rfl, zn, zd, b8⟩
              have FI8 : Hid (Fz w8 ⟨ib, ia, ik, ic, ib', ia', ik', ic'⟩ y x) := ⟨zn, zd, Nat.lt_of_lt_of_le J4.out.f.db (bp_mono (by omega)), Nat.lt_of_lt_of_le J4.out.f.nb (bp_mono (by omega)), by omega⟩
              have I8 := Lib.hid (J4.out.i.keep b8)
              clear HI J4 b8 zn zd
              obtain ⟨F, hF⟩ := I8.out
              have QA := (hF.1.2.2 j LT.out)
              obtain ⟨WZ, hWZ⟩ : ∃ W, fourAt w8 w.heap.size j ⟨ib, ia, ik, ic, ib', ia', ik', ic'⟩ = W := ⟨_, rfl⟩
              have I9 : Hid (IB w l (j + 1) WZ) := by
                rw [← hWZ]
                refine ⟨putQ F j ⟨ib, ia, ik, ic, ib', ia', ik', ic'⟩, hF.1.put LT.out _, below_fourAt hF.2.1 (Nat.le_refl _) _ _, fun i hi => ?_⟩
                by_cases e : i = j
                · subst e
                  have ex : xv (pk l i) = x := by unfold xv; rw [RR.out]; rfl
                  have ey : yv (pk l i) = y := by unfold yv; rw [RR.out]; rfl
                  have p1 : putQ F i ⟨ib, ia, ik, ic, ib', ia', ik', ic'⟩ i = ⟨ib, ia, ik, ic, ib', ia', ik', ic'⟩ := by unfold putQ; rw [if_pos rfl]
                  rw [ex, ey, p1]
                  exact ⟨EV.out, FI8.out.fourAt QA _⟩
                · have p1 : putQ F j ⟨ib, ia, ik, ic, ib', ia', ik', ic'⟩ i = F i := by unfold putQ; rw [if_neg e]
                  rw [p1]
                  exact ⟨(hF.2.2 i (by omega)).1, (hF.2.2 i (by omega)).2.fourAt QA _⟩
              obtain ⟨c0, c1, c2, c3⟩ := QA
              have cf0 := hF.1.2.1 (j * 4)
              have cf1 := hF.1.2.1 (j * 4 + 1)
              have cf2 := hF.1.2.1 (j * 4 + 2)
              have cf3 := hF.1.2.1 (j * 4 + 3)
              unfold fourAt at hWZ
              dsimp only at hWZ
              clear hF I8 FI8
              go_wp2_with fail
              exact ⟨⟨j + 1, by omega, rfl, I9.out⟩, by simp only [go_sem, intOf]; omega⟩
        · have hne : (flt == 0) = false := by rw [beq_eq_false_iff_ne]; exact hz
          have hne2 : (flt != 0) = true := by simp [hz]
          have EV : Hid (bsE (pk l j) = flt) := by unfold Hid; rw [HP.out, bsE_sh (by rw [← HFL.out]; exact hz), HFL.out]
          have PP : Hid (BsP l w (.returned (.tuple #[.slice none 0 0, .int .i64 flt])) WY) := ⟨I4.out.bel, .inr (.inl ⟨LL.out, j, hlt, fun i hi => by obtain ⟨F, _, _, h3⟩ := I4.out; exact (h3 i hi).1, by rw [EV.out]; exact hz, by rw [EV.out]⟩)⟩
          clear hz HOK HFL I4 JY BY
          go_wp2_with fail
          exact bodyPost_ret (v := .tuple #[.slice none 0 0, .int .i64 flt]) (by simp [results, Tryz.results4, go_sem]) rfl PP.out
      · have hlt' : ¬ (j : Int) < (l.length : Int) := by omega
        have ej : j = l.length := by omega
        subst ej
        obtain ⟨F, hF⟩ := hI.out
        have HS := Lib.hid (ratiosOf_c (some ⟨w.heap.size, 0, none⟩) l.length l.length F (fun i => yv (pk l i)) (fun i => xv (pk l i)) wr (by have := LL.out; omega) (fun _ => ⟨w.heap.size, 0, rfl, hF.1.1, fun i hi => ⟨by rw [Nat.zero_add]; exact hF.1.2.2 i hi, (hF.2.2 i hi).2⟩⟩))
        have HE := Lib.hid (fun i (hi : i < l.length) => (hF.2.2 i hi).1)
        have HB := Lib.hid hF.2.1
        clear hF hI
        go_wp2_with fail
        refine HS.out.mono ?_
        rintro e w9 ⟨b9, hpost⟩
        have B9 := Lib.hid (HB.out.trans (b9.mono HB.out.size))
        clear b9 HS HB
        rcases hpost with ⟨g, rfl, hbr, _⟩ | ⟨rfl, hx⟩
        · have PP : Hid (BsP l w (.returned (.tuple #[.slice (some ⟨g, 0, none⟩) l.length l.length, .int .i64 0])) w9) :=
            ⟨B9.out, .inr (.inr ⟨LL.out, HE.out, .inl ⟨g, rfl, hbr.congr fun i hi => bsT_is (HE.out i hi) hi⟩⟩)⟩
          clear hbr
          go_wp2_with fail
          exact bodyPost_ret (v := .tuple #[.slice (some ⟨g, 0, none⟩) l.length l.length, .int .i64 0]) (by simp [results, Tryz.results4, go_sem]) rfl PP.out
        · have PP : Hid (BsP l w (.returned (.tuple #[.slice none 0 0, .int .i64 2])) w9) := ⟨B9.out, .inr (.inr ⟨LL.out, HE.out, .inr ⟨rfl, hx⟩⟩)⟩
          clear hx
          go_wp2_with fail
          exact bodyPost_ret (v := .tuple #[.slice none 0 0, .int .i64 2]) (by simp [results, Tryz.results4, go_sem]) rfl PP.out
end Go.Proofs.YtchdfekajjeflaaGreatDoor
