/-
  SamplePanelsMatchSpec: the walk of the law.
-/
import Derived.Test.YtiengbhncgnjnaaGreatDoorPanOv
namespace Go.Proofs.YtiengbhncgnjnaaGreatDoor
open Go.RowKit

/-- Two owned rows with equal numbers are equal. -/
theorem equalG (w0 w1 W : World) (v v' : Value) (L : List Int) (hL : L.length ≤ 9223372036854775807) (h : Grown w0.heap.size w0 L v W) (h' : Grown w1.heap.size w1 L v' W) :
    Calls Tryz.prog 9 #[v, v'] W fun e w' => e = .returned (.bool true) ∧ Below W.heap.size W w' := by
  rcases Nat.eq_zero_or_pos L.length with h0 | h0
  · have z : ∀ (w0 : World) (v : Value), Grown w0.heap.size w0 L v W → ∃ a c, v = .slice a 0 c := by
      intro w0 v h
      rcases h.row.2 with ⟨e, _⟩ | ⟨g, cap, cur, e, _⟩
      · exact ⟨_, _, e⟩
      · exact ⟨_, _, by rw [e, h0]⟩
    obtain ⟨a, c, rfl⟩ := z w0 v h
    obtain ⟨a', c', rfl⟩ := z w1 v' h'
    exact (Tryz.slices_Equal_int_empty a a' c 0 c' W (by omega)).mono fun e w' ⟨he, hw⟩ => ⟨by rw [he]; rfl, by rw [hw]; exact Below.refl _ _⟩
  · obtain ⟨g, cap, rfl, _, _, hc⟩ := own_open h.row h0
    obtain ⟨g', cap', rfl, _, _, hc'⟩ := own_open h'.row h0
    refine (Tryz.slices_Equal_int g 0 L.length cap g' 0 L.length cap' L L W (Nat.le_refl _) (Nat.le_refl _) hL hL (fun j hj => ?_) (fun j hj => ?_)).mono fun e w' ⟨he, q, hw⟩ => ⟨by rw [he]; simp, by rw [hw]; exact below_drew _ _⟩
    · rw [Nat.zero_add]; exact hc j _ (by simp [hj])
    · rw [Nat.zero_add]; exact hc' j _ (by simp [hj])
theorem gL_len (i o g wave : Int) : (gL i o g wave).length ≤ 1000 := by
  unfold gL
  split
  · simp
  · split
    · simp
    · exact Nat.le_trans (grpL_len _ _ _ _ _) (by omega)
/-- What the law keeps through its conditions. -/
def LS (w W1 w2 : World) (i o g : Int) (L : List Int) (v1 v2 : Value) (W : World) : Prop :=
  W.cell? ⟨w.heap.size, 0, none⟩ = some (.int .i64 i) ∧ W.cell? ⟨w.heap.size, 1, none⟩ = some (.int .i64 o) ∧ W.cell? ⟨w.heap.size, 2, none⟩ = some (.int .i64 g) ∧
  Hid ((Below w.heap.size w W ∧ w.heap.size < W.heap.size) ∧ Grown W1.heap.size W1 L v1 W ∧ Grown w2.heap.size w2 L v2 W)
theorem LS.rb {w W1 w2 W : World} {i o g : Int} {L : List Int} {v1 v2 : Value} (h : LS w W1 w2 i o g L v1 v2 W) : RB w i o g W := ⟨h.1, h.2.1, h.2.2.1, h.2.2.2.out.1⟩
theorem LS.keep {w W1 w2 W W' : World} {i o g : Int} {L : List Int} {v1 v2 : Value} (h : LS w W1 w2 i o g L v1 v2 W) (hb : Below W.heap.size W W') : LS w W1 w2 i o g L v1 v2 W' := by
  obtain ⟨a0, a1, a2, s⟩ := h.rb.keep hb
  exact ⟨a0, a1, a2, s.out, h.2.2.2.out.2.1.keep hb, h.2.2.2.out.2.2.keep hb⟩
theorem ls_chk (w W1 w2 : World) (i o g : Int) (L : List Int) (v1 v2 : Value) (x : Int) (hx : chkRot i o g = x) (W : World) (h : LS w W1 w2 i o g L v1 v2 W) :
    Calls Tryz.prog 7 #[rotV i o g] W fun e w' => e = .returned (.int .i64 x) ∧ LS w W1 w2 i o g L v1 v2 w' :=
  (chk_c i o g W).mono fun e w' ⟨he, hb⟩ => ⟨by rw [he, hx], h.keep hb⟩
theorem ls_rchk (w W1 w2 : World) (i o g : Int) (L : List Int) (v1 v2 : Value) (x : Int) (hx : chkRot i o g = x) (W : World) (h : LS w W1 w2 i o g L v1 v2 W) :
    Calls Tryz.prog 8 #[rotV i o g] W fun e w' => e = .returned (.int .i64 x) ∧ LS w W1 w2 i o g L v1 v2 w' :=
  (rchk_c i o g W).mono fun e w' ⟨he, hb⟩ => ⟨by rw [he, hx], h.keep hb⟩
theorem ls_eq (w W1 w2 : World) (i o g : Int) (L : List Int) (v1 v2 : Value) (hL : L.length ≤ 9223372036854775807) (W : World) (h : LS w W1 w2 i o g L v1 v2 W) :
    Calls Tryz.prog 9 #[v1, v2] W fun e w' => e = .returned (.bool true) ∧ LS w W1 w2 i o g L v1 v2 w' :=
  (equalG W1 w2 W v1 v2 L hL h.2.2.2.out.2.1 h.2.2.2.out.2.2).mono fun e w' ⟨he, hb⟩ => ⟨he, h.keep hb⟩
set_option maxHeartbeats 4000000 in
theorem law_panels (i o g wave later : Int) (w : World) (hE : Pow w) :
    Calls Tryz.prog 3 #[rotV i o g, .int .i64 wave, .int .i64 later] w fun e w' => e = .returned (.bool true) ∧ Below w.heap.size w w' := by
  have HE := Lib.hid hE
  clear hE
  have R0 := RB.make w i o g
  obtain ⟨W1, hW1⟩ : ∃ W1, w.alloc (.cells #[.int .i64 i, .int .i64 o, .int .i64 g] 23) = W1 := ⟨_, rfl⟩
  rw [hW1] at R0
  have H0 := Lib.hid R0
  dsimp only [RB] at R0
  go_enter Tryz.func3, Tryz.ntmps3
  go_wp2_with fail
  clear R0 hW1
  refine (Groups_c i o g wave W1).mono ?_
  rintro e w2 ⟨v1, rfl, g1⟩
  have R2 := H0.out.keep (Below.mono g1.bel (Nat.le_refl _))
  have H2 := Lib.hid R2
  have G1 := Lib.hid g1
  clear g1 H0
  dsimp only [RB] at R2
  go_wp2_with fail
  clear R2
  refine (RGroups_c i o g wave w2).mono ?_
  rintro e w3 ⟨v2, rfl, g2⟩
  have R3 := H2.out.keep (Below.mono g2.bel (Nat.le_refl _))
  have H3 := Lib.hid R3
  have G2 := Lib.hid g2
  have G13 := Lib.hid (G1.out.keep g2.bel)
  clear g2 H2 G1
  dsimp only [RB] at R3
  have hLS : LS w W1 w2 i o g (gL i o g wave) v1 v2 w3 := ⟨H3.out.1, H3.out.2.1, H3.out.2.2.1, H3.out.2.2.2.out, G13.out, G2.out⟩
  obtain ⟨x, hx⟩ : ∃ x, chkRot i o g = x := ⟨_, rfl⟩
  have HX := Lib.hid hx
  have HLEN : Hid ((gL i o g wave).length ≤ 9223372036854775807) := Nat.le_trans (gL_len _ _ _ _) (by decide)
  clear hx G2 G13
  generalize gL i o g wave = L at *
  generalize gF i o g wave = f at *
  go_wp2_with fail
  clear R3 H3
  go_region_held3 (fun W => W.cell? ⟨w.heap.size, 0, none⟩ = some (.int .i64 i) ∧ W.cell? ⟨w.heap.size, 1, none⟩ = some (.int .i64 o) ∧ W.cell? ⟨w.heap.size, 2, none⟩ = some (.int .i64 g) ∧ Hid ((Below w.heap.size w W ∧ w.heap.size < W.heap.size) ∧ Grown W1.heap.size W1 L v1 W ∧ Grown w2.heap.size w2 L v2 W)) (first | exact hLS.keep (Below.refl _ _).drew | assumption)
    (first | (go_at_call 7; (with_reducible refine (ls_chk w W1 w2 i o g L v1 v2 x HX.out _ ?_).mono ?_); assumption; rintro e w' ⟨rfl, hbx⟩) | (go_at_call 8; (with_reducible refine (ls_rchk w W1 w2 i o g L v1 v2 x HX.out _ ?_).mono ?_); assumption; rintro e w' ⟨rfl, hbx⟩) | (go_at_call 9; (with_reducible refine (ls_eq w W1 w2 i o g L v1 v2 HLEN.out _ ?_).mono ?_); assumption; rintro e w' ⟨rfl, hbx⟩))
  have R4 := hbx.rb
  have H4 := Lib.hid R4
  clear hbx hLS
  dsimp only [RB] at R4
  go_wp2_with fail
  clear R4
  refine (Overlap_c i o g wave later _).mono ?_
  rintro e w5 ⟨rfl, b5⟩
  have H5 := Lib.hid (H4.out.keep b5)
  clear b5 H4
  have HRO := Lib.hid (fun W (hP : Pow W) => ROverlap_c i o g wave later W hP)
  generalize ovN i o g wave later = s1 at *
  generalize ovD i o g wave later = s2 at *
  generalize ovF i o g wave later = f2 at *
  obtain ⟨W6, hW6⟩ : ∃ W6, w5.alloc (.cells #[.string s1, .string s2] 31) = W6 := ⟨_, rfl⟩
  have H6 := Lib.hid (show RB w i o g W6 by rw [← hW6]; exact H5.out.keep (bel_one _ _))
  have R6 := H6.out
  dsimp only [RB] at R6
  have p0 : Hid (W6.cell? ⟨w5.heap.size, 0, none⟩ = some (.string s1) ∧ W6.cell? ⟨w5.heap.size, 1, none⟩ = some (.string s2) ∧ w5.heap.size < W6.heap.size) := by
    rw [← hW6]
    exact ⟨by rw [World.cell?_alloc_at _ _ _ _ rfl]; rfl, by rw [World.cell?_alloc_at _ _ _ _ rfl]; rfl, by simp⟩
  go_wp2_with fail
  clear R6 hW6
  refine (HRO.out W6 (Go.Joins.tab_stays gPow HE.out H6.out.2.2.2.out.1 (Nat.le_refl _))).mono ?_
  rintro e w7 ⟨rfl, b7⟩
  have H7 := Lib.hid (H6.out.keep b7)
  have m0 : w7.cell? ⟨w5.heap.size, 0, none⟩ = some (.string s1) := by rw [b7.cell (p := ⟨w5.heap.size, 0, none⟩) p0.out.2.2]; exact p0.out.1
  have m1 : w7.cell? ⟨w5.heap.size, 1, none⟩ = some (.string s2) := by rw [b7.cell (p := ⟨w5.heap.size, 1, none⟩) p0.out.2.2]; exact p0.out.2.1
  have ms : w5.heap.size < w7.heap.size := Nat.lt_of_lt_of_le p0.out.2.2 b7.size
  obtain ⟨W8, hW8⟩ : ∃ W8, w7.alloc (.cells #[.string s1, .string s2] 31) = W8 := ⟨_, rfl⟩
  have H8 := Lib.hid (show RB w i o g W8 by rw [← hW8]; exact H7.out.keep (bel_one _ _))
  have q0 : W8.cell? ⟨w7.heap.size, 0, none⟩ = some (.string s1) := by rw [← hW8, World.cell?_alloc_at _ _ _ _ rfl]; rfl
  have q1 : W8.cell? ⟨w7.heap.size, 1, none⟩ = some (.string s2) := by rw [← hW8, World.cell?_alloc_at _ _ _ _ rfl]; rfl
  have q2 : W8.cell? ⟨w5.heap.size, 0, none⟩ = some (.string s1) := by rw [← hW8, (bel_one w7 _).cell (p := ⟨w5.heap.size, 0, none⟩) ms]; exact m0
  have q3 : W8.cell? ⟨w5.heap.size, 1, none⟩ = some (.string s2) := by rw [← hW8, (bel_one w7 _).cell (p := ⟨w5.heap.size, 1, none⟩) ms]; exact m1
  clear m0 m1 ms b7 p0
  go_wp2
  go_ret
  exact ⟨rfl, H8.out.2.2.2.out.1⟩
end Go.Proofs.YtiengbhncgnjnaaGreatDoor
