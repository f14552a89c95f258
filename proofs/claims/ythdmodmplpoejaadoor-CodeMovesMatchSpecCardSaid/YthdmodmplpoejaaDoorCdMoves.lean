/-
  CodeMovesMatchSpec: the law.
-/
import Derived.Test.YthdmodmplpoejaaDoorCdRrec
namespace Go.Proofs.YthdmodmplpoejaaDoor
open Go.RowKit Go.WideMaps Go.Maps

theorem eqC_none (w : World) : Calls Tryd.prog 26 #[.slice none 0 0, .slice none 0 0] w fun e w' => e = .returned (.bool true) ∧ Below w.heap.size w w' :=
  eqC_c none none 0 0 [] w (RdC.nil_ _ _) (RdC.nil_ _ _)

set_option maxRecDepth 100000 in
set_option maxHeartbeats 4000000 in
theorem law_moves (a1 : Option Addr) (c1 : Nat) (l1 : List Nd) (a2 : Option Addr) (c2 : Nat) (l2 : List Nd) (a3 : Option Addr) (c3 : Nat) (M : List Mv) (a4 : Option Addr) (c4 : Nat) (C : List Cg) (n : Int) (w : World)
    (h1 : RdN w a1 l1) (f1 : Fits l1) (h2 : RdN w a2 l2) (f2 : Fits l2) (h3 : RdM w a3 M) (f3 : FitsM M) (h4 : RdC w a4 C) (f4 : FitsC C) :
    Calls Tryd.prog 6 #[.slice a1 l1.length c1, .slice a2 l2.length c2, .slice a3 M.length c3, .slice a4 C.length c4, .int .i64 n] w fun e w' => e = .returned (.bool true) ∧ Below w.heap.size w w' := by
  have K1 := Lib.hid (Lift_c a1 c1 l1 a4 c4 C n w h1 f1 h4)
  have K2 := Lib.hid (fun W (hb : Below w.heap.size w W) => rLift_c a1 c1 l1 a4 c4 C n W (h1.below hb) f1 (h4.below hb))
  have K3 := Lib.hid (fun W (hb : Below w.heap.size w W) => Recode_c a1 c1 l1 a2 c2 l2 a3 c3 M a4 c4 C W (h1.below hb) f1 (h2.below hb) f2 (h3.below hb) f3 (h4.below hb) f4)
  have K4 := Lib.hid (fun W (hb : Below w.heap.size w W) => rRecode_c a1 c1 l1 a2 c2 l2 a3 c3 M a4 c4 C W (h1.below hb) f1 (h2.below hb) f2 (h3.below hb) f3 (h4.below hb) f4)
  clear h1 h2 h3 h4 f1 f2 f3 f4
  by_cases z1 : liE l1 C n = 0
  · have Z1 := Lib.hid z1
    clear z1
    go_enter Tryd.func6, Tryd.ntmps6
    go_wp2_with fail
    (with_reducible refine K1.out.mono ?_)
    intro e W1 he
    obtain ⟨x1, y1, rfl, hA, b1⟩ := lift_ok he Z1.out
    have B1 := Lib.hid b1
    have HA := Lib.hid hA
    clear b1 hA he
    go_wp2_with fail
    (with_reducible refine (K2.out W1 B1.out).mono ?_)
    intro e W2 he
    obtain ⟨x2, y2, rfl, hB, b2⟩ := lift_ok he Z1.out
    have B2 := Lib.hid (B1.out.trans (b2.mono B1.out.size))
    have E3 : Hid (Calls Tryd.prog 26 #[.slice x1 C.length y1, .slice x2 C.length y2] W2 fun e w' => e = .returned (.bool true) ∧ Below W2.heap.size W2 w') := by
      have := eqC_c x1 x2 y1 y2 (lifC l1 n.toNat C) W2 (HA.out.below b2) hB
      rw [lifC_len] at this
      exact this
    clear b2 hB he
    go_wp2_with fail
    (with_reducible refine E3.out.mono ?_)
    rintro e W3 ⟨rfl, b3⟩
    have B3 := Lib.hid (B2.out.trans (b3.mono B2.out.size))
    clear b3 K1 K2
    by_cases z2 : reE l1 l2 M C = 0
    · have Z2 := Lib.hid z2
      clear z2
      go_wp2_with fail
      (with_reducible refine (K3.out W3 B3.out).mono ?_)
      intro e W5 he
      obtain ⟨_, v4, v5, rfl, ⟨a5, c5, rfl, h5⟩, ⟨a6, c6, rfl, h6⟩, b5⟩ | ⟨h, _⟩ := he
      rotate_left
      · exact absurd Z2.out h
      have B5 := Lib.hid (B3.out.trans (b5.mono B3.out.size))
      have HX5 := Lib.hid h5
      have HX6 := Lib.hid h6
      clear b5 h5 h6
      go_wp2_with fail
      (with_reducible refine (K4.out W5 B5.out).mono ?_)
      intro e W6 he
      obtain ⟨_, v7, v8, rfl, ⟨a7, c7, rfl, h7⟩, ⟨a8, c8, rfl, h8⟩, b6⟩ | ⟨h, _⟩ := he
      rotate_left
      · exact absurd Z2.out h
      have B6 := Lib.hid (B5.out.trans (b6.mono B5.out.size))
      have E7 := Lib.hid (eqC_c a5 a7 c5 c7 (carL (suS l1 l2 M) C) W6 (HX5.out.below b6) h7)
      have E8 := Lib.hid (fun W (hb : Below W6.heap.size W6 W) => eqC_c a6 a8 c6 c8 (lefL (suS l1 l2 M) C) W ((HX6.out.below b6).below hb) (h8.below hb))
      clear b6 h7 h8
      go_wp2_with fail
      (with_reducible refine E7.out.mono ?_)
      rintro e W7 ⟨rfl, b7⟩
      have B7 := Lib.hid (B6.out.trans (b7.mono B6.out.size))
      have E9 := Lib.hid (E8.out W7 b7)
      clear b7
      go_wp2_with fail
      (with_reducible refine E9.out.mono ?_)
      rintro e W8 ⟨rfl, b8⟩
      have B8 := Lib.hid (B7.out.trans (b8.mono B7.out.size))
      clear b8
      go_wp2
      go_ret
      exact ⟨rfl, B8.out⟩
    · obtain ⟨f, hfl⟩ : ∃ f, reE l1 l2 M C = f := ⟨_, rfl⟩
      have HFL := Lib.hid hfl
      have HZ := Lib.hid z2
      clear z2 hfl
      go_wp2_with fail
      (with_reducible refine (K3.out W3 B3.out).mono ?_)
      intro e W5 he
      obtain ⟨h, _⟩ | ⟨_, rfl, b5⟩ := he
      · exact absurd h HZ.out
      rw [HFL.out]
      have B5 := Lib.hid (B3.out.trans (b5.mono B3.out.size))
      clear b5
      go_wp2_with fail
      (with_reducible refine (K4.out W5 B5.out).mono ?_)
      intro e W6 he
      obtain ⟨h, _⟩ | ⟨_, rfl, b6⟩ := he
      · exact absurd h HZ.out
      rw [HFL.out]
      have B6 := Lib.hid (B5.out.trans (b6.mono B5.out.size))
      have E7 := Lib.hid (eqC_none W6)
      clear b6
      go_wp2_with fail
      (with_reducible refine E7.out.mono ?_)
      rintro e W7 ⟨rfl, b7⟩
      have B7 := Lib.hid (B6.out.trans (b7.mono B6.out.size))
      have E9 := Lib.hid (eqC_none W7)
      clear b7
      go_wp2_with fail
      (with_reducible refine E9.out.mono ?_)
      rintro e W8 ⟨rfl, b8⟩
      have B8 := Lib.hid (B7.out.trans (b8.mono B7.out.size))
      clear b8
      go_wp2
      go_ret
      exact ⟨rfl, B8.out⟩
  · obtain ⟨g, hgl⟩ : ∃ g, liE l1 C n = g := ⟨_, rfl⟩
    have HGL := Lib.hid hgl
    have HZ1 := Lib.hid z1
    clear z1 hgl
    go_enter Tryd.func6, Tryd.ntmps6
    go_wp2_with fail
    (with_reducible refine K1.out.mono ?_)
    intro e W1 he
    obtain ⟨rfl, b1⟩ := lift_no he HZ1.out
    rw [HGL.out]
    have B1 := Lib.hid b1
    clear b1 he
    go_wp2_with fail
    (with_reducible refine (K2.out W1 B1.out).mono ?_)
    intro e W2 he
    obtain ⟨rfl, b2⟩ := lift_no he HZ1.out
    rw [HGL.out]
    have B2 := Lib.hid (B1.out.trans (b2.mono B1.out.size))
    have E3 := Lib.hid (eqC_none W2)
    clear b2 he
    go_wp2_with fail
    (with_reducible refine E3.out.mono ?_)
    rintro e W3 ⟨rfl, b3⟩
    have B3 := Lib.hid (B2.out.trans (b3.mono B2.out.size))
    clear b3 K1 K2
    by_cases z2 : reE l1 l2 M C = 0
    · have Z2 := Lib.hid z2
      clear z2
      go_wp2_with fail
      (with_reducible refine (K3.out W3 B3.out).mono ?_)
      intro e W5 he
      obtain ⟨_, v4, v5, rfl, ⟨a5, c5, rfl, h5⟩, ⟨a6, c6, rfl, h6⟩, b5⟩ | ⟨h, _⟩ := he
      rotate_left
      · exact absurd Z2.out h
      have B5 := Lib.hid (B3.out.trans (b5.mono B3.out.size))
      have HX5 := Lib.hid h5
      have HX6 := Lib.hid h6
      clear b5 h5 h6
      go_wp2_with fail
      (with_reducible refine (K4.out W5 B5.out).mono ?_)
      intro e W6 he
      obtain ⟨_, v7, v8, rfl, ⟨a7, c7, rfl, h7⟩, ⟨a8, c8, rfl, h8⟩, b6⟩ | ⟨h, _⟩ := he
      rotate_left
      · exact absurd Z2.out h
      have B6 := Lib.hid (B5.out.trans (b6.mono B5.out.size))
      have E7 := Lib.hid (eqC_c a5 a7 c5 c7 (carL (suS l1 l2 M) C) W6 (HX5.out.below b6) h7)
      have E8 := Lib.hid (fun W (hb : Below W6.heap.size W6 W) => eqC_c a6 a8 c6 c8 (lefL (suS l1 l2 M) C) W ((HX6.out.below b6).below hb) (h8.below hb))
      clear b6 h7 h8
      go_wp2_with fail
      (with_reducible refine E7.out.mono ?_)
      rintro e W7 ⟨rfl, b7⟩
      have B7 := Lib.hid (B6.out.trans (b7.mono B6.out.size))
      have E9 := Lib.hid (E8.out W7 b7)
      clear b7
      go_wp2_with fail
      (with_reducible refine E9.out.mono ?_)
      rintro e W8 ⟨rfl, b8⟩
      have B8 := Lib.hid (B7.out.trans (b8.mono B7.out.size))
      clear b8
      go_wp2
      go_ret
      exact ⟨rfl, B8.out⟩
    · obtain ⟨f, hfl⟩ : ∃ f, reE l1 l2 M C = f := ⟨_, rfl⟩
      have HFL := Lib.hid hfl
      have HZ := Lib.hid z2
      clear z2 hfl
      go_wp2_with fail
      (with_reducible refine (K3.out W3 B3.out).mono ?_)
      intro e W5 he
      obtain ⟨h, _⟩ | ⟨_, rfl, b5⟩ := he
      · exact absurd h HZ.out
      rw [HFL.out]
      have B5 := Lib.hid (B3.out.trans (b5.mono B3.out.size))
      clear b5
      go_wp2_with fail
      (with_reducible refine (K4.out W5 B5.out).mono ?_)
      intro e W6 he
      obtain ⟨h, _⟩ | ⟨_, rfl, b6⟩ := he
      · exact absurd h HZ.out
      rw [HFL.out]
      have B6 := Lib.hid (B5.out.trans (b6.mono B5.out.size))
      have E7 := Lib.hid (eqC_none W6)
      clear b6
      go_wp2_with fail
      (with_reducible refine E7.out.mono ?_)
      rintro e W7 ⟨rfl, b7⟩
      have B7 := Lib.hid (B6.out.trans (b7.mono B6.out.size))
      have E9 := Lib.hid (eqC_none W7)
      clear b7
      go_wp2_with fail
      (with_reducible refine E9.out.mono ?_)
      rintro e W8 ⟨rfl, b8⟩
      have B8 := Lib.hid (B7.out.trans (b8.mono B7.out.size))
      clear b8
      go_wp2
      go_ret
      exact ⟨rfl, B8.out⟩
end Go.Proofs.YthdmodmplpoejaaDoor
