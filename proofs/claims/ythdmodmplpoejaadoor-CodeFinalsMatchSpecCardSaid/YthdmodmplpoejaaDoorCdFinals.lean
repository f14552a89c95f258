/-
  CodeFinalsMatchSpec: the law.
-/
import Derived.Test.YthdmodmplpoejaaDoorCdRfns
namespace Go.Proofs.YthdmodmplpoejaaDoor
open Go.RowKit Go.WideMaps Go.Maps

theorem cg_ext {R S : List Cg} (hl : R.length = S.length) (h : ∀ j, j < R.length → cg R j = cg S j) : R = S := by
  refine List.ext_getElem hl fun j h1 h2 => ?_
  have := h j h1
  rw [cg_is h1, cg_is h2] at this
  exact this
theorem res_one {l : List Nd} {C R S : List Cg} (h0 : forS l C = 0) (h1 : Res l C R) (h2 : Res l C S) (l1 : R.length = (cases_ C).length) (l2 : S.length = (cases_ C).length) : S = R := by
  obtain ⟨F, _, _, hcs⟩ := for_ok h0
  refine cg_ext (by omega) fun j hj => ?_
  obtain ⟨g1, _, g3⟩ := case_has hcs (j := j) (by omega)
  obtain ⟨p1, p2⟩ := h1 j (by omega)
  obtain ⟨q1, q2⟩ := h2 j hj
  obtain ⟨e1, e2⟩ := fin_one F.tree g3 g1 q2 p2
  have e0 : (cg S j).ca = (cg R j).ca := by rw [q1, p1]
  cases hS : cg S j with
  | mk x1 x2 x3 =>
    cases hR : cg R j with
    | mk y1 y2 y3 =>
      rw [hS, hR] at e0 e1 e2
      simp only at e0 e1 e2
      rw [e0, e1, e2]
theorem fn_ok {l : List Nd} {C : List Cg} {w w' : World} {e : Ending} (h : FnP l C w e w') (hz : forS l C = 0) : ∃ a c R, e = .returned (.tuple #[.slice a (cases_ C).length c, .int .i64 0]) ∧ R.length = (cases_ C).length ∧ Res l C R ∧ RdC w' a R ∧ Below w.heap.size w w' := by
  rcases h with ⟨_, h⟩ | ⟨h, _⟩
  · exact h
  · exact absurd hz h
theorem fn_no {l : List Nd} {C : List Cg} {w w' : World} {e : Ending} (h : FnP l C w e w') (hz : forS l C ≠ 0) : e = .returned (.tuple #[.slice none 0 0, .int .i64 (forS l C)]) ∧ Below w.heap.size w w' := by
  rcases h with ⟨h, _⟩ | ⟨_, h⟩
  · exact absurd h hz
  · exact h
theorem eqF_none (w : World) : Calls Tryd.prog 23 #[.slice none 0 0, .slice none 0 0] w fun e w' => e = .returned (.bool true) ∧ Below w.heap.size w w' :=
  eqF_c none none 0 0 [] w (RdC.nil_ _ _) (RdC.nil_ _ _)
set_option maxRecDepth 100000 in
set_option maxHeartbeats 4000000 in
theorem law_finals (a1 : Option Addr) (c1 : Nat) (l : List Nd) (a2 : Option Addr) (c2 : Nat) (C : List Cg) (w : World)
    (h1 : RdN w a1 l) (f1 : Fits l) (h2 : RdC w a2 C) (_f2 : FitsC C) (hcap : C.length ≤ c2) :
    Calls Tryd.prog 5 #[.slice a1 l.length c1, .slice a2 C.length c2] w fun e w' => e = .returned (.bool true) ∧ Below w.heap.size w w' := by
  have K1 := Lib.hid (Finals_c a1 c1 l a2 c2 C w h1 f1 h2 hcap)
  have K2 := Lib.hid (fun W (hb : Below w.heap.size w W) => rFinals_c a1 c1 l a2 c2 C W (h1.below hb) f1 (h2.below hb))
  have K3 := Lib.hid (fun W (hb : Below w.heap.size w W) => CheckCodings_c a1 c1 l a2 c2 C W (h1.below hb) f1 (h2.below hb))
  have K4 := Lib.hid (fun W (hb : Below w.heap.size w W) => rCheckCodings_c a1 c1 l a2 c2 C W (h1.below hb) f1 (h2.below hb))
  clear h1 h2 f1 hcap
  by_cases z1 : forS l C = 0
  · have Z1 := Lib.hid z1
    rw [z1] at K3 K4
    clear z1
    go_enter Tryd.func5, Tryd.ntmps5
    go_wp2_with fail
    (with_reducible refine K1.out.mono ?_)
    intro e W1 he
    obtain ⟨a3, c3, R, rfl, hlen, hres, hrd, b1⟩ := fn_ok he Z1.out
    have B1 := Lib.hid b1
    have HR := Lib.hid hrd
    have HS := Lib.hid (And.intro hlen hres)
    clear b1 hrd hlen hres he
    go_wp2_with fail
    (with_reducible refine (K2.out W1 B1.out).mono ?_)
    intro e W2 he
    obtain ⟨a4, c4, S, rfl, hlen, hres, hrd, b2⟩ := fn_ok he Z1.out
    obtain rfl := res_one Z1.out HS.out.2 hres HS.out.1 hlen
    have B2 := Lib.hid (B1.out.trans (b2.mono B1.out.size))
    have E5 : Hid (∀ W, Below W2.heap.size W2 W → Calls Tryd.prog 23 #[.slice a3 (cases_ C).length c3, .slice a4 (cases_ C).length c4] W fun e w' => e = .returned (.bool true) ∧ Below W.heap.size W w') := fun W hb => by
      have := eqF_c a3 a4 c3 c4 S W ((HR.out.below b2).below hb) (hrd.below hb)
      rw [hlen] at this
      exact this
    clear b2 hrd hlen hres he K1 K2 HS HR
    obtain ⟨n, hn⟩ : ∃ n, (cases_ C).length = n := ⟨_, rfl⟩
    rw [hn] at E5 ⊢
    clear hn
    go_wp2_with fail
    (with_reducible refine (K3.out W2 B2.out).mono ?_)
    rintro e W3 ⟨rfl, b3⟩
    have B3 := Lib.hid (B2.out.trans (b3.mono B2.out.size))
    have b3 := Lib.hid b3
    go_wp2_with fail
    (with_reducible refine (K4.out W3 B3.out).mono ?_)
    rintro e W4 ⟨rfl, b4⟩
    have B4 := Lib.hid (B3.out.trans (b4.mono B3.out.size))
    have E6 := Lib.hid (E5.out W4 (b3.out.trans (b4.mono b3.out.size)))
    clear b4 b3 E5 K3 K4
    go_wp2_with fail
    (with_reducible refine E6.out.mono ?_)
    rintro e W5 ⟨rfl, b5⟩
    have B5 := Lib.hid (B4.out.trans (b5.mono B4.out.size))
    clear b5 E6
    go_wp2
    go_ret
    exact ⟨rfl, B5.out⟩
  · have HZ := Lib.hid z1
    obtain ⟨g, hgl⟩ : ∃ g, forS l C = g := ⟨_, rfl⟩
    have HGL := Lib.hid hgl
    rw [hgl] at K3 K4
    clear z1 hgl
    go_enter Tryd.func5, Tryd.ntmps5
    go_wp2_with fail
    (with_reducible refine K1.out.mono ?_)
    intro e W1 he
    obtain ⟨rfl, b1⟩ := fn_no he HZ.out
    rw [HGL.out]
    have B1 := Lib.hid b1
    clear b1 he
    go_wp2_with fail
    (with_reducible refine (K2.out W1 B1.out).mono ?_)
    intro e W2 he
    obtain ⟨rfl, b2⟩ := fn_no he HZ.out
    rw [HGL.out]
    have B2 := Lib.hid (B1.out.trans (b2.mono B1.out.size))
    clear b2 he K1 K2
    go_wp2_with fail
    (with_reducible refine (K3.out W2 B2.out).mono ?_)
    rintro e W3 ⟨rfl, b3⟩
    have B3 := Lib.hid (B2.out.trans (b3.mono B2.out.size))
    clear b3
    go_wp2_with fail
    (with_reducible refine (K4.out W3 B3.out).mono ?_)
    rintro e W4 ⟨rfl, b4⟩
    have B4 := Lib.hid (B3.out.trans (b4.mono B3.out.size))
    have E6 := Lib.hid (eqF_none W4)
    clear b4 K3 K4
    go_wp2_with fail
    (with_reducible refine E6.out.mono ?_)
    rintro e W5 ⟨rfl, b5⟩
    have B5 := Lib.hid (B4.out.trans (b5.mono B4.out.size))
    clear b5 E6
    go_wp2
    go_ret
    exact ⟨rfl, B5.out⟩
end Go.Proofs.YthdmodmplpoejaaDoor
