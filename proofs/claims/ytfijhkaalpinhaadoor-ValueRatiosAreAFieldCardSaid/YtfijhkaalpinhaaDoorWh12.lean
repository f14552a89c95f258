/-
  Fractions of whole numbers of any size: sums.
  Ratios of package value: Sum, Product, Order.
  Fractions of whole numbers of any size: Inverse.
-/
import Derived.Test.YtfijhkaalpinhaaDoorWhWhFrac
import Derived.Test.YtfijhkaalpinhaaDoorWh11
import Derived.Test.YtfijhkaalpinhaaDoorWh08
namespace Go.Proofs.YtfijhkaalpinhaaDoor
open Go.RowKit

/-- .. as boxes further on. -/
theorem Ft.lo {w : World} {b1 : Bool} {a1 : Option Addr} {k1 c1 : Nat} {d1 : Bool} {e1 : Option Addr} {m1 q1 : Nat} {b2 : Bool} {a2 : Option Addr} {k2 c2 : Nat} {d2 : Bool} {e2 : Option Addr} {m2 q2 : Nat} {g h : Nat} {pb : Bool} {pa : Option Addr} {pk pc : Nat} {ub : Bool} {ua : Option Addr} {uk uc : Nat} {W : World} (t : Ft w b1 a1 k1 c1 d1 e1 m1 q1 b2 a2 k2 c2 d2 e2 m2 q2 g h pb pa pk pc ub ua uk uc W) : w.heap.size + 1 + 1 < W.heap.size ∧ g < W.heap.size ∧ h < W.heap.size := ⟨t.j.lo, t.bg.lt, t.bh.lt⟩
theorem Ft.two {w : World} {b1 : Bool} {a1 : Option Addr} {k1 c1 : Nat} {d1 : Bool} {e1 : Option Addr} {m1 q1 : Nat} {b2 : Bool} {a2 : Option Addr} {k2 c2 : Nat} {d2 : Bool} {e2 : Option Addr} {m2 q2 : Nat} {g h : Nat} {pb : Bool} {pa : Option Addr} {pk pc : Nat} {ub : Bool} {ua : Option Addr} {uk uc : Nat} {W : World} (t : Ft w b1 a1 k1 c1 d1 e1 m1 q1 b2 a2 k2 c2 d2 e2 m2 q2 g h pb pa pk pc ub ua uk uc W) {i : Nat} (hi : w.heap.size + 1 + 1 < i ∧ g < i ∧ h < i) (y0 y1 : Value) : Ft w b1 a1 k1 c1 d1 e1 m1 q1 b2 a2 k2 c2 d2 e2 m2 q2 g h pb pa pk pc ub ua uk uc (two W i y0 y1) :=
  ⟨t.j.two hi.1 _ _, t.bg.other (by omega) _ _, t.bh.other (by omega) _ _, t.lg, t.lh⟩
/-- .. and a third number. -/
structure Fw3 (w : World) (b1 : Bool) (a1 : Option Addr) (k1 c1 : Nat) (d1 : Bool) (e1 : Option Addr) (m1 q1 : Nat) (b2 : Bool) (a2 : Option Addr) (k2 c2 : Nat) (d2 : Bool) (e2 : Option Addr) (m2 q2 : Nat) (g h : Nat) (pb : Bool) (pa : Option Addr) (pk pc : Nat) (ub : Bool) (ua : Option Addr) (uk uc : Nat) (i : Nat) (nb : Bool) (na : Option Addr) (nk nc : Nat) (W : World) : Prop where
  t : Ft w b1 a1 k1 c1 d1 e1 m1 q1 b2 a2 k2 c2 d2 e2 m2 q2 g h pb pa pk pc ub ua uk uc W
  bi : B2 W i (.bool nb) (.slice na nk nc)
  li : w.heap.size + 1 + 1 < i ∧ g < i ∧ h < i
  gh : g < h
theorem Fw3.keep {w : World} {b1 : Bool} {a1 : Option Addr} {k1 c1 : Nat} {d1 : Bool} {e1 : Option Addr} {m1 q1 : Nat} {b2 : Bool} {a2 : Option Addr} {k2 c2 : Nat} {d2 : Bool} {e2 : Option Addr} {m2 q2 : Nat} {g h : Nat} {pb : Bool} {pa : Option Addr} {pk pc : Nat} {ub : Bool} {ua : Option Addr} {uk uc : Nat} {i : Nat} {nb : Bool} {na : Option Addr} {nk nc : Nat} {W W' : World} (s : Fw3 w b1 a1 k1 c1 d1 e1 m1 q1 b2 a2 k2 c2 d2 e2 m2 q2 g h pb pa pk pc ub ua uk uc i nb na nk nc W) (hb : Below W.heap.size W W') : Fw3 w b1 a1 k1 c1 d1 e1 m1 q1 b2 a2 k2 c2 d2 e2 m2 q2 g h pb pa pk pc ub ua uk uc i nb na nk nc W' := ⟨s.t.keep hb, s.bi.keep hb, s.li, s.gh⟩
/-- The first number is another one. -/
theorem Fw3.setG {w : World} {b1 : Bool} {a1 : Option Addr} {k1 c1 : Nat} {d1 : Bool} {e1 : Option Addr} {m1 q1 : Nat} {b2 : Bool} {a2 : Option Addr} {k2 c2 : Nat} {d2 : Bool} {e2 : Option Addr} {m2 q2 : Nat} {g h : Nat} {pb : Bool} {pa : Option Addr} {pk pc : Nat} {ub : Bool} {ua : Option Addr} {uk uc : Nat} {i : Nat} {nb : Bool} {na : Option Addr} {nk nc : Nat} {W : World} (s : Fw3 w b1 a1 k1 c1 d1 e1 m1 q1 b2 a2 k2 c2 d2 e2 m2 q2 g h pb pa pk pc ub ua uk uc i nb na nk nc W) (b : Bool) (a : Option Addr) (k c : Nat) :
    Fw3 w b1 a1 k1 c1 d1 e1 m1 q1 b2 a2 k2 c2 d2 e2 m2 q2 g h b a k c ub ua uk uc i nb na nk nc (two W g (.bool b) (.slice a k c)) := by
  have l1 := s.li
  have l2 := s.gh
  exact ⟨⟨s.t.j.two s.t.lg _ _, s.t.bg.set _ _, s.t.bh.other (by omega) _ _, s.t.lg, s.t.lh⟩, s.bi.other (by omega) _ _, s.li, s.gh⟩
def SH (o : Nat) (b1 : Bool) (a1 : Option Addr) (k1 c1 : Nat) (d1 : Bool) (e1 : Option Addr) (m1 q1 : Nat) (b2 : Bool) (a2 : Option Addr) (k2 c2 : Nat) (d2 : Bool) (e2 : Option Addr) (m2 q2 : Nat) (g h : Nat) (pb : Bool) (pa : Option Addr) (pk pc : Nat) (ub : Bool) (ua : Option Addr) (uk uc : Nat) (i : Nat) (nb : Bool) (na : Option Addr) (nk nc : Nat) (W : World) : Prop :=
  W.cell? ⟨o, 0, none⟩ = some (.bool b1) ∧ W.cell? ⟨o, 1, none⟩ = some (.slice a1 k1 c1) ∧ W.cell? ⟨o, 2, none⟩ = some (.bool d1) ∧ W.cell? ⟨o, 3, none⟩ = some (.slice e1 m1 q1) ∧
  W.cell? ⟨o + 1, 0, none⟩ = some (.bool b2) ∧ W.cell? ⟨o + 1, 1, none⟩ = some (.slice a2 k2 c2) ∧ W.cell? ⟨o + 1, 2, none⟩ = some (.bool d2) ∧ W.cell? ⟨o + 1, 3, none⟩ = some (.slice e2 m2 q2) ∧
  W.cell? ⟨g, 0, none⟩ = some (.bool pb) ∧ W.cell? ⟨g, 1, none⟩ = some (.slice pa pk pc) ∧ W.cell? ⟨h, 0, none⟩ = some (.bool ub) ∧ W.cell? ⟨h, 1, none⟩ = some (.slice ua uk uc) ∧
  W.cell? ⟨i, 0, none⟩ = some (.bool nb) ∧ W.cell? ⟨i, 1, none⟩ = some (.slice na nk nc)
theorem Fw3.sh {w : World} {b1 : Bool} {a1 : Option Addr} {k1 c1 : Nat} {d1 : Bool} {e1 : Option Addr} {m1 q1 : Nat} {b2 : Bool} {a2 : Option Addr} {k2 c2 : Nat} {d2 : Bool} {e2 : Option Addr} {m2 q2 : Nat} {g h : Nat} {pb : Bool} {pa : Option Addr} {pk pc : Nat} {ub : Bool} {ua : Option Addr} {uk uc : Nat} {i : Nat} {nb : Bool} {na : Option Addr} {nk nc : Nat} {W : World} (s : Fw3 w b1 a1 k1 c1 d1 e1 m1 q1 b2 a2 k2 c2 d2 e2 m2 q2 g h pb pa pk pc ub ua uk uc i nb na nk nc W) : SH w.heap.size b1 a1 k1 c1 d1 e1 m1 q1 b2 a2 k2 c2 d2 e2 m2 q2 g h pb pa pk pc ub ua uk uc i nb na nk nc W :=
  ⟨s.t.j.x.c0, s.t.j.x.c1, s.t.j.x.c2, s.t.j.x.c3, s.t.j.y.c0, s.t.j.y.c1, s.t.j.y.c2, s.t.j.y.c3, s.t.bg.c0, s.t.bg.c1, s.t.bh.c0, s.t.bh.c1, s.bi.c0, s.bi.c1⟩
theorem Fw3.done {w : World} {b1 : Bool} {a1 : Option Addr} {k1 c1 : Nat} {d1 : Bool} {e1 : Option Addr} {m1 q1 : Nat} {b2 : Bool} {a2 : Option Addr} {k2 c2 : Nat} {d2 : Bool} {e2 : Option Addr} {m2 q2 : Nat} {g h : Nat} {pb : Bool} {pa : Option Addr} {pk pc : Nat} {ub : Bool} {ua : Option Addr} {uk uc : Nat} {i : Nat} {nb : Bool} {na : Option Addr} {nk nc : Nat} {W : World} (s : Fw3 w b1 a1 k1 c1 d1 e1 m1 q1 b2 a2 k2 c2 d2 e2 m2 q2 g h pb pa pk pc ub ua uk uc i nb na nk nc W) (y0 y1 y2 y3 : Value) : SH w.heap.size b1 a1 k1 c1 d1 e1 m1 q1 b2 a2 k2 c2 d2 e2 m2 q2 g h pb pa pk pc ub ua uk uc i nb na nk nc (four W (w.heap.size + 1 + 1) y0 y1 y2 y3) := by
  obtain ⟨a0, a1, a2, a3, b0, b1, b2, b3, g0, g1, h0, h1⟩ := s.t.done y0 y1 y2 y3
  have l1 := s.li
  exact ⟨a0, a1, a2, a3, b0, b1, b2, b3, g0, g1, h0, h1, (four_cell (by omega) _ _ _ _ 0).trans s.bi.c0, (four_cell (by omega) _ _ _ _ 1).trans s.bi.c1⟩
set_option maxRecDepth 100000 in
set_option maxHeartbeats 4000000 in
theorem FPlus_c (b1 : Bool) (a1 : Option Addr) (k1 c1 : Nat) (d1 : Bool) (e1 : Option Addr) (m1 q1 : Nat) (b2 : Bool) (a2 : Option Addr) (k2 c2 : Nat) (d2 : Bool) (e2 : Option Addr) (m2 q2 : Nat) (z1 y1 z2 y2 : Int) (w : World) (h1 : Zn w b1 a1 k1 c1 z1) (g1 : Zn w d1 e1 m1 q1 y1) (h2 : Zn w b2 a2 k2 c2 z2) (g2 : Zn w d2 e2 m2 q2 y2) (n1 : z1.natAbs < bp 2000) (o1 : y1.natAbs < bp 2000) (n2 : z2.natAbs < bp 2000) (o2 : y2.natAbs < bp 2000) (p1 : 0 < y1) (p2 : 0 < y2) (u1 : Int.gcd z1 y1 = 1) (u2 : Int.gcd z2 y2 = 1) (la : (z1 * y2.tdiv ((Int.gcd y1 y2 : Nat) : Int)).natAbs < bp 2000 ∧ (z2 * y1.tdiv ((Int.gcd y1 y2 : Nat) : Int)).natAbs < bp 2000 ∧ (z1 * y2.tdiv ((Int.gcd y1 y2 : Nat) : Int) + z2 * y1.tdiv ((Int.gcd y1 y2 : Nat) : Int)).natAbs < bp 2000) :
    Calls Tryd.prog 18 #[.agg #[.bool b1, .slice a1 k1 c1, .bool d1, .slice e1 m1 q1], .agg #[.bool b2, .slice a2 k2 c2, .bool d2, .slice e2 m2 q2]] w (FrPost ((z1 * y2 + z2 * y1).tdiv (ovG (z1 * y2 + z2 * y1) (y1 * y2))) ((y1 * y2).tdiv (ovG (z1 * y2 + z2 * y1) (y1 * y2))) w) := by
  obtain ⟨W0, hW0⟩ : ∃ W0, ((w.alloc (.cells #[.bool b1, .slice a1 k1 c1, .bool d1, .slice e1 m1 q1] 39)).alloc (.cells #[.bool b2, .slice a2 k2 c2, .bool d2, .slice e2 m2 q2] 39)).alloc (.cells #[.bool false, .slice none 0 0, .bool false, .slice none 0 0] 39) = W0 := ⟨_, rfl⟩
  have J0 : Hid (F3 w b1 a1 k1 c1 d1 e1 m1 q1 b2 a2 k2 c2 d2 e2 m2 q2 W0) := by rw [← hW0]; exact F3.made _ _ _ _ _ _ _ _ _ _ _ _ _ _ _ _ _ _ _ _
  have M1 := Lib.hid (fun W (h : F3 w b1 a1 k1 c1 d1 e1 m1 q1 b2 a2 k2 c2 d2 e2 m2 q2 W) => h1.below h.bel)
  have M2 := Lib.hid (fun W (h : F3 w b1 a1 k1 c1 d1 e1 m1 q1 b2 a2 k2 c2 d2 e2 m2 q2 W) => h2.below h.bel)
  have D1 := Lib.hid (fun W (h : F3 w b1 a1 k1 c1 d1 e1 m1 q1 b2 a2 k2 c2 d2 e2 m2 q2 W) => g1.below h.bel)
  have D2 := Lib.hid (fun W (h : F3 w b1 a1 k1 c1 d1 e1 m1 q1 b2 a2 k2 c2 d2 e2 m2 q2 W) => g2.below h.bel)
  have N1 := Lib.hid n1
  have N2 := Lib.hid n2
  have O1 := Lib.hid o1
  have O2 := Lib.hid o2
  have N14 := Lib.hid (Nat.lt_of_lt_of_le n1 (bp_mono (show 2000 ≤ 4000 by decide)))
  have N24 := Lib.hid (Nat.lt_of_lt_of_le n2 (bp_mono (show 2000 ≤ 4000 by decide)))
  have O14 := Lib.hid (Nat.lt_of_lt_of_le o1 (bp_mono (show 2000 ≤ 4000 by decide)))
  have O24 := Lib.hid (Nat.lt_of_lt_of_le o2 (bp_mono (show 2000 ≤ 4000 by decide)))
  have PG := Lib.hid (plus_gcd p1 p2 u1 u2 rfl rfl rfl rfl rfl)
  have GZ : Hid (((Int.gcd y1 y2 : Nat) : Int) ≠ 0) := PG.out.1
  have LA := Lib.hid la
  have LD : Hid ((((Int.gcd y1 y2 : Nat) : Int)).natAbs < bp 2000) := by
    have h := Int.gcd_dvd_left (a := y1) (b := y2)
    have : (((Int.gcd y1 y2 : Nat) : Int)).natAbs ≤ y1.natAbs := by
      rw [Int.natAbs_natCast]
      exact Nat.le_of_dvd (by omega) (Int.ofNat_dvd_left.1 h)
    exact Nat.lt_of_le_of_lt this o1
  have HC := Lib.hid (Common_c d1 d2 e1 e2 m1 m2 q1 q2 y1 y2 W0 (D1.out _ J0.out) (D2.out _ J0.out) O1.out O2.out)
  clear h1 h2 g1 g2 n1 n2 o1 o2 p1 p2 u1 u2 la
  have x2 := J0.out.x.c2
  have x3 := J0.out.x.c3
  have y2' := J0.out.y.c2
  have y3 := J0.out.y.c3
  go_enter Tryd.func18, Tryd.ntmps18
  go_wp2_with fail
  clear hW0 x2 x3 y2' y3
  (with_reducible refine HC.out.mono ?_)
  rintro e V1 ⟨pb, pa, pk, pc, rfl, hp, bc⟩
  have J1 := Lib.hid (J0.out.keep bc)
  have P1 := Lib.hid hp
  clear bc hp HC J0
  obtain ⟨V2, hV2⟩ : ∃ W, V1.alloc (.cells #[.bool false, .slice none 0 0] 37) = W := ⟨_, rfl⟩
  have B_V2 : B2 V2 V1.heap.size (.bool false) (.slice none 0 0) := by rw [← hV2]; exact B2.made _ _ _ _
  have b_V2 : Below V1.heap.size V1 V2 := by rw [← hV2]; exact bel_one _ _
  obtain ⟨g, hg⟩ : ∃ g, V1.heap.size = g := ⟨_, rfl⟩
  rw [hg] at B_V2
  obtain ⟨V3, hV3⟩ : ∃ W, two V2 g (.bool pb) (.slice pa pk pc) = W := ⟨_, rfl⟩
  have C_V3 : B2 V3 g (.bool pb) (.slice pa pk pc) := by rw [← hV3]; exact B_V2.set _ _
  have z0_V2 := B_V2.c0
  have z1_V2 := B_V2.c1
  have f0_V2 := B_V2.fr 0
  have f1_V2 := B_V2.fr 1
  have J3 : Hid (F3 w b1 a1 k1 c1 d1 e1 m1 q1 b2 a2 k2 c2 d2 e2 m2 q2 V3) := by rw [← hV3]; exact (J1.out.keep b_V2).two (by rw [← hg]; exact J1.out.lo) _ _
  have P3 : Hid (Zn V3 pb pa pk pc ((Int.gcd y1 y2 : Nat) : Int)) := by rw [← hV3]; exact (P1.out.below b_V2).set2 B_V2 _ _
  have LG : Hid (w.heap.size + 1 + 1 < g) := by rw [← hg]; exact J1.out.lo
  have HC := Lib.hid (part_c d1 pb e1 pa m1 pk q1 pc y1 ((Int.gcd y1 y2 : Nat) : Int) V3 (D1.out _ J3.out) P3.out GZ.out O14.out)
  have x2 := J3.out.x.c2
  have x3 := J3.out.x.c3
  have c0 := C_V3.c0
  have c1' := C_V3.c1
  have G3 := Lib.hid C_V3
  clear B_V2 b_V2 C_V3 J1 P1
  unfold two at hV3
  go_wp2_with fail
  clear hV3 hV2 hg x2 x3 c0 c1' z0_V2 z1_V2 f0_V2 f1_V2
  (with_reducible refine HC.out.mono ?_)
  rintro e V4 ⟨ub, ua, uk, uc, rfl, hp, bc⟩
  have J4 := Lib.hid (J3.out.keep bc)
  have G4 := Lib.hid (G3.out.keep bc)
  have P4 := Lib.hid (P3.out.below bc)
  have U4 := Lib.hid hp
  clear bc hp HC J3 G3 P3
  obtain ⟨V5, hV5⟩ : ∃ W, V4.alloc (.cells #[.bool false, .slice none 0 0] 37) = W := ⟨_, rfl⟩
  have B_V5 : B2 V5 V4.heap.size (.bool false) (.slice none 0 0) := by rw [← hV5]; exact B2.made _ _ _ _
  have b_V5 : Below V4.heap.size V4 V5 := by rw [← hV5]; exact bel_one _ _
  obtain ⟨h, hh⟩ : ∃ g, V4.heap.size = g := ⟨_, rfl⟩
  rw [hh] at B_V5
  obtain ⟨V6, hV6⟩ : ∃ W, two V5 h (.bool ub) (.slice ua uk uc) = W := ⟨_, rfl⟩
  have C_V6 : B2 V6 h (.bool ub) (.slice ua uk uc) := by rw [← hV6]; exact B_V5.set _ _
  have z0_V5 := B_V5.c0
  have z1_V5 := B_V5.c1
  have f0_V5 := B_V5.fr 0
  have f1_V5 := B_V5.fr 1
  have GH : Hid (g < h) := by rw [← hh]; exact G4.out.lt
  have T6 : Hid (Ft w b1 a1 k1 c1 d1 e1 m1 q1 b2 a2 k2 c2 d2 e2 m2 q2 g h pb pa pk pc ub ua uk uc V6) := by
    have hlo := J4.out.lo
    rw [hh] at hlo
    rw [← hV6]
    refine ⟨(J4.out.keep b_V5).two hlo _ _, (G4.out.keep b_V5).other (by have := GH.out; omega) _ _, ?_, LG.out, hlo⟩
    rw [hV6]; exact C_V6
  have P6 : Hid (Zn V6 pb pa pk pc ((Int.gcd y1 y2 : Nat) : Int)) := by rw [← hV6]; exact (P4.out.below b_V5).set2 B_V5 _ _
  have U6 : Hid (Zn V6 ub ua uk uc (y1.tdiv ((Int.gcd y1 y2 : Nat) : Int))) := by rw [← hV6]; exact (U4.out.below b_V5).set2 B_V5 _ _
  clear B_V5 b_V5 C_V6 J4 G4 P4 U4 LG
  unfold two at hV6
  go_upto_region 3 with fail
  clear hV6 hV5 hh z0_V5 z1_V5 f0_V5 f1_V5
  go_cut [7] from 17 to 28 (fun v7 wx => ∃ (i : Nat) (nb : Bool) (na : Option Addr) (nk nc : Nat), v7 = .pointer (some ⟨i, 0, none⟩) ∧ Hid (Fw3 w b1 a1 k1 c1 d1 e1 m1 q1 b2 a2 k2 c2 d2 e2 m2 q2 g h pb pa pk pc ub ua uk uc i nb na nk nc wx) ∧ Hid (Zn wx pb pa pk pc ((Int.gcd y1 y2 : Nat) : Int)) ∧ Hid (Zn wx ub ua uk uc (y1.tdiv ((Int.gcd y1 y2 : Nat) : Int))) ∧ Hid (Zn wx nb na nk nc (z1 * y2.tdiv ((Int.gcd y1 y2 : Nat) : Int) + z2 * y1.tdiv ((Int.gcd y1 y2 : Nat) : Int))))
  case first =>
    refine wp_region_noPanic ?_
    refine wp_region_held_drew (S := SG w.heap.size b1 a1 k1 c1 d1 e1 m1 q1 b2 a2 k2 c2 d2 e2 m2 q2 g h pb pa pk pc ub ua uk uc) (by kernel_rfl) (T6.out.keep (Below.refl _ _).drew).sg (fun hS => ?_)
    have J_0 := Lib.hid (T6.out.keep (Below.refl _ _).drew)
    have P_0 := Lib.hid (P6.out.below (Below.refl _ _).drew)
    have U_0 := Lib.hid (U6.out.below (Below.refl _ _).drew)
    clear T6 P6 U6
    generalize V6.drew = WD at *
    refine wpAnyH_take (i := 0) (v := ?v0z50) rfl (by kernel_rfl) (by kernel_rfl) (by kernel_rfl) (fun _ _ _ h => h) (Or.inl ⟨by rfl, ?hy0z50⟩) (by assumption) ?rest0z50
    case hy0z50 =>
      intro w hSw
      dsimp only [SG] at hSw
      go_simp
      try with_reducible rfl
    simp only [Act.put, List.getElem_toArray, List.getElem_cons_succ, List.getElem_cons_zero, List.setIfInBounds_toArray, List.set_cons_zero, List.set_cons_succ]
    refine wpAnyH_take (i := 1) (v := ?v1z51) rfl (by kernel_rfl) (by kernel_rfl) (by kernel_rfl) (fun _ _ _ h => h) (Or.inl ⟨by rfl, ?hy1z51⟩) (by assumption) ?rest1z51
    case hy1z51 =>
      intro w hSw
      dsimp only [SG] at hSw
      go_simp
      try with_reducible rfl
    simp only [Act.put, List.getElem_toArray, List.getElem_cons_succ, List.getElem_cons_zero, List.setIfInBounds_toArray, List.set_cons_zero, List.set_cons_succ]
    refine wpAnyH_take (i := 2) (v := ?v2z52) rfl (by kernel_rfl) (by kernel_rfl) (by kernel_rfl) (fun _ _ _ h => h) (Or.inl ⟨by rfl, ?hy2z52⟩) (by assumption) ?rest2z52
    case hy2z52 =>
      intro w hSw
      dsimp only [SG] at hSw
      go_simp
      try with_reducible rfl
    simp only [Act.put, List.getElem_toArray, List.getElem_cons_succ, List.getElem_cons_zero, List.setIfInBounds_toArray, List.set_cons_zero, List.set_cons_succ]
    refine wpAnyH_take (i := 3) (v := ?v3z53) rfl (by kernel_rfl) (by kernel_rfl) (by kernel_rfl) (fun _ _ _ h => h) (Or.inl ⟨by rfl, ?hy3z53⟩) (by assumption) ?rest3z53
    case hy3z53 =>
      intro w hSw
      dsimp only [SG] at hSw
      go_simp
      try with_reducible rfl
    simp only [Act.put, List.getElem_toArray, List.getElem_cons_succ, List.getElem_cons_zero, List.setIfInBounds_toArray, List.set_cons_zero, List.set_cons_succ]
    refine wpAnyH_take (i := 4) (v := ?v4z54) rfl (by kernel_rfl) (by kernel_rfl) (by kernel_rfl) (fun _ _ _ h => h) (Or.inl ⟨by rfl, ?hy4z54⟩) (by assumption) ?rest4z54
    case hy4z54 =>
      intro w hSw
      dsimp only [SG] at hSw
      go_simp
      try with_reducible rfl
    simp only [Act.put, List.getElem_toArray, List.getElem_cons_succ, List.getElem_cons_zero, List.setIfInBounds_toArray, List.set_cons_zero, List.set_cons_succ]
    refine wpAnyH_take (i := 7) (v := ?v7z55) rfl (by kernel_rfl) (by kernel_rfl) (by kernel_rfl) (fun _ _ _ h => h) (Or.inl ⟨by rfl, ?hy7z55⟩) (by assumption) ?rest7z55
    case hy7z55 =>
      intro w hSw
      dsimp only [SG] at hSw
      go_simp
      try with_reducible rfl
    simp only [Act.put, List.getElem_toArray, List.getElem_cons_succ, List.getElem_cons_zero, List.setIfInBounds_toArray, List.set_cons_zero, List.set_cons_succ]
    refine wpAnyH_take (i := 8) (v := ?v8z56) rfl (by kernel_rfl) (by kernel_rfl) (by kernel_rfl) (fun _ _ _ h => h) (Or.inl ⟨by rfl, ?hy8z56⟩) (by assumption) ?rest8z56
    case hy8z56 =>
      intro w hSw
      dsimp only [SG] at hSw
      go_simp
      try with_reducible rfl
    simp only [Act.put, List.getElem_toArray, List.getElem_cons_succ, List.getElem_cons_zero, List.setIfInBounds_toArray, List.set_cons_zero, List.set_cons_succ]
    refine wpAnyH_take (i := 9) (v := ?v9z57) rfl (by kernel_rfl) (by kernel_rfl) (by kernel_rfl) (fun _ _ _ h => h) (Or.inl ⟨by rfl, ?hy9z57⟩) (by assumption) ?rest9z57
    case hy9z57 =>
      intro w hSw
      dsimp only [SG] at hSw
      go_simp
      try with_reducible rfl
    simp only [Act.put, List.getElem_toArray, List.getElem_cons_succ, List.getElem_cons_zero, List.setIfInBounds_toArray, List.set_cons_zero, List.set_cons_succ]
    refine wpAnyH_ready (rs := [5, 12]) (by kernel_rfl) (by simp) ?_
    refine AllReadyH.cons rfl (fun K hK => ?_) (AllReadyH.cons rfl (fun K hK => ?_) AllReadyH.nil)
    · go_simp
      (refine (part_c d2 pb e2 pa m2 pk q2 pc y2 ((Int.gcd y1 y2 : Nat) : Int) WD (D2.out _ J_0.out.j) P_0.out GZ.out O24.out).mono ?_)
      rintro e W59 ⟨tb, ta, tk, tc, rfl, hn, bc⟩
      try go_simp
      have J_1 := Lib.hid (J_0.out.keep bc)
      have P_1 := Lib.hid (P_0.out.below bc)
      have U_1 := Lib.hid (U_0.out.below bc)
      clear J_0 P_0 U_0
      have T_1 := Lib.hid hn
      have hT := J_1.out.sg
      refine hK.out _ _ hT (fun _ => ?_)
      clear hK K hS bc hn
      have hS := hT
      clear hT
      try simp only [Act.put, List.setIfInBounds_toArray, List.set_cons_zero, List.set_cons_succ]
      refine wpAnyH_ready (rs := [6, 12]) (by kernel_rfl) (by simp) ?_
      refine AllReadyH.cons rfl (fun K hK => ?_) (AllReadyH.cons rfl (fun K hK => ?_) AllReadyH.nil)
      · go_simp
        (refine (Times_c b1 tb a1 ta k1 tk c1 tc z1 (y2.tdiv ((Int.gcd y1 y2 : Nat) : Int)) W59 (M1.out _ J_1.out.j) T_1.out N1.out (tdiv_lt O2.out)).mono ?_)
        rintro e W60 ⟨xb, xa, xk, xc, rfl, hn, bc⟩
        try go_simp
        have J_2 := Lib.hid (J_1.out.keep bc)
        have P_2 := Lib.hid (P_1.out.below bc)
        have U_2 := Lib.hid (U_1.out.below bc)
        have T_2 := Lib.hid (T_1.out.below bc)
        clear J_1 P_1 U_1 T_1
        have A_2 := Lib.hid hn
        have hT := J_2.out.sg
        refine hK.out _ _ hT (fun _ => ?_)
        clear hK K hS bc hn
        have hS := hT
        clear hT
        try simp only [Act.put, List.setIfInBounds_toArray, List.set_cons_zero, List.set_cons_succ]
        refine wpAnyH_ready (rs := [10, 12]) (by kernel_rfl) (by simp) ?_
        refine AllReadyH.cons rfl (fun K hK => ?_) (AllReadyH.cons rfl (fun K hK => ?_) AllReadyH.nil)
        · go_simp
          (refine (Times_c b2 ub a2 ua k2 uk c2 uc z2 (y1.tdiv ((Int.gcd y1 y2 : Nat) : Int)) W60 (M2.out _ J_2.out.j) U_2.out N2.out (tdiv_lt O1.out)).mono ?_)
          rintro e W61 ⟨yb, ya, yk, yc, rfl, hn, bc⟩
          try go_simp
          have J_3 := Lib.hid (J_2.out.keep bc)
          have P_3 := Lib.hid (P_2.out.below bc)
          have U_3 := Lib.hid (U_2.out.below bc)
          have T_3 := Lib.hid (T_2.out.below bc)
          have A_3 := Lib.hid (A_2.out.below bc)
          clear J_2 P_2 U_2 T_2 A_2
          have B_3 := Lib.hid hn
          have hT := J_3.out.sg
          refine hK.out _ _ hT (fun _ => ?_)
          clear hK K hS bc hn
          have hS := hT
          clear hT
          try simp only [Act.put, List.setIfInBounds_toArray, List.set_cons_zero, List.set_cons_succ]
          refine wpAnyH_ready (rs := [11, 12]) (by kernel_rfl) (by simp) ?_
          refine AllReadyH.cons rfl (fun K hK => ?_) (AllReadyH.cons rfl (fun K hK => ?_) AllReadyH.nil)
          · go_simp
            (refine (Plus_c xb yb xa ya xk yk xc yc (z1 * y2.tdiv ((Int.gcd y1 y2 : Nat) : Int)) (z2 * y1.tdiv ((Int.gcd y1 y2 : Nat) : Int)) W61 A_3.out B_3.out LA.out.1 LA.out.2.1).mono ?_)
            rintro e W62 ⟨nb, na, nk, nc, rfl, hn, bc⟩
            try go_simp
            have J_4 := Lib.hid (J_3.out.keep bc)
            have P_4 := Lib.hid (P_3.out.below bc)
            have U_4 := Lib.hid (U_3.out.below bc)
            have T_4 := Lib.hid (T_3.out.below bc)
            have A_4 := Lib.hid (A_3.out.below bc)
            have B_4 := Lib.hid (B_3.out.below bc)
            clear J_3 P_3 U_3 T_3 A_3 B_3
            have S_4 := Lib.hid hn
            have hT := J_4.out.sg
            refine hK.out _ _ hT (fun _ => ?_)
            clear hK K hS bc hn
            have hS := hT
            clear hT
            try simp only [Act.put, List.setIfInBounds_toArray, List.set_cons_zero, List.set_cons_succ]
            refine wpAnyH_ready (rs := [12]) (by kernel_rfl) (by simp) ?_
            refine AllReadyH.cons rfl (fun K hK => ?_) AllReadyH.nil
            go_simp
            have bc := bel_one W62 (.cells #[.bool false, .slice none 0 0] 37)
            have LI : Hid (w.heap.size + 1 + 1 < W62.heap.size ∧ g < W62.heap.size ∧ h < W62.heap.size) := J_4.out.lo
            have J_5 := Lib.hid (J_4.out.keep bc)
            have P_5 := Lib.hid (P_4.out.below bc)
            have U_5 := Lib.hid (U_4.out.below bc)
            have T_5 := Lib.hid (T_4.out.below bc)
            have A_5 := Lib.hid (A_4.out.below bc)
            have B_5 := Lib.hid (B_4.out.below bc)
            have S_5 := Lib.hid (S_4.out.below bc)
            clear J_4 P_4 U_4 T_4 A_4 B_4 S_4
            have I_5 : Hid (B2 (W62.alloc (.cells #[.bool false, .slice none 0 0] 37)) W62.heap.size (.bool false) (.slice none 0 0)) := B2.made W62 _ _ _
            have hT := J_5.out.sg
            refine hK.out _ _ hT (fun _ => ?_)
            clear hK K hS bc
            try simp only [Act.put, List.setIfInBounds_toArray, List.set_cons_zero, List.set_cons_succ]
            generalize W62.alloc (.cells #[.bool false, .slice none 0 0] 37) = W63 at *
            generalize W62.heap.size = i at *
            have hS := hT
            clear hT
            refine wpAnyH_ready (rs := [13]) (by kernel_rfl) (by simp) ?_
            refine AllReadyH.cons rfl (fun K hK => ?_) AllReadyH.nil
            have q0 := I_5.out.c0
            have q1 := I_5.out.c1
            have g0 := I_5.out.fr 0
            have g1' := I_5.out.fr 1
            go_simp
            clear q0 q1 g0 g1'
            have x_J := J_5.out.two LI.out (.bool nb) (.slice na nk nc)
            have x_I := I_5.out.set (.bool nb) (.slice na nk nc)
            have x_P := P_5.out.set2 I_5.out (.bool nb) (.slice na nk nc)
            have x_U := U_5.out.set2 I_5.out (.bool nb) (.slice na nk nc)
            have x_T := T_5.out.set2 I_5.out (.bool nb) (.slice na nk nc)
            have x_A := A_5.out.set2 I_5.out (.bool nb) (.slice na nk nc)
            have x_B := B_5.out.set2 I_5.out (.bool nb) (.slice na nk nc)
            have x_S := S_5.out.set2 I_5.out (.bool nb) (.slice na nk nc)
            have hT := x_J.sg
            clear J_5 P_5 U_5 T_5 A_5 B_5 S_5 I_5
            unfold two at x_J x_P x_U x_T x_A x_B x_S x_I hT
            refine hK.out _ _ hT (fun _ => ?_)
            clear hK K hS
            try simp only [Act.put, List.setIfInBounds_toArray, List.set_cons_zero, List.set_cons_succ]
            generalize (W63.setCell ⟨i, 0, none⟩ (.bool nb)).setCell ⟨i, 1, none⟩ (.slice na nk nc) = W64 at *
            have J_6 := Lib.hid x_J
            have P_6 := Lib.hid x_P
            have U_6 := Lib.hid x_U
            have T_6 := Lib.hid x_T
            have A_6 := Lib.hid x_A
            have B_6 := Lib.hid x_B
            have S_6 := Lib.hid x_S
            have I_6 := Lib.hid x_I
            clear x_J x_P x_U x_T x_A x_B x_S x_I
            have hS := hT
            clear hT
            refine wpAnyH_done (by kernel_rfl) ?_ _
            refine NoPanic.normal ?_
            have TT : Hid (Fw3 w b1 a1 k1 c1 d1 e1 m1 q1 b2 a2 k2 c2 d2 e2 m2 q2 g h pb pa pk pc ub ua uk uc i nb na nk nc W64) := ⟨J_6.out, I_6.out, LI.out, GH.out⟩
            go_wp2_with fail
            go_meet
            case rel => exact ⟨i, nb, na, nk, nc, rfl, TT.out, P_6.out, U_6.out, S_6.out⟩
          · go_simp
            have bc := bel_one W61 (.cells #[.bool false, .slice none 0 0] 37)
            have LI : Hid (w.heap.size + 1 + 1 < W61.heap.size ∧ g < W61.heap.size ∧ h < W61.heap.size) := J_3.out.lo
            have J_4 := Lib.hid (J_3.out.keep bc)
            have P_4 := Lib.hid (P_3.out.below bc)
            have U_4 := Lib.hid (U_3.out.below bc)
            have T_4 := Lib.hid (T_3.out.below bc)
            have A_4 := Lib.hid (A_3.out.below bc)
            have B_4 := Lib.hid (B_3.out.below bc)
            clear J_3 P_3 U_3 T_3 A_3 B_3
            have I_4 : Hid (B2 (W61.alloc (.cells #[.bool false, .slice none 0 0] 37)) W61.heap.size (.bool false) (.slice none 0 0)) := B2.made W61 _ _ _
            have hT := J_4.out.sg
            refine hK.out _ _ hT (fun _ => ?_)
            clear hK K hS bc
            try simp only [Act.put, List.setIfInBounds_toArray, List.set_cons_zero, List.set_cons_succ]
            generalize W61.alloc (.cells #[.bool false, .slice none 0 0] 37) = W65 at *
            generalize W61.heap.size = i at *
            have hS := hT
            clear hT
            refine wpAnyH_ready (rs := [11]) (by kernel_rfl) (by simp) ?_
            refine AllReadyH.cons rfl (fun K hK => ?_) AllReadyH.nil
            go_simp
            (refine (Plus_c xb yb xa ya xk yk xc yc (z1 * y2.tdiv ((Int.gcd y1 y2 : Nat) : Int)) (z2 * y1.tdiv ((Int.gcd y1 y2 : Nat) : Int)) W65 A_4.out B_4.out LA.out.1 LA.out.2.1).mono ?_)
            rintro e W66 ⟨nb, na, nk, nc, rfl, hn, bc⟩
            try go_simp
            have J_5 := Lib.hid (J_4.out.keep bc)
            have P_5 := Lib.hid (P_4.out.below bc)
            have U_5 := Lib.hid (U_4.out.below bc)
            have T_5 := Lib.hid (T_4.out.below bc)
            have A_5 := Lib.hid (A_4.out.below bc)
            have B_5 := Lib.hid (B_4.out.below bc)
            have I_5 := Lib.hid (I_4.out.keep bc)
            clear J_4 P_4 U_4 T_4 A_4 B_4 I_4
            have S_5 := Lib.hid hn
            have hT := J_5.out.sg
            refine hK.out _ _ hT (fun _ => ?_)
            clear hK K hS bc hn
            have hS := hT
            clear hT
            try simp only [Act.put, List.setIfInBounds_toArray, List.set_cons_zero, List.set_cons_succ]
            refine wpAnyH_ready (rs := [13]) (by kernel_rfl) (by simp) ?_
            refine AllReadyH.cons rfl (fun K hK => ?_) AllReadyH.nil
            have q0 := I_5.out.c0
            have q1 := I_5.out.c1
            have g0 := I_5.out.fr 0
            have g1' := I_5.out.fr 1
            go_simp
            clear q0 q1 g0 g1'
            have x_J := J_5.out.two LI.out (.bool nb) (.slice na nk nc)
            have x_I := I_5.out.set (.bool nb) (.slice na nk nc)
            have x_P := P_5.out.set2 I_5.out (.bool nb) (.slice na nk nc)
            have x_U := U_5.out.set2 I_5.out (.bool nb) (.slice na nk nc)
            have x_T := T_5.out.set2 I_5.out (.bool nb) (.slice na nk nc)
            have x_A := A_5.out.set2 I_5.out (.bool nb) (.slice na nk nc)
            have x_B := B_5.out.set2 I_5.out (.bool nb) (.slice na nk nc)
            have x_S := S_5.out.set2 I_5.out (.bool nb) (.slice na nk nc)
            have hT := x_J.sg
            clear J_5 P_5 U_5 T_5 A_5 B_5 I_5 S_5
            unfold two at x_J x_P x_U x_T x_A x_B x_I x_S hT
            refine hK.out _ _ hT (fun _ => ?_)
            clear hK K hS
            try simp only [Act.put, List.setIfInBounds_toArray, List.set_cons_zero, List.set_cons_succ]
            generalize (W66.setCell ⟨i, 0, none⟩ (.bool nb)).setCell ⟨i, 1, none⟩ (.slice na nk nc) = W67 at *
            have J_6 := Lib.hid x_J
            have P_6 := Lib.hid x_P
            have U_6 := Lib.hid x_U
            have T_6 := Lib.hid x_T
            have A_6 := Lib.hid x_A
            have B_6 := Lib.hid x_B
            have I_6 := Lib.hid x_I
            have S_6 := Lib.hid x_S
            clear x_J x_P x_U x_T x_A x_B x_I x_S
            have hS := hT
            clear hT
            refine wpAnyH_done (by kernel_rfl) ?_ _
            refine NoPanic.normal ?_
            have TT : Hid (Fw3 w b1 a1 k1 c1 d1 e1 m1 q1 b2 a2 k2 c2 d2 e2 m2 q2 g h pb pa pk pc ub ua uk uc i nb na nk nc W67) := ⟨J_6.out, I_6.out, LI.out, GH.out⟩
            go_wp2_with fail
            go_meet
            case rel => exact ⟨i, nb, na, nk, nc, rfl, TT.out, P_6.out, U_6.out, S_6.out⟩
        · go_simp
          have bc := bel_one W60 (.cells #[.bool false, .slice none 0 0] 37)
          have LI : Hid (w.heap.size + 1 + 1 < W60.heap.size ∧ g < W60.heap.size ∧ h < W60.heap.size) := J_2.out.lo
          have J_3 := Lib.hid (J_2.out.keep bc)
          have P_3 := Lib.hid (P_2.out.below bc)
          have U_3 := Lib.hid (U_2.out.below bc)
          have T_3 := Lib.hid (T_2.out.below bc)
          have A_3 := Lib.hid (A_2.out.below bc)
          clear J_2 P_2 U_2 T_2 A_2
          have I_3 : Hid (B2 (W60.alloc (.cells #[.bool false, .slice none 0 0] 37)) W60.heap.size (.bool false) (.slice none 0 0)) := B2.made W60 _ _ _
          have hT := J_3.out.sg
          refine hK.out _ _ hT (fun _ => ?_)
          clear hK K hS bc
          try simp only [Act.put, List.setIfInBounds_toArray, List.set_cons_zero, List.set_cons_succ]
          generalize W60.alloc (.cells #[.bool false, .slice none 0 0] 37) = W68 at *
          generalize W60.heap.size = i at *
          have hS := hT
          clear hT
          refine wpAnyH_ready (rs := [10]) (by kernel_rfl) (by simp) ?_
          refine AllReadyH.cons rfl (fun K hK => ?_) AllReadyH.nil
          go_simp
          (refine (Times_c b2 ub a2 ua k2 uk c2 uc z2 (y1.tdiv ((Int.gcd y1 y2 : Nat) : Int)) W68 (M2.out _ J_3.out.j) U_3.out N2.out (tdiv_lt O1.out)).mono ?_)
          rintro e W69 ⟨yb, ya, yk, yc, rfl, hn, bc⟩
          try go_simp
          have J_4 := Lib.hid (J_3.out.keep bc)
          have P_4 := Lib.hid (P_3.out.below bc)
          have U_4 := Lib.hid (U_3.out.below bc)
          have T_4 := Lib.hid (T_3.out.below bc)
          have A_4 := Lib.hid (A_3.out.below bc)
          have I_4 := Lib.hid (I_3.out.keep bc)
          clear J_3 P_3 U_3 T_3 A_3 I_3
          have B_4 := Lib.hid hn
          have hT := J_4.out.sg
          refine hK.out _ _ hT (fun _ => ?_)
          clear hK K hS bc hn
          have hS := hT
          clear hT
          try simp only [Act.put, List.setIfInBounds_toArray, List.set_cons_zero, List.set_cons_succ]
          refine wpAnyH_ready (rs := [11]) (by kernel_rfl) (by simp) ?_
          refine AllReadyH.cons rfl (fun K hK => ?_) AllReadyH.nil
          go_simp
          (refine (Plus_c xb yb xa ya xk yk xc yc (z1 * y2.tdiv ((Int.gcd y1 y2 : Nat) : Int)) (z2 * y1.tdiv ((Int.gcd y1 y2 : Nat) : Int)) W69 A_4.out B_4.out LA.out.1 LA.out.2.1).mono ?_)
          rintro e W70 ⟨nb, na, nk, nc, rfl, hn, bc⟩
          try go_simp
          have J_5 := Lib.hid (J_4.out.keep bc)
          have P_5 := Lib.hid (P_4.out.below bc)
          have U_5 := Lib.hid (U_4.out.below bc)
          have T_5 := Lib.hid (T_4.out.below bc)
          have A_5 := Lib.hid (A_4.out.below bc)
          have I_5 := Lib.hid (I_4.out.keep bc)
          have B_5 := Lib.hid (B_4.out.below bc)
          clear J_4 P_4 U_4 T_4 A_4 I_4 B_4
          have S_5 := Lib.hid hn
          have hT := J_5.out.sg
          refine hK.out _ _ hT (fun _ => ?_)
          clear hK K hS bc hn
          have hS := hT
          clear hT
          try simp only [Act.put, List.setIfInBounds_toArray, List.set_cons_zero, List.set_cons_succ]
          refine wpAnyH_ready (rs := [13]) (by kernel_rfl) (by simp) ?_
          refine AllReadyH.cons rfl (fun K hK => ?_) AllReadyH.nil
          have q0 := I_5.out.c0
          have q1 := I_5.out.c1
          have g0 := I_5.out.fr 0
          have g1' := I_5.out.fr 1
          go_simp
          clear q0 q1 g0 g1'
          have x_J := J_5.out.two LI.out (.bool nb) (.slice na nk nc)
          have x_I := I_5.out.set (.bool nb) (.slice na nk nc)
          have x_P := P_5.out.set2 I_5.out (.bool nb) (.slice na nk nc)
          have x_U := U_5.out.set2 I_5.out (.bool nb) (.slice na nk nc)
          have x_T := T_5.out.set2 I_5.out (.bool nb) (.slice na nk nc)
          have x_A := A_5.out.set2 I_5.out (.bool nb) (.slice na nk nc)
          have x_B := B_5.out.set2 I_5.out (.bool nb) (.slice na nk nc)
          have x_S := S_5.out.set2 I_5.out (.bool nb) (.slice na nk nc)
          have hT := x_J.sg
          clear J_5 P_5 U_5 T_5 A_5 I_5 B_5 S_5
          unfold two at x_J x_P x_U x_T x_A x_I x_B x_S hT
          refine hK.out _ _ hT (fun _ => ?_)
          clear hK K hS
          try simp only [Act.put, List.setIfInBounds_toArray, List.set_cons_zero, List.set_cons_succ]
          generalize (W70.setCell ⟨i, 0, none⟩ (.bool nb)).setCell ⟨i, 1, none⟩ (.slice na nk nc) = W71 at *
          have J_6 := Lib.hid x_J
          have P_6 := Lib.hid x_P
          have U_6 := Lib.hid x_U
          have T_6 := Lib.hid x_T
          have A_6 := Lib.hid x_A
          have I_6 := Lib.hid x_I
          have B_6 := Lib.hid x_B
          have S_6 := Lib.hid x_S
          clear x_J x_P x_U x_T x_A x_I x_B x_S
          have hS := hT
          clear hT
          refine wpAnyH_done (by kernel_rfl) ?_ _
          refine NoPanic.normal ?_
          have TT : Hid (Fw3 w b1 a1 k1 c1 d1 e1 m1 q1 b2 a2 k2 c2 d2 e2 m2 q2 g h pb pa pk pc ub ua uk uc i nb na nk nc W71) := ⟨J_6.out, I_6.out, LI.out, GH.out⟩
          go_wp2_with fail
          go_meet
          case rel => exact ⟨i, nb, na, nk, nc, rfl, TT.out, P_6.out, U_6.out, S_6.out⟩
      · go_simp
        have bc := bel_one W59 (.cells #[.bool false, .slice none 0 0] 37)
        have LI : Hid (w.heap.size + 1 + 1 < W59.heap.size ∧ g < W59.heap.size ∧ h < W59.heap.size) := J_1.out.lo
        have J_2 := Lib.hid (J_1.out.keep bc)
        have P_2 := Lib.hid (P_1.out.below bc)
        have U_2 := Lib.hid (U_1.out.below bc)
        have T_2 := Lib.hid (T_1.out.below bc)
        clear J_1 P_1 U_1 T_1
        have I_2 : Hid (B2 (W59.alloc (.cells #[.bool false, .slice none 0 0] 37)) W59.heap.size (.bool false) (.slice none 0 0)) := B2.made W59 _ _ _
        have hT := J_2.out.sg
        refine hK.out _ _ hT (fun _ => ?_)
        clear hK K hS bc
        try simp only [Act.put, List.setIfInBounds_toArray, List.set_cons_zero, List.set_cons_succ]
        generalize W59.alloc (.cells #[.bool false, .slice none 0 0] 37) = W72 at *
        generalize W59.heap.size = i at *
        have hS := hT
        clear hT
        refine wpAnyH_ready (rs := [6]) (by kernel_rfl) (by simp) ?_
        refine AllReadyH.cons rfl (fun K hK => ?_) AllReadyH.nil
        go_simp
        (refine (Times_c b1 tb a1 ta k1 tk c1 tc z1 (y2.tdiv ((Int.gcd y1 y2 : Nat) : Int)) W72 (M1.out _ J_2.out.j) T_2.out N1.out (tdiv_lt O2.out)).mono ?_)
        rintro e W73 ⟨xb, xa, xk, xc, rfl, hn, bc⟩
        try go_simp
        have J_3 := Lib.hid (J_2.out.keep bc)
        have P_3 := Lib.hid (P_2.out.below bc)
        have U_3 := Lib.hid (U_2.out.below bc)
        have T_3 := Lib.hid (T_2.out.below bc)
        have I_3 := Lib.hid (I_2.out.keep bc)
        clear J_2 P_2 U_2 T_2 I_2
        have A_3 := Lib.hid hn
        have hT := J_3.out.sg
        refine hK.out _ _ hT (fun _ => ?_)
        clear hK K hS bc hn
        have hS := hT
        clear hT
        try simp only [Act.put, List.setIfInBounds_toArray, List.set_cons_zero, List.set_cons_succ]
        refine wpAnyH_ready (rs := [10]) (by kernel_rfl) (by simp) ?_
        refine AllReadyH.cons rfl (fun K hK => ?_) AllReadyH.nil
        go_simp
        (refine (Times_c b2 ub a2 ua k2 uk c2 uc z2 (y1.tdiv ((Int.gcd y1 y2 : Nat) : Int)) W73 (M2.out _ J_3.out.j) U_3.out N2.out (tdiv_lt O1.out)).mono ?_)
        rintro e W74 ⟨yb, ya, yk, yc, rfl, hn, bc⟩
        try go_simp
        have J_4 := Lib.hid (J_3.out.keep bc)
        have P_4 := Lib.hid (P_3.out.below bc)
        have U_4 := Lib.hid (U_3.out.below bc)
        have T_4 := Lib.hid (T_3.out.below bc)
        have I_4 := Lib.hid (I_3.out.keep bc)
        have A_4 := Lib.hid (A_3.out.below bc)
        clear J_3 P_3 U_3 T_3 I_3 A_3
        have B_4 := Lib.hid hn
        have hT := J_4.out.sg
        refine hK.out _ _ hT (fun _ => ?_)
        clear hK K hS bc hn
        have hS := hT
        clear hT
        try simp only [Act.put, List.setIfInBounds_toArray, List.set_cons_zero, List.set_cons_succ]
        refine wpAnyH_ready (rs := [11]) (by kernel_rfl) (by simp) ?_
        refine AllReadyH.cons rfl (fun K hK => ?_) AllReadyH.nil
        go_simp
        (refine (Plus_c xb yb xa ya xk yk xc yc (z1 * y2.tdiv ((Int.gcd y1 y2 : Nat) : Int)) (z2 * y1.tdiv ((Int.gcd y1 y2 : Nat) : Int)) W74 A_4.out B_4.out LA.out.1 LA.out.2.1).mono ?_)
        rintro e W75 ⟨nb, na, nk, nc, rfl, hn, bc⟩
        try go_simp
        have J_5 := Lib.hid (J_4.out.keep bc)
        have P_5 := Lib.hid (P_4.out.below bc)
        have U_5 := Lib.hid (U_4.out.below bc)
        have T_5 := Lib.hid (T_4.out.below bc)
        have I_5 := Lib.hid (I_4.out.keep bc)
        have A_5 := Lib.hid (A_4.out.below bc)
        have B_5 := Lib.hid (B_4.out.below bc)
        clear J_4 P_4 U_4 T_4 I_4 A_4 B_4
        have S_5 := Lib.hid hn
        have hT := J_5.out.sg
        refine hK.out _ _ hT (fun _ => ?_)
        clear hK K hS bc hn
        have hS := hT
        clear hT
        try simp only [Act.put, List.setIfInBounds_toArray, List.set_cons_zero, List.set_cons_succ]
        refine wpAnyH_ready (rs := [13]) (by kernel_rfl) (by simp) ?_
        refine AllReadyH.cons rfl (fun K hK => ?_) AllReadyH.nil
        have q0 := I_5.out.c0
        have q1 := I_5.out.c1
        have g0 := I_5.out.fr 0
        have g1' := I_5.out.fr 1
        go_simp
        clear q0 q1 g0 g1'
        have x_J := J_5.out.two LI.out (.bool nb) (.slice na nk nc)
        have x_I := I_5.out.set (.bool nb) (.slice na nk nc)
        have x_P := P_5.out.set2 I_5.out (.bool nb) (.slice na nk nc)
        have x_U := U_5.out.set2 I_5.out (.bool nb) (.slice na nk nc)
        have x_T := T_5.out.set2 I_5.out (.bool nb) (.slice na nk nc)
        have x_A := A_5.out.set2 I_5.out (.bool nb) (.slice na nk nc)
        have x_B := B_5.out.set2 I_5.out (.bool nb) (.slice na nk nc)
        have x_S := S_5.out.set2 I_5.out (.bool nb) (.slice na nk nc)
        have hT := x_J.sg
        clear J_5 P_5 U_5 T_5 I_5 A_5 B_5 S_5
        unfold two at x_J x_P x_U x_T x_I x_A x_B x_S hT
        refine hK.out _ _ hT (fun _ => ?_)
        clear hK K hS
        try simp only [Act.put, List.setIfInBounds_toArray, List.set_cons_zero, List.set_cons_succ]
        generalize (W75.setCell ⟨i, 0, none⟩ (.bool nb)).setCell ⟨i, 1, none⟩ (.slice na nk nc) = W76 at *
        have J_6 := Lib.hid x_J
        have P_6 := Lib.hid x_P
        have U_6 := Lib.hid x_U
        have T_6 := Lib.hid x_T
        have I_6 := Lib.hid x_I
        have A_6 := Lib.hid x_A
        have B_6 := Lib.hid x_B
        have S_6 := Lib.hid x_S
        clear x_J x_P x_U x_T x_I x_A x_B x_S
        have hS := hT
        clear hT
        refine wpAnyH_done (by kernel_rfl) ?_ _
        refine NoPanic.normal ?_
        have TT : Hid (Fw3 w b1 a1 k1 c1 d1 e1 m1 q1 b2 a2 k2 c2 d2 e2 m2 q2 g h pb pa pk pc ub ua uk uc i nb na nk nc W76) := ⟨J_6.out, I_6.out, LI.out, GH.out⟩
        go_wp2_with fail
        go_meet
        case rel => exact ⟨i, nb, na, nk, nc, rfl, TT.out, P_6.out, U_6.out, S_6.out⟩
    · go_simp
      have bc := bel_one WD (.cells #[.bool false, .slice none 0 0] 37)
      have LI : Hid (w.heap.size + 1 + 1 < WD.heap.size ∧ g < WD.heap.size ∧ h < WD.heap.size) := J_0.out.lo
      have J_1 := Lib.hid (J_0.out.keep bc)
      have P_1 := Lib.hid (P_0.out.below bc)
      have U_1 := Lib.hid (U_0.out.below bc)
      clear J_0 P_0 U_0
      have I_1 : Hid (B2 (WD.alloc (.cells #[.bool false, .slice none 0 0] 37)) WD.heap.size (.bool false) (.slice none 0 0)) := B2.made WD _ _ _
      have hT := J_1.out.sg
      refine hK.out _ _ hT (fun _ => ?_)
      clear hK K hS bc
      try simp only [Act.put, List.setIfInBounds_toArray, List.set_cons_zero, List.set_cons_succ]
      generalize WD.alloc (.cells #[.bool false, .slice none 0 0] 37) = W77 at *
      generalize WD.heap.size = i at *
      have hS := hT
      clear hT
      refine wpAnyH_ready (rs := [5]) (by kernel_rfl) (by simp) ?_
      refine AllReadyH.cons rfl (fun K hK => ?_) AllReadyH.nil
      go_simp
      (refine (part_c d2 pb e2 pa m2 pk q2 pc y2 ((Int.gcd y1 y2 : Nat) : Int) W77 (D2.out _ J_1.out.j) P_1.out GZ.out O24.out).mono ?_)
      rintro e W78 ⟨tb, ta, tk, tc, rfl, hn, bc⟩
      try go_simp
      have J_2 := Lib.hid (J_1.out.keep bc)
      have P_2 := Lib.hid (P_1.out.below bc)
      have U_2 := Lib.hid (U_1.out.below bc)
      have I_2 := Lib.hid (I_1.out.keep bc)
      clear J_1 P_1 U_1 I_1
      have T_2 := Lib.hid hn
      have hT := J_2.out.sg
      refine hK.out _ _ hT (fun _ => ?_)
      clear hK K hS bc hn
      have hS := hT
      clear hT
      try simp only [Act.put, List.setIfInBounds_toArray, List.set_cons_zero, List.set_cons_succ]
      refine wpAnyH_ready (rs := [6]) (by kernel_rfl) (by simp) ?_
      refine AllReadyH.cons rfl (fun K hK => ?_) AllReadyH.nil
      go_simp
      (refine (Times_c b1 tb a1 ta k1 tk c1 tc z1 (y2.tdiv ((Int.gcd y1 y2 : Nat) : Int)) W78 (M1.out _ J_2.out.j) T_2.out N1.out (tdiv_lt O2.out)).mono ?_)
      rintro e W79 ⟨xb, xa, xk, xc, rfl, hn, bc⟩
      try go_simp
      have J_3 := Lib.hid (J_2.out.keep bc)
      have P_3 := Lib.hid (P_2.out.below bc)
      have U_3 := Lib.hid (U_2.out.below bc)
      have I_3 := Lib.hid (I_2.out.keep bc)
      have T_3 := Lib.hid (T_2.out.below bc)
      clear J_2 P_2 U_2 I_2 T_2
      have A_3 := Lib.hid hn
      have hT := J_3.out.sg
      refine hK.out _ _ hT (fun _ => ?_)
      clear hK K hS bc hn
      have hS := hT
      clear hT
      try simp only [Act.put, List.setIfInBounds_toArray, List.set_cons_zero, List.set_cons_succ]
      refine wpAnyH_ready (rs := [10]) (by kernel_rfl) (by simp) ?_
      refine AllReadyH.cons rfl (fun K hK => ?_) AllReadyH.nil
      go_simp
      (refine (Times_c b2 ub a2 ua k2 uk c2 uc z2 (y1.tdiv ((Int.gcd y1 y2 : Nat) : Int)) W79 (M2.out _ J_3.out.j) U_3.out N2.out (tdiv_lt O1.out)).mono ?_)
      rintro e W80 ⟨yb, ya, yk, yc, rfl, hn, bc⟩
      try go_simp
      have J_4 := Lib.hid (J_3.out.keep bc)
      have P_4 := Lib.hid (P_3.out.below bc)
      have U_4 := Lib.hid (U_3.out.below bc)
      have I_4 := Lib.hid (I_3.out.keep bc)
      have T_4 := Lib.hid (T_3.out.below bc)
      have A_4 := Lib.hid (A_3.out.below bc)
      clear J_3 P_3 U_3 I_3 T_3 A_3
      have B_4 := Lib.hid hn
      have hT := J_4.out.sg
      refine hK.out _ _ hT (fun _ => ?_)
      clear hK K hS bc hn
      have hS := hT
      clear hT
      try simp only [Act.put, List.setIfInBounds_toArray, List.set_cons_zero, List.set_cons_succ]
      refine wpAnyH_ready (rs := [11]) (by kernel_rfl) (by simp) ?_
      refine AllReadyH.cons rfl (fun K hK => ?_) AllReadyH.nil
      go_simp
      (refine (Plus_c xb yb xa ya xk yk xc yc (z1 * y2.tdiv ((Int.gcd y1 y2 : Nat) : Int)) (z2 * y1.tdiv ((Int.gcd y1 y2 : Nat) : Int)) W80 A_4.out B_4.out LA.out.1 LA.out.2.1).mono ?_)
      rintro e W81 ⟨nb, na, nk, nc, rfl, hn, bc⟩
      try go_simp
      have J_5 := Lib.hid (J_4.out.keep bc)
      have P_5 := Lib.hid (P_4.out.below bc)
      have U_5 := Lib.hid (U_4.out.below bc)
      have I_5 := Lib.hid (I_4.out.keep bc)
      have T_5 := Lib.hid (T_4.out.below bc)
      have A_5 := Lib.hid (A_4.out.below bc)
      have B_5 := Lib.hid (B_4.out.below bc)
      clear J_4 P_4 U_4 I_4 T_4 A_4 B_4
      have S_5 := Lib.hid hn
      have hT := J_5.out.sg
      refine hK.out _ _ hT (fun _ => ?_)
      clear hK K hS bc hn
      have hS := hT
      clear hT
      try simp only [Act.put, List.setIfInBounds_toArray, List.set_cons_zero, List.set_cons_succ]
      refine wpAnyH_ready (rs := [13]) (by kernel_rfl) (by simp) ?_
      refine AllReadyH.cons rfl (fun K hK => ?_) AllReadyH.nil
      have q0 := I_5.out.c0
      have q1 := I_5.out.c1
      have g0 := I_5.out.fr 0
      have g1' := I_5.out.fr 1
      go_simp
      clear q0 q1 g0 g1'
      have x_J := J_5.out.two LI.out (.bool nb) (.slice na nk nc)
      have x_I := I_5.out.set (.bool nb) (.slice na nk nc)
      have x_P := P_5.out.set2 I_5.out (.bool nb) (.slice na nk nc)
      have x_U := U_5.out.set2 I_5.out (.bool nb) (.slice na nk nc)
      have x_T := T_5.out.set2 I_5.out (.bool nb) (.slice na nk nc)
      have x_A := A_5.out.set2 I_5.out (.bool nb) (.slice na nk nc)
      have x_B := B_5.out.set2 I_5.out (.bool nb) (.slice na nk nc)
      have x_S := S_5.out.set2 I_5.out (.bool nb) (.slice na nk nc)
      have hT := x_J.sg
      clear J_5 P_5 U_5 I_5 T_5 A_5 B_5 S_5
      unfold two at x_J x_P x_U x_I x_T x_A x_B x_S hT
      refine hK.out _ _ hT (fun _ => ?_)
      clear hK K hS
      try simp only [Act.put, List.setIfInBounds_toArray, List.set_cons_zero, List.set_cons_succ]
      generalize (W81.setCell ⟨i, 0, none⟩ (.bool nb)).setCell ⟨i, 1, none⟩ (.slice na nk nc) = W82 at *
      have J_6 := Lib.hid x_J
      have P_6 := Lib.hid x_P
      have U_6 := Lib.hid x_U
      have I_6 := Lib.hid x_I
      have T_6 := Lib.hid x_T
      have A_6 := Lib.hid x_A
      have B_6 := Lib.hid x_B
      have S_6 := Lib.hid x_S
      clear x_J x_P x_U x_I x_T x_A x_B x_S
      have hS := hT
      clear hT
      refine wpAnyH_done (by kernel_rfl) ?_ _
      refine NoPanic.normal ?_
      have TT : Hid (Fw3 w b1 a1 k1 c1 d1 e1 m1 q1 b2 a2 k2 c2 d2 e2 m2 q2 g h pb pa pk pc ub ua uk uc i nb na nk nc W82) := ⟨J_6.out, I_6.out, LI.out, GH.out⟩
      go_wp2_with fail
      go_meet
      case rel => exact ⟨i, nb, na, nk, nc, rfl, TT.out, P_6.out, U_6.out, S_6.out⟩
  case rest =>
    obtain ⟨i, nb, na, nk, nc, rfl, hF, hP, hU, hN⟩ := hcut
    clear T6 P6 U6
    have HC := Lib.hid (Common_c nb pb na pa nk pk nc pc (z1 * y2.tdiv ((Int.gcd y1 y2 : Nat) : Int) + z2 * y1.tdiv ((Int.gcd y1 y2 : Nat) : Int)) ((Int.gcd y1 y2 : Nat) : Int) _ hN.out hP.out LA.out.2.2 LD.out)
    have i0 := hF.out.bi.c0
    have i1 := hF.out.bi.c1
    have j0 := hF.out.t.bg.c0
    have j1 := hF.out.t.bg.c1
    go_wp2_with fail
    clear i0 i1 j0 j1
    (with_reducible refine HC.out.mono ?_)
    rintro e V8 ⟨eb, ea, ek, ec, rfl, hp, bc⟩
    have F8 := Lib.hid (hF.out.keep bc)
    have U8 := Lib.hid (hU.out.below bc)
    have N8 := Lib.hid (hN.out.below bc)
    have E8 := Lib.hid hp
    clear bc hp HC hF hU hN hP
    obtain ⟨V9, hV9⟩ : ∃ W, two V8 g (.bool eb) (.slice ea ek ec) = W := ⟨_, rfl⟩
    have F9 : Hid (Fw3 w b1 a1 k1 c1 d1 e1 m1 q1 b2 a2 k2 c2 d2 e2 m2 q2 g h eb ea ek ec ub ua uk uc i nb na nk nc V9) := by rw [← hV9]; exact F8.out.setG _ _ _ _
    have U9 : Hid (Zn V9 ub ua uk uc (y1.tdiv ((Int.gcd y1 y2 : Nat) : Int))) := by rw [← hV9]; exact U8.out.set2 F8.out.t.bg _ _
    have N9 : Hid (Zn V9 nb na nk nc (z1 * y2.tdiv ((Int.gcd y1 y2 : Nat) : Int) + z2 * y1.tdiv ((Int.gcd y1 y2 : Nat) : Int))) := by rw [← hV9]; exact N8.out.set2 F8.out.t.bg _ _
    have E9 : Hid (Zn V9 eb ea ek ec ((Int.gcd (z1 * y2.tdiv ((Int.gcd y1 y2 : Nat) : Int) + z2 * y1.tdiv ((Int.gcd y1 y2 : Nat) : Int)) ((Int.gcd y1 y2 : Nat) : Int) : Nat) : Int)) := by rw [← hV9]; exact E8.out.set2 F8.out.t.bg _ _
    have j0 := F8.out.t.bg.c0
    have j1 := F8.out.t.bg.c1
    have jf0 := F8.out.t.bg.fr 0
    have jf1 := F8.out.t.bg.fr 1
    clear F8 U8 N8 E8
    unfold two at hV9
    go_wp2_with fail
    clear hV9 j0 j1 jf0 jf1
    refine wp_region_noPanic ?_
    refine wp_region_held_drew (S := SH w.heap.size b1 a1 k1 c1 d1 e1 m1 q1 b2 a2 k2 c2 d2 e2 m2 q2 g h eb ea ek ec ub ua uk uc i nb na nk nc) (by kernel_rfl) (F9.out.keep (Below.refl _ _).drew).sh (fun hS => ?_)
    have T1 := Lib.hid (F9.out.keep (Below.refl _ _).drew)
    have U1_ := Lib.hid (U9.out.below (Below.refl _ _).drew)
    have N1_ := Lib.hid (N9.out.below (Below.refl _ _).drew)
    have E1_ := Lib.hid (E9.out.below (Below.refl _ _).drew)
    clear F9 U9 N9 E9
    refine wpAnyH_take (i := 0) (v := ?v0z58) rfl (by kernel_rfl) (by kernel_rfl) (by kernel_rfl) (fun _ _ _ h => h) (Or.inl ⟨by rfl, ?hy0z58⟩) (by assumption) ?rest0z58
    case hy0z58 =>
      intro w hSw
      dsimp only [SH] at hSw
      go_simp
      try with_reducible rfl
    simp only [Act.put, List.getElem_toArray, List.getElem_cons_succ, List.getElem_cons_zero, List.setIfInBounds_toArray, List.set_cons_zero, List.set_cons_succ]
    refine wpAnyH_take (i := 1) (v := ?v1z59) rfl (by kernel_rfl) (by kernel_rfl) (by kernel_rfl) (fun _ _ _ h => h) (Or.inl ⟨by rfl, ?hy1z59⟩) (by assumption) ?rest1z59
    case hy1z59 =>
      intro w hSw
      dsimp only [SH] at hSw
      go_simp
      try with_reducible rfl
    simp only [Act.put, List.getElem_toArray, List.getElem_cons_succ, List.getElem_cons_zero, List.setIfInBounds_toArray, List.set_cons_zero, List.set_cons_succ]
    refine wpAnyH_take (i := 3) (v := ?v3z60) rfl (by kernel_rfl) (by kernel_rfl) (by kernel_rfl) (fun _ _ _ h => h) (Or.inl ⟨by rfl, ?hy3z60⟩) (by assumption) ?rest3z60
    case hy3z60 =>
      intro w hSw
      dsimp only [SH] at hSw
      go_simp
      try with_reducible rfl
    simp only [Act.put, List.getElem_toArray, List.getElem_cons_succ, List.getElem_cons_zero, List.setIfInBounds_toArray, List.set_cons_zero, List.set_cons_succ]
    refine wpAnyH_take (i := 4) (v := ?v4z61) rfl (by kernel_rfl) (by kernel_rfl) (by kernel_rfl) (fun _ _ _ h => h) (Or.inl ⟨by rfl, ?hy4z61⟩) (by assumption) ?rest4z61
    case hy4z61 =>
      intro w hSw
      dsimp only [SH] at hSw
      go_simp
      try with_reducible rfl
    simp only [Act.put, List.getElem_toArray, List.getElem_cons_succ, List.getElem_cons_zero, List.setIfInBounds_toArray, List.set_cons_zero, List.set_cons_succ]
    refine wpAnyH_take (i := 5) (v := ?v5z62) rfl (by kernel_rfl) (by kernel_rfl) (by kernel_rfl) (fun _ _ _ h => h) (Or.inl ⟨by rfl, ?hy5z62⟩) (by assumption) ?rest5z62
    case hy5z62 =>
      intro w hSw
      dsimp only [SH] at hSw
      go_simp
      try with_reducible rfl
    simp only [Act.put, List.getElem_toArray, List.getElem_cons_succ, List.getElem_cons_zero, List.setIfInBounds_toArray, List.set_cons_zero, List.set_cons_succ]
    refine wpAnyH_take (i := 6) (v := ?v6z63) rfl (by kernel_rfl) (by kernel_rfl) (by kernel_rfl) (fun _ _ _ h => h) (Or.inl ⟨by rfl, ?hy6z63⟩) (by assumption) ?rest6z63
    case hy6z63 =>
      intro w hSw
      dsimp only [SH] at hSw
      go_simp
      try with_reducible rfl
    simp only [Act.put, List.getElem_toArray, List.getElem_cons_succ, List.getElem_cons_zero, List.setIfInBounds_toArray, List.set_cons_zero, List.set_cons_succ]
    refine wpAnyH_ready (rs := [2]) (by kernel_rfl) (by simp) ?_
    refine AllReadyH.cons rfl (fun K hK => ?_) AllReadyH.nil
    go_simp
    refine (part_c nb eb na ea nk ek nc ec (z1 * y2.tdiv ((Int.gcd y1 y2 : Nat) : Int) + z2 * y1.tdiv ((Int.gcd y1 y2 : Nat) : Int)) ((Int.gcd (z1 * y2.tdiv ((Int.gcd y1 y2 : Nat) : Int) + z2 * y1.tdiv ((Int.gcd y1 y2 : Nat) : Int)) ((Int.gcd y1 y2 : Nat) : Int) : Nat) : Int) _ N1_.out E1_.out PG.out.2.1 (Nat.lt_of_lt_of_le LA.out.2.2 (bp_mono (by decide)))).mono ?_
    rintro e W3 ⟨ob, oa, ok, oc, rfl, hn, bc⟩
    try go_simp
    have T3 := Lib.hid (T1.out.keep bc)
    have hT := T3.out.sh
    have NU3 := Lib.hid hn
    have U3_ := Lib.hid (U1_.out.below bc)
    have E3_ := Lib.hid (E1_.out.below bc)
    refine hK.out _ _ hT (fun _ => ?_)
    clear hK K hS bc T1 hn U1_ N1_ E1_
    have hS := hT
    clear hT
    try simp only [Act.put, List.setIfInBounds_toArray, List.set_cons_zero, List.set_cons_succ]
    refine wpAnyH_ready (rs := [7]) (by kernel_rfl) (by simp) ?_
    refine AllReadyH.cons rfl (fun K hK => ?_) AllReadyH.nil
    go_simp
    refine (part_c d2 eb e2 ea m2 ek q2 ec y2 ((Int.gcd (z1 * y2.tdiv ((Int.gcd y1 y2 : Nat) : Int) + z2 * y1.tdiv ((Int.gcd y1 y2 : Nat) : Int)) ((Int.gcd y1 y2 : Nat) : Int) : Nat) : Int) _ (D2.out _ T3.out.t.j) E3_.out PG.out.2.1 O24.out).mono ?_
    rintro e W4 ⟨yb, ya, yk, yc, rfl, hn, bc⟩
    try go_simp
    have T4 := Lib.hid (T3.out.keep bc)
    have hT := T4.out.sh
    have Y4 := Lib.hid hn
    have NU4 := Lib.hid (NU3.out.below bc)
    have U4_ := Lib.hid (U3_.out.below bc)
    refine hK.out _ _ hT (fun _ => ?_)
    clear hK K hS bc T3 hn NU3 U3_ E3_
    have hS := hT
    clear hT
    try simp only [Act.put, List.setIfInBounds_toArray, List.set_cons_zero, List.set_cons_succ]
    refine wpAnyH_ready (rs := [8]) (by kernel_rfl) (by simp) ?_
    refine AllReadyH.cons rfl (fun K hK => ?_) AllReadyH.nil
    go_simp
    refine (Times_c ub yb ua ya uk yk uc yc (y1.tdiv ((Int.gcd y1 y2 : Nat) : Int)) (y2.tdiv ((Int.gcd (z1 * y2.tdiv ((Int.gcd y1 y2 : Nat) : Int) + z2 * y1.tdiv ((Int.gcd y1 y2 : Nat) : Int)) ((Int.gcd y1 y2 : Nat) : Int) : Nat) : Int)) _ U4_.out Y4.out (tdiv_lt O1.out) (tdiv_lt O2.out)).mono ?_
    rintro e W8 ⟨ob', oa', ok', oc', rfl, hn, bc⟩
    try go_simp
    have T8 := Lib.hid (T4.out.keep bc)
    have hT := T8.out.sh
    have ON : Hid (Zn W8 ob oa ok oc ((z1 * y2 + z2 * y1).tdiv (ovG (z1 * y2 + z2 * y1) (y1 * y2)))) := by
      unfold Hid; rw [← PG.out.2.2.1]; exact NU4.out.below bc
    have OD : Hid (Zn W8 ob' oa' ok' oc' ((y1 * y2).tdiv (ovG (z1 * y2 + z2 * y1) (y1 * y2)))) := by
      unfold Hid; rw [← PG.out.2.2.2]; exact hn
    refine hK.out _ _ hT (fun _ => ?_)
    clear hK K hS bc T4 hn Y4 NU4 U4_
    have hS := hT
    clear hT
    try simp only [Act.put, List.setIfInBounds_toArray, List.set_cons_zero, List.set_cons_succ]
    refine wpAnyH_take (i := 9) (v := ?v9z64) rfl (by kernel_rfl) (by kernel_rfl) (by kernel_rfl) (fun _ _ _ h => h) (Or.inl ⟨by rfl, ?hy9z64⟩) (by assumption) ?rest9z64
    case hy9z64 =>
      intro w hSw
      dsimp only [SH] at hSw
      go_simp
      try with_reducible rfl
    simp only [Act.put, List.getElem_toArray, List.getElem_cons_succ, List.getElem_cons_zero, List.setIfInBounds_toArray, List.set_cons_zero, List.set_cons_succ]
    refine wpAnyH_ready (rs := [10]) (by kernel_rfl) (by simp) ?_
    refine AllReadyH.cons rfl (fun K hK => ?_) AllReadyH.nil
    have q0' := T8.out.t.j.r.c0
    have q1' := T8.out.t.j.r.c1
    have q2' := T8.out.t.j.r.c2
    have q3' := T8.out.t.j.r.c3
    have g0' := T8.out.t.j.r.fr 0
    have g1' := T8.out.t.j.r.fr 1
    have g2' := T8.out.t.j.r.fr 2
    have g3' := T8.out.t.j.r.fr 3
    go_simp
    clear q0' q1' q2' q3' g0' g1' g2' g3'
    have hT := T8.out.done (.bool ob) (.slice oa ok oc) (.bool ob') (.slice oa' ok' oc')
    have R9 := T8.out.t.j.r.set (.bool ob) (.slice oa ok oc) (.bool ob') (.slice oa' ok' oc')
    have PP : Hid (FrPost ((z1 * y2 + z2 * y1).tdiv (ovG (z1 * y2 + z2 * y1) (y1 * y2))) ((y1 * y2).tdiv (ovG (z1 * y2 + z2 * y1) (y1 * y2))) w (.returned (.agg #[.bool ob, .slice oa ok oc, .bool ob', .slice oa' ok' oc'])) (four W8 (w.heap.size + 1 + 1) (.bool ob) (.slice oa ok oc) (.bool ob') (.slice oa' ok' oc'))) :=
      ⟨_, _, _, _, _, _, _, _, rfl, ON.out.set4 T8.out.t.j.r (NL.b _) (NL.s _ _ _) (NL.b _) (NL.s _ _ _) _ _ _ _, OD.out.set4 T8.out.t.j.r (NL.b _) (NL.s _ _ _) (NL.b _) (NL.s _ _ _) _ _ _ _, below_four T8.out.t.j.bel (by omega) _ _ _ _⟩
    unfold four at hT R9 PP
    refine hK.out _ _ hT (fun _ => ?_)
    clear hK K hS
    try simp only [Act.put, List.setIfInBounds_toArray, List.set_cons_zero, List.set_cons_succ]
    refine wpAnyH_done (by kernel_rfl) ?_ _
    refine NoPanic.normal ?_
    obtain ⟨r0, r1, r2, r3, _, _⟩ := id R9
    clear hT R9
    go_wp2_with fail
    exact bodyPost_ret (v := .agg #[.bool ob, .slice oa ok oc, .bool ob', .slice oa' ok' oc']) (by simp [results, Tryd.results18, go_sem, r0, r1, r2, r3]) rfl PP.out
end Go.Proofs.YtfijhkaalpinhaaDoor
namespace Go.Proofs.YtfijhkaalpinhaaDoor
open Go.RowKit

/-- The boxes of Sum: arguments, result, fractions. -/
structure Sb (w : World) (gf gh : Nat) (s t s' t' : ByteArray) (f h : Fq) (W : World) : Prop where
  x : B2 W w.heap.size (.string s) (.string t)
  y : B2 W (w.heap.size + 1) (.string s') (.string t')
  r : B2 W (w.heap.size + 1 + 1) (.string ⟨#[]⟩) (.string ⟨#[]⟩)
  f : B4q W gf f
  h : B4q W gh h
  bel : Below w.heap.size w W
theorem Sb.keep {w : World} {gf gh : Nat} {s t s' t' : ByteArray} {f h : Fq} {W W' : World} (j : Sb w gf gh s t s' t' f h W) (hb : Below W.heap.size W W') : Sb w gf gh s t s' t' f h W' :=
  ⟨j.x.keep hb, j.y.keep hb, j.r.keep hb, j.f.keep hb, j.h.keep hb, j.bel.trans (hb.mono j.bel.size)⟩
/-- Two fractions are laid into two fresh boxes. -/
def laid (W : World) (f h : Fq) (T : TypeId) : World :=
  fourq (fourq ((W.alloc (.cells #[.bool false, .slice none 0 0, .bool false, .slice none 0 0] T)).alloc (.cells #[.bool false, .slice none 0 0, .bool false, .slice none 0 0] T)) W.heap.size f) (W.heap.size + 1) h
theorem laid_is {W : World} (f h : Fq) (T : TypeId) : Below W.heap.size W (laid W f h T) ∧ B4q (laid W f h T) W.heap.size f ∧ B4q (laid W f h T) (W.heap.size + 1) h ∧
    (∀ q x y, Fi W q x y → Fi (laid W f h T) q x y) := by
  have s1 : (W.alloc (.cells #[.bool false, .slice none 0 0, .bool false, .slice none 0 0] T)).heap.size = W.heap.size + 1 := by simp
  have hb : Below W.heap.size W ((W.alloc (.cells #[.bool false, .slice none 0 0, .bool false, .slice none 0 0] T)).alloc (.cells #[.bool false, .slice none 0 0, .bool false, .slice none 0 0] T)) := ((Below.refl _ _).alloc (Nat.le_refl _) _).alloc (by simp) _
  have d1 : B4q ((W.alloc (.cells #[.bool false, .slice none 0 0, .bool false, .slice none 0 0] T)).alloc (.cells #[.bool false, .slice none 0 0, .bool false, .slice none 0 0] T)) W.heap.size Fq.z := (B4.made W _ _ _ _ T).keep (bel_one _ _)
  have d2 : B4q ((W.alloc (.cells #[.bool false, .slice none 0 0, .bool false, .slice none 0 0] T)).alloc (.cells #[.bool false, .slice none 0 0, .bool false, .slice none 0 0] T)) (W.heap.size + 1) Fq.z := by rw [← s1]; exact B4.made _ _ _ _ _ T
  have d3 : B4q (fourq ((W.alloc (.cells #[.bool false, .slice none 0 0, .bool false, .slice none 0 0] T)).alloc (.cells #[.bool false, .slice none 0 0, .bool false, .slice none 0 0] T)) W.heap.size f) (W.heap.size + 1) Fq.z := d2.other (by omega) _ _ _ _
  exact ⟨below_four (below_four hb (Nat.le_refl _) _ _ _ _) (by omega) _ _ _ _, (d1.set _ _ _ _).other (by omega) _ _ _ _, d3.set _ _ _ _, fun q x y hq => ((hq.below hb).set d1 f).set d3 h⟩
theorem fSum_bd (x y x' y' : Int) (n1 : x.natAbs < bp 400) (o1 : y.natAbs < bp 400) (n2 : x'.natAbs < bp 400) (o2 : y'.natAbs < bp 400) : (fSum x y x' y').1.natAbs < bp 2000 ∧ (fSum x y x' y').2.natAbs < bp 2000 :=
  ⟨bpz_add (bpz_mul n1 o2 (show 400 + 400 ≤ 800 by decide)) (bpz_mul n2 o1 (show 400 + 400 ≤ 800 by decide)) (show 800 + 1 ≤ 2000 by decide), bpz_mul o1 o2 (show 400 + 400 ≤ 2000 by decide)⟩
theorem fMul_bd (x y x' y' : Int) (n1 : x.natAbs < bp 400) (o1 : y.natAbs < bp 400) (n2 : x'.natAbs < bp 400) (o2 : y'.natAbs < bp 400) : (fMul x y x' y').1.natAbs < bp 2000 ∧ (fMul x y x' y').2.natAbs < bp 2000 :=
  ⟨bpz_mul n1 n2 (show 400 + 400 ≤ 2000 by decide), bpz_mul o1 o2 (show 400 + 400 ≤ 2000 by decide)⟩
theorem la_of {x y x' y' : Int} {d : Int} (n1 : x.natAbs < bp 125) (o1 : y.natAbs < bp 125) (n2 : x'.natAbs < bp 125) (o2 : y'.natAbs < bp 125) :
    (x * y'.tdiv d).natAbs < bp 2000 ∧ (x' * y.tdiv d).natAbs < bp 2000 ∧ (x * y'.tdiv d + x' * y.tdiv d).natAbs < bp 2000 :=
  have a := bpz_mul n1 (tdiv_lt (y := d) o2) (show 125 + 125 ≤ 250 by decide)
  have b := bpz_mul n2 (tdiv_lt (y := d) o1) (show 125 + 125 ≤ 250 by decide)
  ⟨Nat.lt_of_lt_of_le a (bp_mono (by decide)), Nat.lt_of_lt_of_le b (bp_mono (by decide)), bpz_add a b (show 250 + 1 ≤ 2000 by decide)⟩
set_option maxRecDepth 100000 in
set_option maxHeartbeats 4000000 in
theorem Sum_c (s t s' t' : ByteArray) (w : World) :
    Calls Tryd.prog 10 #[.agg #[.string s, .string t], .agg #[.string s', .string t']] w (OpPost (opS fSum s.data.toList t.data.toList s'.data.toList t'.data.toList) w) := by
  obtain ⟨W0, hW0⟩ : ∃ W0, ((w.alloc (.cells #[.string s, .string t] 23)).alloc (.cells #[.string s', .string t'] 23)).alloc (.cells #[.string ⟨#[]⟩, .string ⟨#[]⟩] 23) = W0 := ⟨_, rfl⟩
  have J0 : Hid (Sa w s t s' t' W0) := by rw [← hW0]; exact Sa.made _ _ _ _ _ _ _ _
  have x0 := J0.out.x.c0
  have x1 := J0.out.x.c1
  have y0 := J0.out.y.c0
  have y1 := J0.out.y.c1
  have H1 := Lib.hid (fun w => fractionsOf_c s t s' t' w)
  go_enter Tryd.func10, Tryd.ntmps10
  go_wp2_with fail
  clear hW0 x0 x1 y0 y1
  refine (H1.out _).mono ?_
  rintro e w1 ⟨f, h, flt, rfl, b1, hpost⟩
  have P1 := Lib.hid hpost
  have J1 := Lib.hid (J0.out.keep b1)
  clear b1 hpost H1
  have LD := laid_is (W := w1) f h 39
  obtain ⟨W5, hW5⟩ : ∃ W5, laid w1 f h 39 = W5 := ⟨_, rfl⟩
  rw [hW5] at LD
  have L5 := Lib.hid LD
  clear LD
  -- the walk meets the two boxes one after the other
  obtain ⟨WA, hWA⟩ : ∃ WA, (w1.alloc (.cells #[.bool false, .slice none 0 0, .bool false, .slice none 0 0] 39)).alloc (.cells #[.bool false, .slice none 0 0, .bool false, .slice none 0 0] 39) = WA := ⟨_, rfl⟩
  have s1 : (w1.alloc (.cells #[.bool false, .slice none 0 0, .bool false, .slice none 0 0] 39)).heap.size = w1.heap.size + 1 := by simp
  have D1 : B4q WA w1.heap.size Fq.z := by rw [← hWA]; exact (B4.made _ _ _ _ _ _).keep (bel_one _ _)
  have D2 : B4q WA (w1.heap.size + 1) Fq.z := by rw [← hWA, ← s1]; exact B4.made _ _ _ _ _ _
  have hW5' : fourq (fourq WA w1.heap.size f) (w1.heap.size + 1) h = W5 := by rw [← hW5, ← hWA]; rfl
  clear hW5 s1
  have a0 := D1.c0
  have a1 := D1.c1
  have a2 := D1.c2
  have a3 := D1.c3
  have af0 := D1.fr 0
  have af1 := D1.fr 1
  have af2 := D1.fr 2
  have af3 := D1.fr 3
  have b0 := D2.c0
  have b1 := D2.c1
  have b2 := D2.c2
  have b3 := D2.c3
  have bf0 := D2.fr 0
  have bf1 := D2.fr 1
  have bf2 := D2.fr 2
  have bf3 := D2.fr 3
  clear D1 D2
  simp only [Fq.z] at a0 a1 a2 a3 b0 b1 b2 b3
  unfold fourq four at hW5'
  by_cases hz : flt = 0
  · subst hz
    obtain ⟨x, y, x', y', e1, e2, i1, i2⟩ := (P1.out.resolve_right (fun q => q.1 rfl)).2
    have I1 := Lib.hid (L5.out.2.2.2 f x y i1)
    have I2 := Lib.hid (L5.out.2.2.2 h x' y' i2)
    have RS : Hid (opS fSum s.data.toList t.data.toList s'.data.toList t'.data.toList = raR (fSum x y x' y').1 (fSum x y x' y').2) := by unfold Hid opS; rw [e1, e2]
    have JB5 : Hid (Below w.heap.size w W5) := J1.out.bel.trans (L5.out.1.mono J1.out.bel.size)
    have JR5 := Lib.hid (J1.out.r.keep L5.out.1)
    have p0 := L5.out.2.1.c0
    have p1 := L5.out.2.1.c1
    have p2 := L5.out.2.1.c2
    have p3 := L5.out.2.1.c3
    have q0 := L5.out.2.2.1.c0
    have q1 := L5.out.2.2.1.c1
    have q2 := L5.out.2.2.1.c2
    have q3 := L5.out.2.2.1.c3
    clear e1 e2 i1 i2 P1
    have m4 : bp 125 ≤ bp 2000 := bp_mono (by decide)
    have HO := Lib.hid (FPlus_c f.b f.a f.k f.c f.b' f.a' f.k' f.c' h.b h.a h.k h.c h.b' h.a' h.k' h.c' x y x' y' W5 I1.out.n I1.out.d I2.out.n I2.out.d (Nat.lt_of_lt_of_le I1.out.nb m4) (Nat.lt_of_lt_of_le I1.out.db m4) (Nat.lt_of_lt_of_le I2.out.nb m4) (Nat.lt_of_lt_of_le I2.out.db m4) I1.out.pos I2.out.pos I1.out.one I2.out.one (la_of I1.out.nb I1.out.db I2.out.nb I2.out.db))
    clear m4
    go_wp2_with fail
    clear hW5' hWA a0 a1 a2 a3 af0 af1 af2 af3 b0 b1 b2 b3 bf0 bf1 bf2 bf3 p0 p1 p2 p3 q0 q1 q2 q3
    (refine HO.out.mono ?_)
    rintro e w6 ⟨ob, oa, ok, oc, ob', oa', ok', oc', rfl, hn, hd, b6⟩
    have JB6 := Lib.hid (JB5.out.trans (b6.mono JB5.out.size))
    have JR6 := Lib.hid (JR5.out.keep b6)
    have m5 : bp 125 ≤ bp 600 := bp_mono (by decide)
    have bnd := fSum_bd x y x' y' (Nat.lt_of_lt_of_le I1.out.nb (bp_mono (by decide))) (Nat.lt_of_lt_of_le I1.out.db (bp_mono (by decide))) (Nat.lt_of_lt_of_le I2.out.nb (bp_mono (by decide))) (Nat.lt_of_lt_of_le I2.out.db (bp_mono (by decide)))
    have HRO := Lib.hid (ratioOf_c ob oa ok oc ob' oa' ok' oc' _ _ w6 hn hd (Nat.lt_of_le_of_lt (tdiv_abs_le _ _) bnd.1) (Nat.lt_of_le_of_lt (tdiv_abs_le _ _) bnd.2) (red_pos (n := (fSum x y x' y').1) (d := (fSum x y x' y').2) (Int.mul_ne_zero (by have := I1.out.pos; omega) (by have := I2.out.pos; omega))))
    clear hn hd b6 m5 bnd
    go_wp2_with fail
    (refine HRO.out.mono ?_)
    rintro e w7 ⟨rfl, b7⟩
    have JB7 := Lib.hid (JB6.out.trans (b7.mono JB6.out.size))
    have JR7 := Lib.hid (JR6.out.keep b7)
    obtain ⟨rr, hrr⟩ : ∃ rr, ra ((x * y' + x' * y).tdiv (ovG (x * y' + x' * y) (y * y'))) ((y * y').tdiv (ovG (x * y' + x' * y) (y * y'))) = rr := ⟨_, rfl⟩
    have RS2 : Hid (opS fSum s.data.toList t.data.toList s'.data.toList t'.data.toList = rr) := by rw [← hrr]; exact RS.out
    rw [hrr]
    clear b7 hrr HRO RS
    obtain ⟨W9, hW9⟩ : ∃ W9, two w7 (w.heap.size + 1 + 1) (.string rr.1) (.string rr.2.1) = W9 := ⟨_, rfl⟩
    have R9 : B2 W9 (w.heap.size + 1 + 1) (.string rr.1) (.string rr.2.1) := by rw [← hW9]; exact JR7.out.set _ _
    have PP : Hid (OpPost (opS fSum s.data.toList t.data.toList s'.data.toList t'.data.toList) w (.returned (.tuple #[.agg #[.string rr.1, .string rr.2.1], .int .i64 rr.2.2])) W9) := by
      rw [← hW9]
      exact ⟨by rw [RS2.out], below_two JB7.out (by omega) _ _⟩
    have c0 := JR7.out.c0
    have c1 := JR7.out.c1
    have cf0 := JR7.out.fr 0
    have cf1 := JR7.out.fr 1
    obtain ⟨r0, r1, _, _⟩ := id R9
    unfold two at hW9
    clear R9
    go_wp2_with fail
    exact bodyPost_ret (v := .tuple #[.agg #[.string rr.1, .string rr.2.1], .int .i64 rr.2.2]) (by simp [results, Tryd.results10, go_sem, r0, r1]) rfl PP.out
  · have hne : (flt == 0) = false := by rw [beq_eq_false_iff_ne]; exact hz
    have hne2 : (flt != 0) = true := by simp [hz]
    have RS2 : Hid (opS fSum s.data.toList t.data.toList s'.data.toList t'.data.toList = (⟨#[]⟩, ⟨#[]⟩, flt)) := by
      unfold Hid opS
      rcases (P1.out.resolve_left (fun q => hz q.1)).2 with ⟨e1, e2⟩ | ⟨⟨p, e1⟩, e2, e3⟩
      · rw [e1, e2]
      · rw [e1, e2, e3]
    have JB7 : Hid (Below w.heap.size w W5) := J1.out.bel.trans (L5.out.1.mono J1.out.bel.size)
    have JR7 := Lib.hid (J1.out.r.keep L5.out.1)
    clear hz P1 L5 J1
    obtain ⟨W9, hW9⟩ : ∃ W9, two W5 (w.heap.size + 1 + 1) (.string ⟨#[]⟩) (.string ⟨#[]⟩) = W9 := ⟨_, rfl⟩
    have R9 : B2 W9 (w.heap.size + 1 + 1) (.string ⟨#[]⟩) (.string ⟨#[]⟩) := by rw [← hW9]; exact JR7.out.set _ _
    have PP : Hid (OpPost (opS fSum s.data.toList t.data.toList s'.data.toList t'.data.toList) w (.returned (.tuple #[.agg #[.string ⟨#[]⟩, .string ⟨#[]⟩], .int .i64 flt])) W9) := by
      rw [← hW9]
      exact ⟨by rw [RS2.out], below_two JB7.out (by omega) _ _⟩
    have c0 := JR7.out.c0
    have c1 := JR7.out.c1
    have cf0 := JR7.out.fr 0
    have cf1 := JR7.out.fr 1
    obtain ⟨r0, r1, _, _⟩ := id R9
    unfold two at hW9
    clear R9
    go_wp2_with fail
    exact bodyPost_ret (v := .tuple #[.agg #[.string ⟨#[]⟩, .string ⟨#[]⟩], .int .i64 flt]) (by simp [results, Tryd.results10, go_sem, r0, r1]) rfl PP.out
set_option maxRecDepth 100000 in
set_option maxHeartbeats 4000000 in
theorem Product_c (s t s' t' : ByteArray) (w : World) :
    Calls Tryd.prog 11 #[.agg #[.string s, .string t], .agg #[.string s', .string t']] w (OpPost (opS fMul s.data.toList t.data.toList s'.data.toList t'.data.toList) w) := by
  obtain ⟨W0, hW0⟩ : ∃ W0, ((w.alloc (.cells #[.string s, .string t] 23)).alloc (.cells #[.string s', .string t'] 23)).alloc (.cells #[.string ⟨#[]⟩, .string ⟨#[]⟩] 23) = W0 := ⟨_, rfl⟩
  have J0 : Hid (Sa w s t s' t' W0) := by rw [← hW0]; exact Sa.made _ _ _ _ _ _ _ _
  have x0 := J0.out.x.c0
  have x1 := J0.out.x.c1
  have y0 := J0.out.y.c0
  have y1 := J0.out.y.c1
  have H1 := Lib.hid (fun w => fractionsOf_c s t s' t' w)
  go_enter Tryd.func11, Tryd.ntmps11
  go_wp2_with fail
  clear hW0 x0 x1 y0 y1
  refine (H1.out _).mono ?_
  rintro e w1 ⟨f, h, flt, rfl, b1, hpost⟩
  have P1 := Lib.hid hpost
  have J1 := Lib.hid (J0.out.keep b1)
  clear b1 hpost H1
  have LD := laid_is (W := w1) f h 39
  obtain ⟨W5, hW5⟩ : ∃ W5, laid w1 f h 39 = W5 := ⟨_, rfl⟩
  rw [hW5] at LD
  have L5 := Lib.hid LD
  clear LD
  -- the walk meets the two boxes one after the other
  obtain ⟨WA, hWA⟩ : ∃ WA, (w1.alloc (.cells #[.bool false, .slice none 0 0, .bool false, .slice none 0 0] 39)).alloc (.cells #[.bool false, .slice none 0 0, .bool false, .slice none 0 0] 39) = WA := ⟨_, rfl⟩
  have s1 : (w1.alloc (.cells #[.bool false, .slice none 0 0, .bool false, .slice none 0 0] 39)).heap.size = w1.heap.size + 1 := by simp
  have D1 : B4q WA w1.heap.size Fq.z := by rw [← hWA]; exact (B4.made _ _ _ _ _ _).keep (bel_one _ _)
  have D2 : B4q WA (w1.heap.size + 1) Fq.z := by rw [← hWA, ← s1]; exact B4.made _ _ _ _ _ _
  have hW5' : fourq (fourq WA w1.heap.size f) (w1.heap.size + 1) h = W5 := by rw [← hW5, ← hWA]; rfl
  clear hW5 s1
  have a0 := D1.c0
  have a1 := D1.c1
  have a2 := D1.c2
  have a3 := D1.c3
  have af0 := D1.fr 0
  have af1 := D1.fr 1
  have af2 := D1.fr 2
  have af3 := D1.fr 3
  have b0 := D2.c0
  have b1 := D2.c1
  have b2 := D2.c2
  have b3 := D2.c3
  have bf0 := D2.fr 0
  have bf1 := D2.fr 1
  have bf2 := D2.fr 2
  have bf3 := D2.fr 3
  clear D1 D2
  simp only [Fq.z] at a0 a1 a2 a3 b0 b1 b2 b3
  unfold fourq four at hW5'
  by_cases hz : flt = 0
  · subst hz
    obtain ⟨x, y, x', y', e1, e2, i1, i2⟩ := (P1.out.resolve_right (fun q => q.1 rfl)).2
    have I1 := Lib.hid (L5.out.2.2.2 f x y i1)
    have I2 := Lib.hid (L5.out.2.2.2 h x' y' i2)
    have RS : Hid (opS fMul s.data.toList t.data.toList s'.data.toList t'.data.toList = raR (fMul x y x' y').1 (fMul x y x' y').2) := by unfold Hid opS; rw [e1, e2]
    have JB5 : Hid (Below w.heap.size w W5) := J1.out.bel.trans (L5.out.1.mono J1.out.bel.size)
    have JR5 := Lib.hid (J1.out.r.keep L5.out.1)
    have p0 := L5.out.2.1.c0
    have p1 := L5.out.2.1.c1
    have p2 := L5.out.2.1.c2
    have p3 := L5.out.2.1.c3
    have q0 := L5.out.2.2.1.c0
    have q1 := L5.out.2.2.1.c1
    have q2 := L5.out.2.2.1.c2
    have q3 := L5.out.2.2.1.c3
    clear e1 e2 i1 i2 P1
    have m4 : bp 125 ≤ bp 2000 := bp_mono (by decide)
    have HO := Lib.hid (FTimes_c f.b f.a f.k f.c f.b' f.a' f.k' f.c' h.b h.a h.k h.c h.b' h.a' h.k' h.c' x y x' y' W5 I1.out.n I1.out.d I2.out.n I2.out.d (Nat.lt_of_lt_of_le I1.out.nb m4) (Nat.lt_of_lt_of_le I1.out.db m4) (Nat.lt_of_lt_of_le I2.out.nb m4) (Nat.lt_of_lt_of_le I2.out.db m4) I1.out.pos I2.out.pos I1.out.one I2.out.one)
    clear m4
    go_wp2_with fail
    clear hW5' hWA a0 a1 a2 a3 af0 af1 af2 af3 b0 b1 b2 b3 bf0 bf1 bf2 bf3 p0 p1 p2 p3 q0 q1 q2 q3
    (refine HO.out.mono ?_)
    rintro e w6 ⟨ob, oa, ok, oc, ob', oa', ok', oc', rfl, hn, hd, b6⟩
    have JB6 := Lib.hid (JB5.out.trans (b6.mono JB5.out.size))
    have JR6 := Lib.hid (JR5.out.keep b6)
    have m5 : bp 125 ≤ bp 600 := bp_mono (by decide)
    have bnd := fMul_bd x y x' y' (Nat.lt_of_lt_of_le I1.out.nb (bp_mono (by decide))) (Nat.lt_of_lt_of_le I1.out.db (bp_mono (by decide))) (Nat.lt_of_lt_of_le I2.out.nb (bp_mono (by decide))) (Nat.lt_of_lt_of_le I2.out.db (bp_mono (by decide)))
    have HRO := Lib.hid (ratioOf_c ob oa ok oc ob' oa' ok' oc' _ _ w6 hn hd (Nat.lt_of_le_of_lt (tdiv_abs_le _ _) bnd.1) (Nat.lt_of_le_of_lt (tdiv_abs_le _ _) bnd.2) (red_pos (n := (fMul x y x' y').1) (d := (fMul x y x' y').2) (Int.mul_ne_zero (by have := I1.out.pos; omega) (by have := I2.out.pos; omega))))
    clear hn hd b6 m5 bnd
    go_wp2_with fail
    (refine HRO.out.mono ?_)
    rintro e w7 ⟨rfl, b7⟩
    have JB7 := Lib.hid (JB6.out.trans (b7.mono JB6.out.size))
    have JR7 := Lib.hid (JR6.out.keep b7)
    obtain ⟨rr, hrr⟩ : ∃ rr, ra ((x * x').tdiv (ovG (x * x') (y * y'))) ((y * y').tdiv (ovG (x * x') (y * y'))) = rr := ⟨_, rfl⟩
    have RS2 : Hid (opS fMul s.data.toList t.data.toList s'.data.toList t'.data.toList = rr) := by rw [← hrr]; exact RS.out
    rw [hrr]
    clear b7 hrr HRO RS
    obtain ⟨W9, hW9⟩ : ∃ W9, two w7 (w.heap.size + 1 + 1) (.string rr.1) (.string rr.2.1) = W9 := ⟨_, rfl⟩
    have R9 : B2 W9 (w.heap.size + 1 + 1) (.string rr.1) (.string rr.2.1) := by rw [← hW9]; exact JR7.out.set _ _
    have PP : Hid (OpPost (opS fMul s.data.toList t.data.toList s'.data.toList t'.data.toList) w (.returned (.tuple #[.agg #[.string rr.1, .string rr.2.1], .int .i64 rr.2.2])) W9) := by
      rw [← hW9]
      exact ⟨by rw [RS2.out], below_two JB7.out (by omega) _ _⟩
    have c0 := JR7.out.c0
    have c1 := JR7.out.c1
    have cf0 := JR7.out.fr 0
    have cf1 := JR7.out.fr 1
    obtain ⟨r0, r1, _, _⟩ := id R9
    unfold two at hW9
    clear R9
    go_wp2_with fail
    exact bodyPost_ret (v := .tuple #[.agg #[.string rr.1, .string rr.2.1], .int .i64 rr.2.2]) (by simp [results, Tryd.results11, go_sem, r0, r1]) rfl PP.out
  · have hne : (flt == 0) = false := by rw [beq_eq_false_iff_ne]; exact hz
    have hne2 : (flt != 0) = true := by simp [hz]
    have RS2 : Hid (opS fMul s.data.toList t.data.toList s'.data.toList t'.data.toList = (⟨#[]⟩, ⟨#[]⟩, flt)) := by
      unfold Hid opS
      rcases (P1.out.resolve_left (fun q => hz q.1)).2 with ⟨e1, e2⟩ | ⟨⟨p, e1⟩, e2, e3⟩
      · rw [e1, e2]
      · rw [e1, e2, e3]
    have JB7 : Hid (Below w.heap.size w W5) := J1.out.bel.trans (L5.out.1.mono J1.out.bel.size)
    have JR7 := Lib.hid (J1.out.r.keep L5.out.1)
    clear hz P1 L5 J1
    obtain ⟨W9, hW9⟩ : ∃ W9, two W5 (w.heap.size + 1 + 1) (.string ⟨#[]⟩) (.string ⟨#[]⟩) = W9 := ⟨_, rfl⟩
    have R9 : B2 W9 (w.heap.size + 1 + 1) (.string ⟨#[]⟩) (.string ⟨#[]⟩) := by rw [← hW9]; exact JR7.out.set _ _
    have PP : Hid (OpPost (opS fMul s.data.toList t.data.toList s'.data.toList t'.data.toList) w (.returned (.tuple #[.agg #[.string ⟨#[]⟩, .string ⟨#[]⟩], .int .i64 flt])) W9) := by
      rw [← hW9]
      exact ⟨by rw [RS2.out], below_two JB7.out (by omega) _ _⟩
    have c0 := JR7.out.c0
    have c1 := JR7.out.c1
    have cf0 := JR7.out.fr 0
    have cf1 := JR7.out.fr 1
    obtain ⟨r0, r1, _, _⟩ := id R9
    unfold two at hW9
    clear R9
    go_wp2_with fail
    exact bodyPost_ret (v := .tuple #[.agg #[.string ⟨#[]⟩, .string ⟨#[]⟩], .int .i64 flt]) (by simp [results, Tryd.results11, go_sem, r0, r1]) rfl PP.out
set_option maxRecDepth 100000 in
set_option maxHeartbeats 4000000 in
theorem Order_c (s t s' t' : ByteArray) (w : World) :
    Calls Tryd.prog 9 #[.agg #[.string s, .string t], .agg #[.string s', .string t']] w fun e w' => e = .returned (.tuple #[.int .i64 (orS s.data.toList t.data.toList s'.data.toList t'.data.toList).1, .int .i64 (orS s.data.toList t.data.toList s'.data.toList t'.data.toList).2]) ∧ Below w.heap.size w w' := by
  obtain ⟨W0, hW0⟩ : ∃ W0, (w.alloc (.cells #[.string s, .string t] 23)).alloc (.cells #[.string s', .string t'] 23) = W0 := ⟨_, rfl⟩
  have s1 : (w.alloc (.cells #[.string s, .string t] 23)).heap.size = w.heap.size + 1 := by simp
  have X0 : B2 W0 w.heap.size (.string s) (.string t) := by rw [← hW0]; exact (B2.made w _ _ _).keep (bel_one _ _)
  have Y0 : B2 W0 (w.heap.size + 1) (.string s') (.string t') := by rw [← hW0, ← s1]; exact B2.made _ _ _ _
  have BB0 : Hid (Below w.heap.size w W0) := by rw [← hW0]; exact ((Below.refl _ _).alloc (Nat.le_refl _) _).alloc (by simp) _
  have x0 := X0.c0
  have x1 := X0.c1
  have y0 := Y0.c0
  have y1 := Y0.c1
  clear X0 Y0 s1
  have H1 := Lib.hid (fun w => fractionsOf_c s t s' t' w)
  go_enter Tryd.func9, Tryd.ntmps9
  go_wp2_with fail
  clear hW0 x0 x1 y0 y1
  refine (H1.out _).mono ?_
  rintro e w1 ⟨f, h, flt, rfl, b1, hpost⟩
  have P1 := Lib.hid hpost
  have J1 := Lib.hid (BB0.out.trans (b1.mono BB0.out.size))
  clear b1 hpost H1
  have LD := laid_is (W := w1) f h 39
  obtain ⟨W5, hW5⟩ : ∃ W5, laid w1 f h 39 = W5 := ⟨_, rfl⟩
  rw [hW5] at LD
  have L5 := Lib.hid LD
  clear LD
  -- the walk meets the two boxes one after the other
  obtain ⟨WA, hWA⟩ : ∃ WA, (w1.alloc (.cells #[.bool false, .slice none 0 0, .bool false, .slice none 0 0] 39)).alloc (.cells #[.bool false, .slice none 0 0, .bool false, .slice none 0 0] 39) = WA := ⟨_, rfl⟩
  have s1 : (w1.alloc (.cells #[.bool false, .slice none 0 0, .bool false, .slice none 0 0] 39)).heap.size = w1.heap.size + 1 := by simp
  have D1 : B4q WA w1.heap.size Fq.z := by rw [← hWA]; exact (B4.made _ _ _ _ _ _).keep (bel_one _ _)
  have D2 : B4q WA (w1.heap.size + 1) Fq.z := by rw [← hWA, ← s1]; exact B4.made _ _ _ _ _ _
  have hW5' : fourq (fourq WA w1.heap.size f) (w1.heap.size + 1) h = W5 := by rw [← hW5, ← hWA]; rfl
  clear hW5 s1
  have a0 := D1.c0
  have a1 := D1.c1
  have a2 := D1.c2
  have a3 := D1.c3
  have af0 := D1.fr 0
  have af1 := D1.fr 1
  have af2 := D1.fr 2
  have af3 := D1.fr 3
  have b0 := D2.c0
  have b1 := D2.c1
  have b2 := D2.c2
  have b3 := D2.c3
  have bf0 := D2.fr 0
  have bf1 := D2.fr 1
  have bf2 := D2.fr 2
  have bf3 := D2.fr 3
  clear D1 D2
  simp only [Fq.z] at a0 a1 a2 a3 b0 b1 b2 b3
  unfold fourq four at hW5'
  by_cases hz : flt = 0
  · subst hz
    obtain ⟨x, y, x', y', e1, e2, i1, i2⟩ := (P1.out.resolve_right (fun q => q.1 rfl)).2
    have I1 := Lib.hid (L5.out.2.2.2 f x y i1)
    have I2 := Lib.hid (L5.out.2.2.2 h x' y' i2)
    have RS : Hid (orS s.data.toList t.data.toList s'.data.toList t'.data.toList = (zcmp (x * y') (x' * y), 0)) := by unfold Hid orS; rw [e1, e2]
    have JB5 : Hid (Below w.heap.size w W5) := J1.out.trans (L5.out.1.mono J1.out.size)
    have p0 := L5.out.2.1.c0
    have p1 := L5.out.2.1.c1
    have p2 := L5.out.2.1.c2
    have p3 := L5.out.2.1.c3
    have q0 := L5.out.2.2.1.c0
    have q1 := L5.out.2.2.1.c1
    have q2 := L5.out.2.2.1.c2
    have q3 := L5.out.2.2.1.c3
    clear e1 e2 i1 i2 P1
    have m4 : bp 125 ≤ bp 400 := bp_mono (by decide)
    have HO := Lib.hid (FCompare_c f.b f.a f.k f.c f.b' f.a' f.k' f.c' h.b h.a h.k h.c h.b' h.a' h.k' h.c' x y x' y' W5 I1.out.n I1.out.d I2.out.n I2.out.d (Nat.lt_of_lt_of_le I1.out.nb m4) (Nat.lt_of_lt_of_le I1.out.db m4) (Nat.lt_of_lt_of_le I2.out.nb m4) (Nat.lt_of_lt_of_le I2.out.db m4))
    clear m4
    go_wp2_with fail
    clear hW5' hWA a0 a1 a2 a3 af0 af1 af2 af3 b0 b1 b2 b3 bf0 bf1 bf2 bf3 p0 p1 p2 p3 q0 q1 q2 q3
    (with_reducible refine HO.out.mono ?_)
    rintro e w6 ⟨rfl, b6⟩
    have PP : Hid (Below w.heap.size w w6) := JB5.out.trans (b6.mono JB5.out.size)
    clear b6
    go_wp2_with fail
    go_ret2
    exact ⟨by rw [RS.out]; rfl, PP.out⟩
  · have hne : (flt == 0) = false := by rw [beq_eq_false_iff_ne]; exact hz
    have hne2 : (flt != 0) = true := by simp [hz]
    have RS : Hid (orS s.data.toList t.data.toList s'.data.toList t'.data.toList = (0, flt)) := by
      unfold Hid orS
      rcases (P1.out.resolve_left (fun q => hz q.1)).2 with ⟨e1, e2⟩ | ⟨⟨p, e1⟩, e2, e3⟩
      · rw [e1, e2]
      · rw [e1, e2, e3]
    have JB5 : Hid (Below w.heap.size w W5) := J1.out.trans (L5.out.1.mono J1.out.size)
    clear hz P1 L5 J1
    go_wp2_with fail
    go_ret2
    exact ⟨by rw [RS.out]; rfl, JB5.out⟩
end Go.Proofs.YtfijhkaalpinhaaDoor
namespace Go.Proofs.YtfijhkaalpinhaaDoor
open Go.RowKit

set_option maxRecDepth 100000 in
set_option maxHeartbeats 4000000 in
theorem FInverse_pos (a1 : Option Addr) (k1 c1 : Nat) (d1 : Bool) (e1 : Option Addr) (m1 q1 : Nat) (z1 y1 : Int) (w : World) (h1 : Zn w false a1 k1 c1 z1) (g1 : Zn w d1 e1 m1 q1 y1) :
    Calls Tryd.prog 15 #[.agg #[.bool false, .slice a1 k1 c1, .bool d1, .slice e1 m1 q1]] w (FrPost (y1) (z1) w) := by
  obtain ⟨W0, hW0⟩ : ∃ W0, (w.alloc (.cells #[.bool false, .slice a1 k1 c1, .bool d1, .slice e1 m1 q1] 39)).alloc (.cells #[.bool false, .slice none 0 0, .bool false, .slice none 0 0] 39) = W0 := ⟨_, rfl⟩
  have s1 : (w.alloc (.cells #[.bool false, .slice a1 k1 c1, .bool d1, .slice e1 m1 q1] 39)).heap.size = w.heap.size + 1 := by simp
  have X0 : B4 W0 w.heap.size (.bool false) (.slice a1 k1 c1) (.bool d1) (.slice e1 m1 q1) := by rw [← hW0]; exact (B4.made w _ _ _ _ _).keep (bel_one _ _)
  have R0 : B4 W0 (w.heap.size + 1) (.bool false) (.slice none 0 0) (.bool false) (.slice none 0 0) := by rw [← hW0, ← s1]; exact B4.made _ _ _ _ _ _
  have B0 : Below w.heap.size w W0 := by rw [← hW0]; exact ((Below.refl _ _).alloc (Nat.le_refl _) _).alloc (by simp) _
  have ZZ := Lib.hid (h1.below B0)
  have GG := Lib.hid (g1.below B0)
  have HR0 := Lib.hid R0
  have HX0 := Lib.hid X0
  have HB0 := Lib.hid B0
  obtain ⟨WX, hWX⟩ : ∃ WX, four W0 (w.heap.size + 1) (.bool d1) (.slice e1 m1 q1) (.bool false) (.slice a1 k1 c1) = WX := ⟨_, rfl⟩
  have RX : B4 WX (w.heap.size + 1) (.bool d1) (.slice e1 m1 q1) (.bool false) (.slice a1 k1 c1) := by rw [← hWX]; exact R0.set _ _ _ _
  have PP : Hid (FrPost (y1) (z1) w (.returned (.agg #[.bool d1, .slice e1 m1 q1, .bool false, .slice a1 k1 c1])) WX) := by
    rw [← hWX]
    exact ⟨_, _, _, _, _, _, _, _, rfl, GG.out.set4 R0 (NL.b _) (NL.s _ _ _) (NL.b _) (NL.s _ _ _) _ _ _ _, ZZ.out.set4 R0 (NL.b _) (NL.s _ _ _) (NL.b _) (NL.s _ _ _) _ _ _ _, below_four B0 (by omega) _ _ _ _⟩
  obtain ⟨x0, x1, x2, x3, _, _⟩ := X0
  obtain ⟨r0, r1, r2, r3, rf, _⟩ := R0
  have rf0 := rf 0
  have rf1 := rf 1
  have rf2 := rf 2
  have rf3 := rf 3
  clear h1 g1 s1 B0 rf
  go_enter Tryd.func15, Tryd.ntmps15
  obtain ⟨t0, t1, t2, t3, _, _⟩ := id RX
  clear RX
  unfold four at hWX
  go_wp2_with fail
  exact bodyPost_ret (v := .agg #[.bool d1, .slice e1 m1 q1, .bool false, .slice a1 k1 c1]) (by simp [results, Tryd.results15, go_sem, t0, t1, t2, t3]) rfl PP.out
end Go.Proofs.YtfijhkaalpinhaaDoor
