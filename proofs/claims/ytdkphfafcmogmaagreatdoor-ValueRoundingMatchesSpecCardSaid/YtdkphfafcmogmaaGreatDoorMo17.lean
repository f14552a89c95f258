/-
  Numbers of the reference: over.
  Numbers of the reference: the greatest number that divides both.
  Ratios of package value: the fraction that a ratio writes.
-/
import Derived.Test.YtdkphfafcmogmaaGreatDoorMo16
import Derived.Test.YtdkphfafcmogmaaGreatDoorMo14
namespace Go.Proofs.YtdkphfafcmogmaaGreatDoor
open Go.RowKit

theorem Bt.below {W W' : World} {g K : Nat} {f : Nat → Nat} (h : Bt W g K f) (hb : Below W.heap.size W W') : Bt W' g K f :=
  ⟨Nat.lt_of_lt_of_le h.1 hb.size, h.2.1, fun j hj => ⟨(hb.cell (p := ⟨g, j, none⟩) h.1).trans (h.2.2 j hj).1, (hb.frozen (p := ⟨g, j, none⟩) h.1).trans (h.2.2 j hj).2⟩⟩
theorem Nt.store {W : World} {b o k c n g i : Nat} (h : Nt W (some ⟨b, o, none⟩) k c n) (hne : b ≠ g) (v : Value) : Nt (W.setCell ⟨g, i, none⟩ v) (some ⟨b, o, none⟩) k c n := by
  obtain ⟨f, h1, h2⟩ := h
  refine ⟨f, ⟨h1.1, h1.2.1, fun h0 => ?_⟩, h2⟩
  obtain ⟨b', o', e, hl, hc⟩ := h1.2.2 h0
  refine ⟨b', o', e, by simpa using hl, fun j hj => ?_⟩
  injection e with e
  injection e with e1 e2
  rw [World.cell?_setCell_other _ _ _ _ (by intro e3; injection e3 with e4 _; omega)]
  exact hc j hj
theorem win_cell0 {W : World} {b o k : Nat} {f : Nat → Nat} (h : Rj W (some ⟨b, o, none⟩) k f) {M i : Nat} {u : Value} (hM : M ≤ k) (hu : (dvals (from_ f 0) M)[i]? = some u) : W.cell? ⟨b, o + i, none⟩ = some u := by
  obtain ⟨l, rfl⟩ := dvals_get hu
  obtain ⟨b', o', e, _, hc⟩ := h.at_ (show i < k by omega)
  injection e with e
  injection e with e1 e2
  subst e1 e2
  rw [hc]
  unfold from_
  rw [Nat.zero_add]
/-- What over's loop keeps. -/
structure Qv (w : World) (g0 P : Nat) (f1 : Nat → Nat) (k1 n2 j R gb go rk rc : Nat) (F : Nat → Nat) (wr : World) : Prop where
  bt : Bt wr g0 P F
  bel : Below w.heap.size w wr
  rest : Nt wr (some ⟨gb, go, none⟩) rk rc R
  lt : R < n2
  ne : gb ≠ g0
  low : ∀ q, q < j → F q = 0
  eq : Tn (from_ f1 j) (k1 - j) = Tn (from_ F j) (P - j) * n2 + R
/-- What the search of a digit keeps. -/
structure Sv (w : World) (g0 P : Nat) (F : Nat → Nat) (g6 m6 cap6 x : Nat) (wr : World) : Prop where
  bt : Bt wr g0 P F
  bel : Below w.heap.size w wr
  rest : Nt wr (some ⟨g6, 0, none⟩) m6 cap6 x
theorem Sv.keep {w : World} {g0 P : Nat} {F : Nat → Nat} {g6 m6 cap6 x : Nat} {wr W : World} (h : Sv w g0 P F g6 m6 cap6 x wr) (hb : Below wr.heap.size wr W) : Sv w g0 P F g6 m6 cap6 x W :=
  ⟨h.bt.below hb, h.bel.trans (hb.mono h.bel.size), h.rest.below hb⟩
theorem sgn_le {x y : Nat} (h : x ≤ y) : sgn x y ≤ 0 := by
  rcases Nat.eq_or_lt_of_le h with e | e
  · rw [e, sgn_eq]; omega
  · rw [sgn_lt e]; omega
set_option maxRecDepth 100000 in
set_option maxHeartbeats 8000000 in
theorem nover_ge (b1 o1 : Nat) (a2 : Option Addr) (k1 k2 c1 c2 n1 n2 : Nat) (w : World) (h1 : Nt w (some ⟨b1, o1, none⟩) k1 c1 n1) (h2 : Nt w a2 k2 c2 n2) (hle : n2 ≤ n1) (hd : 0 < n2) (hk : k1 ≤ 99000) :
    Calls Tryz.prog 58 #[.slice (some ⟨b1, o1, none⟩) k1 c1, .slice a2 k2 c2] w (OvPost (n1 / n2) (n1 % n2) w) := by
  obtain ⟨i0, hi, hz0, hz1, hz2⟩ := info_int
  have hk2p : 0 < k2 := h2.one hd
  have hk21 : k2 ≤ k1 := h2.len (Nat.lt_of_le_of_lt hle h1.lt)
  obtain ⟨f1, r1, hkc, hc9, ht1, s1, _⟩ := id h1
  obtain ⟨P, hP⟩ : ∃ P, k1 - k2 + 1 = P := ⟨_, rfl⟩
  obtain ⟨M, hM⟩ : ∃ M, k2 - 1 = M := ⟨_, rfl⟩
  obtain ⟨C, hC⟩ : ∃ C, c1 - P = C := ⟨_, rfl⟩
  have eP : (k1 : Int) - (k2 : Int) + 1 = (P : Int) := by omega
  have eM : (k1 : Int) - (P : Int) = (M : Int) := by omega
  have eC : (c1 : Int) - (P : Int) = (C : Int) := by omega
  have eM' : k1 - P = M := by omega
  have hPk : P ≤ k1 := by omega
  have hPi : (P : Int) ≤ (k1 : Int) := by omega
  obtain ⟨sg, hsg⟩ : ∃ s, sgn n1 n2 = s := ⟨_, rfl⟩
  have hsg0 : ¬ sg < 0 := by
    rw [← hsg]
    rcases Nat.eq_or_lt_of_le hle with e | e
    · rw [e, sgn_eq]; omega
    · rw [sgn_gt e]; omega
  have HO := norder_c (some ⟨b1, o1, none⟩) a2 k1 k2 c1 c2 n1 n2 w h1 h2
  rw [hsg] at HO
  have HO := Lib.hid HO
  have R1 := Lib.hid r1
  have H2 := Lib.hid h2
  have HLE := Lib.hid hle
  have HD := Lib.hid hd
  have S1 := Lib.hid s1
  have T1 := Lib.hid ht1
  have hmk := fun w => mk_digits P (by omega) w
  clear h1 h2 hle hd r1 s1 ht1 hsg
  by_cases hCP : c1 = P
  · obtain rfl : M = 0 := by omega
    obtain rfl : C = 0 := by omega
    obtain rfl : P = c1 := hCP.symm
    have eM0 : (k1 : Int) - (P : Int) = 0 := by omega
    have eC0 : (P : Int) - (P : Int) = 0 := by omega
    clear eM eC
    go_enter Tryz.func58, Tryz.ntmps58
    go_wp2_with fail
    refine HO.out.mono ?_
    rintro e w1 ⟨rfl, q0, hw1⟩
    have B1 : Hid (Below w.heap.size w w1) := by rw [hw1]; exact bel_drewN _ _
    have R1' := Lib.hid (R1.out.below B1.out)
    have H2' := Lib.hid (H2.out.below B1.out)
    clear hw1 HO
    obtain ⟨W2, hW2⟩ : ∃ W, w1.alloc (.cells (madeCells #[.int .i64 0] P) 3) = W := ⟨_, rfl⟩
    have BT : Hid (Bt W2 w1.heap.size P (fun _ => 0)) := by rw [← hW2]; exact Bt.made _ _ _
    have B12 : Hid (Below w1.heap.size w1 W2) := by rw [← hW2]; exact bel_one _ _
    obtain ⟨W3, hW3⟩ : ∃ W, W2.alloc (.cells #[] 3) = W := ⟨_, rfl⟩
    have OW : Hid (W3.ownsRow W2.heap.size 3 1 (.slice (some ⟨W2.heap.size, 0, none⟩) 0 0) 0 []) := by rw [← hW3]; exact World.ownsRow_lit W2 #[] 0 (Nat.le_refl _) (by decide) rfl
    have B23 : Hid (Below W2.heap.size W2 W3) := by rw [← hW3]; exact bel_one _ _
    have hW2s := B23.out.size
    go_wp2_with (at_builtin; refine wpList_append_own _ rfl _ _ 50 rfl W2.heap.size 3 i0 (.int .i64 0) 1 8 Tryz.underlying50 hi hz0 hz1 hz2 rfl (by decide) _ _ _ rfl OW.out ⟨b1, o1, none⟩ 0 0 [] rfl rfl ?c1 ?c2 ?c3 ?c4 ?c5 ?_)
    try (case c1 => intro i u hu; simp at hu)
    try (case c2 => intro u hu; simp at hu)
    try (case c3 => unfold maxLen; omega)
    try (case c4 => omega)
    try (case c5 => exact hW2s)
    intro v' w4 hown' hgrow hnil
    have hown' : w4.ownsRow W2.heap.size 3 1 v' 0 (dvals (from_ f1 P) 0) := by first | exact hown' | (rw [Nat.zero_add] at hown'; exact hown')
    obtain ⟨gb, cap, rfl, hg1, hg2, hR4, hcap, hcap9⟩ := row_open (f := from_ f1 P) hown' hnil (by omega) (fun j hj => R1'.out.2.1 (P + j) (by omega))
    have B24 : Hid (Below W2.heap.size W2 w4) := B23.out.grown hgrow hW2s (fun b hb => by simp [Value.ownBlock] at hb; omega)
    have hW12 := B12.out.size
    have hW01 := B1.out.size
    have BB4 := Lib.hid ((B1.out.trans (B12.out.mono B1.out.size)).trans (B24.out.mono (by omega)))
    have OV0 : Hid (Qv w w1.heap.size P f1 k1 n2 P (Tn (from_ f1 P) 0) gb 0 0 cap (fun _ => 0) w4) := by
      refine ⟨BT.out.below B24.out, BB4.out, ⟨from_ f1 P, hR4, hcap, hcap9, ?_, rfl, Pl.some_ _ _⟩, ?_, ?_, fun _ _ => rfl, ?_⟩
      · rcases Nat.eq_zero_or_pos 0 with e | e
        · exact .inl e
        · refine .inr ?_
          rcases T1.out with t | t
          · omega
          · show f1 (P + (0 - 1)) ≠ 0
            rw [show P + (0 - 1) = k1 - 1 by omega]; exact t
      · have a := Tn_lt (f := from_ f1 P) (k := 0) (fun j hj => R1'.out.2.1 (P + j) (by omega))
        have b := H2'.out.pos hk2p
        rw [hM] at b
        omega
      · have := BT.out.1; omega
      · rw [eM', Nat.sub_self, show Tn (from_ (fun _ => 0) P) 0 = 0 from rfl, Nat.zero_mul, Nat.zero_add]
    obtain ⟨R0, hR0⟩ : ∃ R, Tn (from_ f1 P) 0 = R := ⟨_, rfl⟩
    rw [hR0] at OV0
    have hgw : w.heap.size ≤ w1.heap.size := B1.out.size
    clear hown' hgrow hnil hR4 hg1 hg2 BT B24 B12 B23 OW BB4 hW2 hW3 hmk hW2s hW12 hW01 R1' H2' B1 hR0
    obtain ⟨g0, hg0⟩ : ∃ g, w1.heap.size = g := ⟨_, rfl⟩
    rw [hg0] at OV0 hgw
    go_wp2_with fail
    rw [hg0]
    clear hg0
    go_loopw [8, 9] (fun v i wr => ∃ (j R gb go rk rc : Nat) (F : Nat → Nat), j ≤ P ∧ v = .slice (some ⟨gb, go, none⟩) rk rc ∧ i = .int .i64 ((j : Int) - 1) ∧ Hid (Qv w g0 P f1 k1 n2 j R gb go rk rc F wr)) (fun _ i _ => (intOf i + 1).toNat)
    case atStart => exact ⟨P, R0, gb, 0, 0, cap, fun _ => 0, Nat.le_refl _, rfl, rfl, OV0.out⟩
    case round =>
      clear OV0
      obtain ⟨j, R, gb, go, rk, rc, F, hj, rfl, rfl, hO⟩ := hrel
      rcases Nat.eq_zero_or_pos j with e | e
      · subst e
        have E : Hid (Tn F P = n1 / n2 ∧ R = n1 % n2) := by
          have h := hO.out.eq
          rw [Nat.sub_zero, Nat.sub_zero] at h
          have e1 : Tn (from_ f1 0) k1 = n1 := by rw [← S1.out]; exact Tn_congr fun i _ => by unfold from_; rw [Nat.zero_add]
          have e2 : Tn (from_ F 0) P = Tn F P := Tn_congr fun i _ => by unfold from_; rw [Nat.zero_add]
          rw [e1, e2] at h
          exact over_done h hO.out.lt
        have HT := Lib.hid (ntrim_c (some ⟨g0, 0, none⟩) P P F wr (hO.out.bt.rj (by omega)) (Nat.le_refl _) (by omega) (Pl.some_ _ _))
        go_wp2_with fail
        refine HT.out.mono ?_
        rintro e w5 ⟨m, rfl, hN, rfl⟩
        rw [E.out.1] at hN
        have RR : Hid (OvPost (n1 / n2) (n1 % n2) w (.returned (.tuple #[.slice (some ⟨g0, 0, none⟩) m P, .slice (some ⟨gb, go, none⟩) rk rc])) wr) := ⟨_, _, _, _, _, _, rfl, hN, by rw [← E.out.2]; exact hO.out.rest, hO.out.bel⟩
        clear hN HT hO
        go_wp2
        go_ret2
        exact RR.out
      · obtain ⟨p, rfl⟩ : ∃ p, j = p + 1 := ⟨j - 1, by omega⟩
        have ei : ((p + 1 : Nat) : Int) - 1 = (p : Int) := by omega
        rw [ei]
        have hpP : p < P := by omega
        have hpk : p < k1 := by omega
        have tpk : (p : Int) < (k1 : Int) := by omega
        obtain ⟨bx, ox, ex, _, g1⟩ := (R1.out.below hO.out.bel).at_ hpk
        injection ex with ex
        injection ex with ex1 ex2
        subst ex1 ex2
        have hx9 := R1.out.2.1 p hpk
        obtain ⟨x0, hx0⟩ : ∃ x, f1 p = x := ⟨_, rfl⟩
        rw [hx0] at g1 hx9
        have HX0 := Lib.hid hx0
        clear hx0
        have hrk : rk ≤ k2 := hO.out.rest.len (Nat.lt_trans hO.out.lt H2.out.lt)
        obtain ⟨fr, hfr, hrkc, hrc9, _, hfs, _⟩ := id hO.out.rest
        have FR := Lib.hid hfr
        have FS := Lib.hid hfs
        clear hfr hfs
        obtain ⟨W5, hW5⟩ : ∃ W, wr.alloc (.cells #[.int .i64 (x0 : Int)] 3) = W := ⟨_, rfl⟩
        have OW5 : Hid (W5.ownsRow wr.heap.size 3 1 (.slice (some ⟨wr.heap.size, 0, none⟩) 1 1) 1 [.int .i64 (x0 : Int)]) := by rw [← hW5]; exact World.ownsRow_lit wr #[.int .i64 (x0 : Int)] 1 (Nat.le_refl _) (by decide) rfl
        have B5 : Hid (Below wr.heap.size wr W5) := by rw [← hW5]; exact bel_one _ _
        have hW5s := B5.out.size
        go_wp2_with (at_builtin; refine wpList_append_own _ rfl _ _ 50 rfl wr.heap.size 3 i0 (.int .i64 0) 1 8 Tryz.underlying50 hi hz0 hz1 hz2 rfl (by decide) _ _ _ rfl OW5.out ⟨gb, go, none⟩ rk rc (dvals (from_ fr 0) rk) rfl (by simp [dvals]) ?d1Z ?d2Z ?d3Z ?d4Z ?d5Z ?_)
        try (case d1Z => intro i u hu; first | exact win_cell0 (FR.out.below B5.out) (Nat.le_refl _) hu | exact win_cell (P := 0) (FR.out.below B5.out) (by omega) hu)
        try (case d2Z => intro u hu; exact dvals_cell hu)
        try (case d3Z => unfold maxLen; omega)
        try (case d4Z => omega)
        try (case d5Z => exact hW5s)
        intro v6 w6 hown6 hgrow6 hnil6
        have hown6 : w6.ownsRow wr.heap.size 3 1 v6 (1 + rk) (dvals (front x0 (from_ fr 0)) (1 + rk)) := by rw [dvals_front]; exact hown6
        obtain ⟨g6, cap6, rfl, hg61, hg62, hR6, hcap6, hcap69⟩ := row_open hown6 hnil6 (by omega) (by rw [Nat.add_comm]; exact ld_front hx9 (fun j hj => FR.out.2.1 (0 + j) (by omega)))
        have B56 : Hid (Below wr.heap.size wr w6) := B5.out.grown hgrow6 hW5s (fun b hb => by simp [Value.ownBlock] at hb; omega)
        have B6 := Lib.hid (hO.out.bel.trans (B56.out.mono hO.out.bel.size))
        obtain ⟨x, hx⟩ : ∃ x, x0 + 1000000000 * R = x := ⟨_, rfl⟩
        have EX : Tn (front x0 (from_ fr 0)) (1 + rk) = x := by
          rw [Nat.add_comm, Tn_fronts, ← hx, ← FS.out]
          rw [Tn_congr (f := from_ fr 0) (g := fr) fun i _ => by unfold from_; rw [Nat.zero_add]]
        have HT6 := ntrim_c (some ⟨g6, 0, none⟩) (1 + rk) cap6 _ w6 hR6 hcap6 hcap69 (Pl.some_ _ _)
        rw [EX] at HT6
        have HT6 := Lib.hid HT6
        have HX := Lib.hid hx
        have hg6 : g6 ≠ g0 := by have := hO.out.bt.1; omega
        have HBT6 := Lib.hid (hO.out.bt.below B56.out)
        have HOE := Lib.hid hO.out.eq
        have HOL := Lib.hid hO.out.low
        have HOR := Lib.hid hO.out.lt
        have hwr := hO.out.bel.size
        clear hown6 hgrow6 hnil6 hR6 EX hx g1 OW5 hW5 hW5s B5 B56 FR FS hO hg61 hg62 hcap6
        go_wp2_with fail
        refine HT6.out.mono ?_
        rintro e w7 ⟨m6, rfl, hN6, rfl⟩
        have HO7 := norder_c (some ⟨g6, 0, none⟩) a2 m6 k2 cap6 c2 x n2 w6 hN6 (H2.out.below B6.out)
        have N6 := Lib.hid hN6
        clear hN6 HT6
        by_cases hxd : x < n2
        · rw [sgn_lt hxd] at HO7
          have HO7 := Lib.hid HO7
          have NX : ∀ q8, Hid (Qv w g0 P f1 k1 n2 p x g6 0 m6 cap6 F (w6.drewN q8)) := fun q8 =>
            ⟨HBT6.out.drew q8, below_drewN B6.out q8, N6.out.below (bel_drewN _ _), hxd, hg6, fun q hq => HOL.out q (by omega), over_step hpP hpk (by rw [HX0.out, HX.out]) HOE.out (q := 0) (by omega) (HOL.out p (by omega))⟩
          clear HBT6 B6 N6 HOE HOL HOR HX
          go_wp2_with fail
          refine HO7.out.mono ?_
          rintro e w8 ⟨rfl, q8, rfl⟩
          have NX := NX q8
          clear HO7
          go_wp2
          go_roundw
          case rel => exact ⟨p, x, g6, 0, m6, cap6, F, by omega, rfl, by go_num, NX.out⟩
          case measure => simp [intOf]
        · obtain ⟨s2, hs2⟩ : ∃ s, sgn x n2 = s := ⟨_, rfl⟩
          rw [hs2] at HO7
          have hs20 : ¬ s2 < 0 := by
            rw [← hs2]
            rcases Nat.eq_or_lt_of_le (Nat.le_of_not_lt hxd) with e | e
            · rw [← e, sgn_eq]; omega
            · rw [sgn_gt e]; omega
          have HO7 := Lib.hid HO7
          clear hs2
          obtain ⟨q, hq⟩ : ∃ q, x / n2 = q := ⟨_, rfl⟩
          have hq9 : q ≤ 999999999 := by
            have := digit_lt HD.out HX.out.symm hx9 HOR.out
            omega
          have HQ := Lib.hid hq
          have HXD := Lib.hid hxd
          clear hq hxd
          go_wp2_with fail
          refine HO7.out.mono ?_
          rintro e w8 ⟨rfl, q8, hw8⟩
          have SV8 : Hid (Sv w g0 P F g6 m6 cap6 x w8) := by rw [hw8]; exact ⟨HBT6.out.drew q8, below_drewN B6.out q8, N6.out.below (bel_drewN _ _)⟩
          clear HO7 hw8 HBT6 B6 N6
          go_wp2_with fail
          go_loopw [10, 11] (fun l h wi => ∃ lo hi : Nat, lo ≤ q ∧ q ≤ hi ∧ hi ≤ 999999999 ∧ l = .int .i64 lo ∧ h = .int .i64 hi ∧ Hid (Sv w g0 P F g6 m6 cap6 x wi)) (fun l h _ => (intOf h - intOf l).toNat)
          case atStart => exact ⟨0, 999999999, by omega, hq9, by omega, rfl, rfl, SV8.out⟩
          case round =>
            clear SV8
            obtain ⟨lo, hi', hlo, hhi, hhi9, rfl, rfl, hS⟩ := hrel
            by_cases hlt : lo < hi'
            · obtain ⟨s3, hs3⟩ : ∃ s, lo + hi' + 1 = s := ⟨_, rfl⟩
              obtain ⟨n, hn⟩ : ∃ n, s3 / 2 = n := ⟨_, rfl⟩
              have e3 : (lo : Int) + (hi' : Int) + 1 = (s3 : Int) := by omega
              have e4 : (s3 : Int).tdiv 2 = (n : Int) := by rw [Int.tdiv_eq_ediv_of_nonneg (by omega)]; omega
              have hn1 : lo < n := by omega
              have hn2 : n ≤ hi' := by omega
              have tlt : (lo : Int) < (hi' : Int) := by omega
              have hs39 : s3 < 2000000000 := by omega
              clear hs3 hn
              have HSM := Lib.hid (nsmall_c n wr (by omega))
              go_wp2_with fail
              refine HSM.out.mono ?_
              rintro e v1 ⟨sa, ks, cs, rfl, hN1, c1'⟩
              have S1' := Lib.hid (hS.out.keep c1')
              have hks : ks ≤ 1 := hN1.len (by rw [tp_one]; omega)
              have HTM := Lib.hid (ntimes_c a2 sa k2 ks c2 cs n2 n v1 (H2.out.below S1'.out.bel) hN1 (by omega))
              clear HSM hN1 c1' hS
              go_wp2_with fail
              refine HTM.out.mono ?_
              rintro e v2 ⟨ta, kt, ct, rfl, hN2, c2'⟩
              have S2' := Lib.hid (S1'.out.keep c2')
              have HOR2 := norder_c ta (some ⟨g6, 0, none⟩) kt m6 ct cap6 (n2 * n) x v2 hN2 S2'.out.rest
              clear HTM hN2 c2' S1'
              by_cases hle : n2 * n ≤ x
              · obtain ⟨s5, hs5⟩ : ∃ s, sgn (n2 * n) x = s := ⟨_, rfl⟩
                have h5 : s5 ≤ 0 := by rw [← hs5]; exact sgn_le hle
                have hnq : n ≤ q := by rw [← HQ.out]; exact search_up HD.out hle
                rw [hs5] at HOR2
                have HOR2 := Lib.hid HOR2
                clear hs5 hle
                go_wp2_with fail
                refine HOR2.out.mono ?_
                rintro e v3 ⟨rfl, q3, rfl⟩
                have S3' := Lib.hid (S2'.out.keep (bel_drewN v2 q3))
                clear HOR2 S2'
                go_wp2
                go_roundw
                case rel => exact ⟨n, hi', hnq, hhi, hhi9, rfl, rfl, S3'.out⟩
                case measure => simp [intOf]; omega
              · obtain ⟨s5, hs5⟩ : ∃ s, sgn (n2 * n) x = s := ⟨_, rfl⟩
                have h5 : ¬ s5 ≤ 0 := by rw [← hs5, sgn_gt (by omega)]; omega
                have hnq : q ≤ n - 1 := by rw [← HQ.out]; exact search_down HD.out (by omega)
                obtain ⟨n', rfl⟩ : ∃ n', n = n' + 1 := ⟨n - 1, by omega⟩
                have en : ((n' + 1 : Nat) : Int) - 1 = (n' : Int) := by omega
                rw [hs5] at HOR2
                have HOR2 := Lib.hid HOR2
                clear hs5 hle
                go_wp2_with fail
                refine HOR2.out.mono ?_
                rintro e v3 ⟨rfl, q3, rfl⟩
                have S3' := Lib.hid (S2'.out.keep (bel_drewN v2 q3))
                clear HOR2 S2'
                go_wp2
                go_roundw
                case rel => exact ⟨lo, n', hlo, by omega, by omega, rfl, by go_num, S3'.out⟩
                case measure => simp [intOf]; omega
            · obtain rfl : lo = q := by omega
              have tlt : ¬ (lo : Int) < (hi' : Int) := by omega
              have hB := hS.out.bt.2.2 p hpP
              have hb := hB.1
              have hf := hB.2
              clear hB
              obtain ⟨W9, hW9⟩ : ∃ W, wr.setCell ⟨g0, p, none⟩ (.int .i64 (lo : Int)) = W := ⟨_, rfl⟩
              have S9 : Hid (Sv w g0 P (put F p lo) g6 m6 cap6 x W9) := by
                rw [← hW9]
                exact ⟨hS.out.bt.put hpP (by omega), hS.out.bel.setCell (p := ⟨g0, p, none⟩) hgw _, hS.out.rest.store hg6 _⟩
              have HSM := Lib.hid (nsmall_c lo W9 (by omega))
              clear hS
              go_wp2_with fail
              clear hW9 hb hf
              refine HSM.out.mono ?_
              rintro e v1 ⟨sa, ks, cs, rfl, hN1, c1'⟩
              have S1' := Lib.hid (S9.out.keep c1')
              have hks : ks ≤ 1 := hN1.len (by rw [tp_one]; omega)
              have HTM := Lib.hid (ntimes_c a2 sa k2 ks c2 cs n2 lo v1 (H2.out.below S1'.out.bel) hN1 (by omega))
              clear HSM hN1 c1' S9
              go_wp2_with fail
              refine HTM.out.mono ?_
              rintro e v2 ⟨ta, kt, ct, rfl, hN2, c2'⟩
              have S2' := Lib.hid (S1'.out.keep c2')
              have hql : n2 * lo ≤ x := by rw [← HQ.out]; exact Nat.mul_div_le x n2
              have hm6p : 0 < m6 := S2'.out.rest.one (by have := HXD.out; have := HD.out; omega)
              have hm6 : m6 ≤ k2 + 1 := S2'.out.rest.len (by
                have a := H2.out.lt
                have b : 1000000000 * (n2 + 0) ≤ 1000000000 * tp k2 := Nat.mul_le_mul_left _ (by omega)
                have c : 1000000000 * (R + 1) ≤ 1000000000 * n2 := Nat.mul_le_mul_left _ HOR.out
                have d := HX.out
                rw [tp_succ, Nat.mul_comm]
                omega)
              have HM := Lib.hid (nminus_f (some ⟨g6, 0, none⟩) ta m6 kt cap6 ct x (n2 * lo) v2 S2'.out.rest hN2 hql (by omega))
              have hg0v : g0 < v2.heap.size := S2'.out.bt.1
              clear HTM hN2 c2' S1'
              go_wp2_with fail
              refine HM.out.mono ?_
              rintro e v3 ⟨ar, kr, cr, rfl, hN3, c3', hfr3, hsm3⟩
              obtain ⟨br, ro, rfl⟩ := hsm3 hm6p
              have hbr : br ≠ g0 := by have := hfr3 br ro rfl; omega
              have NX : Hid (Qv w g0 P f1 k1 n2 p (x - n2 * lo) br ro kr cr (put F p lo) v3) := by
                have dr := digit_rest (x := x) (d := n2)
                rw [HQ.out] at dr
                refine ⟨S2'.out.bt.below c3', S2'.out.bel.trans (c3'.mono S2'.out.bel.size), hN3, dr.2 HD.out, hbr, fun i hi => by rw [put_ne (by omega)]; exact HOL.out i (by omega), ?_⟩
                have E1 : Tn (from_ (put F p lo) (p + 1)) (P - (p + 1)) = Tn (from_ F (p + 1)) (P - (p + 1)) := Tn_congr fun i _ => by unfold from_; rw [put_ne (by omega)]
                exact over_step hpP hpk (by rw [HX0.out, HX.out]) (by rw [E1]; exact HOE.out) dr.1 (put_same _ _ _)
              clear HM hN3 c3' hfr3 hsm3 S2'
              go_wp2
              go_roundw
              case rel => exact ⟨p, x - n2 * lo, br, ro, kr, cr, put F p lo, by omega, rfl, by go_num, NX.out⟩
              case measure => simp [intOf]
  · go_enter Tryz.func58, Tryz.ntmps58
    go_wp2_with fail
    refine HO.out.mono ?_
    rintro e w1 ⟨rfl, q0, hw1⟩
    have B1 : Hid (Below w.heap.size w w1) := by rw [hw1]; exact bel_drewN _ _
    have R1' := Lib.hid (R1.out.below B1.out)
    have H2' := Lib.hid (H2.out.below B1.out)
    clear hw1 HO
    obtain ⟨W2, hW2⟩ : ∃ W, w1.alloc (.cells (madeCells #[.int .i64 0] P) 3) = W := ⟨_, rfl⟩
    have BT : Hid (Bt W2 w1.heap.size P (fun _ => 0)) := by rw [← hW2]; exact Bt.made _ _ _
    have B12 : Hid (Below w1.heap.size w1 W2) := by rw [← hW2]; exact bel_one _ _
    obtain ⟨W3, hW3⟩ : ∃ W, W2.alloc (.cells #[] 3) = W := ⟨_, rfl⟩
    have OW : Hid (W3.ownsRow W2.heap.size 3 1 (.slice (some ⟨W2.heap.size, 0, none⟩) 0 0) 0 []) := by rw [← hW3]; exact World.ownsRow_lit W2 #[] 0 (Nat.le_refl _) (by decide) rfl
    have B23 : Hid (Below W2.heap.size W2 W3) := by rw [← hW3]; exact bel_one _ _
    have hW2s := B23.out.size
    go_wp2_with (at_builtin; refine wpList_append_own _ rfl _ _ 50 rfl W2.heap.size 3 i0 (.int .i64 0) 1 8 Tryz.underlying50 hi hz0 hz1 hz2 rfl (by decide) _ _ _ rfl OW.out ⟨b1, o1 + P, none⟩ M C (dvals (from_ f1 P) M) rfl (by simp [dvals]) ?c1 ?c2 ?c3 ?c4 ?c5 ?_)
    try (case c1 => intro i u hu; exact win_cell ((R1'.out.below B12.out).below B23.out) (by omega) hu)
    try (case c2 => intro u hu; exact dvals_cell hu)
    try (case c3 => unfold maxLen; omega)
    try (case c4 => omega)
    try (case c5 => exact hW2s)
    intro v' w4 hown' hgrow hnil
    have hown' : w4.ownsRow W2.heap.size 3 1 v' M (dvals (from_ f1 P) M) := by first | exact hown' | (rw [Nat.zero_add] at hown'; exact hown')
    obtain ⟨gb, cap, rfl, hg1, hg2, hR4, hcap, hcap9⟩ := row_open (f := from_ f1 P) hown' hnil (by omega) (fun j hj => R1'.out.2.1 (P + j) (by omega))
    have B24 : Hid (Below W2.heap.size W2 w4) := B23.out.grown hgrow hW2s (fun b hb => by simp [Value.ownBlock] at hb; omega)
    have hW12 := B12.out.size
    have hW01 := B1.out.size
    have BB4 := Lib.hid ((B1.out.trans (B12.out.mono B1.out.size)).trans (B24.out.mono (by omega)))
    have OV0 : Hid (Qv w w1.heap.size P f1 k1 n2 P (Tn (from_ f1 P) M) gb 0 M cap (fun _ => 0) w4) := by
      refine ⟨BT.out.below B24.out, BB4.out, ⟨from_ f1 P, hR4, hcap, hcap9, ?_, rfl, Pl.some_ _ _⟩, ?_, ?_, fun _ _ => rfl, ?_⟩
      · rcases Nat.eq_zero_or_pos M with e | e
        · exact .inl e
        · refine .inr ?_
          rcases T1.out with t | t
          · omega
          · show f1 (P + (M - 1)) ≠ 0
            rw [show P + (M - 1) = k1 - 1 by omega]; exact t
      · have a := Tn_lt (f := from_ f1 P) (k := M) (fun j hj => R1'.out.2.1 (P + j) (by omega))
        have b := H2'.out.pos hk2p
        rw [hM] at b
        omega
      · have := BT.out.1; omega
      · rw [eM', Nat.sub_self, show Tn (from_ (fun _ => 0) P) 0 = 0 from rfl, Nat.zero_mul, Nat.zero_add]
    obtain ⟨R0, hR0⟩ : ∃ R, Tn (from_ f1 P) M = R := ⟨_, rfl⟩
    rw [hR0] at OV0
    have hgw : w.heap.size ≤ w1.heap.size := B1.out.size
    clear hown' hgrow hnil hR4 hg1 hg2 BT B24 B12 B23 OW BB4 hW2 hW3 hmk hW2s hW12 hW01 R1' H2' B1 hR0
    obtain ⟨g0, hg0⟩ : ∃ g, w1.heap.size = g := ⟨_, rfl⟩
    rw [hg0] at OV0 hgw
    go_wp2_with fail
    rw [hg0]
    clear hg0
    go_loopw [8, 9] (fun v i wr => ∃ (j R gb go rk rc : Nat) (F : Nat → Nat), j ≤ P ∧ v = .slice (some ⟨gb, go, none⟩) rk rc ∧ i = .int .i64 ((j : Int) - 1) ∧ Hid (Qv w g0 P f1 k1 n2 j R gb go rk rc F wr)) (fun _ i _ => (intOf i + 1).toNat)
    case atStart => exact ⟨P, R0, gb, 0, M, cap, fun _ => 0, Nat.le_refl _, rfl, rfl, OV0.out⟩
    case round =>
      clear OV0
      obtain ⟨j, R, gb, go, rk, rc, F, hj, rfl, rfl, hO⟩ := hrel
      rcases Nat.eq_zero_or_pos j with e | e
      · subst e
        have E : Hid (Tn F P = n1 / n2 ∧ R = n1 % n2) := by
          have h := hO.out.eq
          rw [Nat.sub_zero, Nat.sub_zero] at h
          have e1 : Tn (from_ f1 0) k1 = n1 := by rw [← S1.out]; exact Tn_congr fun i _ => by unfold from_; rw [Nat.zero_add]
          have e2 : Tn (from_ F 0) P = Tn F P := Tn_congr fun i _ => by unfold from_; rw [Nat.zero_add]
          rw [e1, e2] at h
          exact over_done h hO.out.lt
        have HT := Lib.hid (ntrim_c (some ⟨g0, 0, none⟩) P P F wr (hO.out.bt.rj (by omega)) (Nat.le_refl _) (by omega) (Pl.some_ _ _))
        go_wp2_with fail
        refine HT.out.mono ?_
        rintro e w5 ⟨m, rfl, hN, rfl⟩
        rw [E.out.1] at hN
        have RR : Hid (OvPost (n1 / n2) (n1 % n2) w (.returned (.tuple #[.slice (some ⟨g0, 0, none⟩) m P, .slice (some ⟨gb, go, none⟩) rk rc])) wr) := ⟨_, _, _, _, _, _, rfl, hN, by rw [← E.out.2]; exact hO.out.rest, hO.out.bel⟩
        clear hN HT hO
        go_wp2
        go_ret2
        exact RR.out
      · obtain ⟨p, rfl⟩ : ∃ p, j = p + 1 := ⟨j - 1, by omega⟩
        have ei : ((p + 1 : Nat) : Int) - 1 = (p : Int) := by omega
        rw [ei]
        have hpP : p < P := by omega
        have hpk : p < k1 := by omega
        have tpk : (p : Int) < (k1 : Int) := by omega
        obtain ⟨bx, ox, ex, _, g1⟩ := (R1.out.below hO.out.bel).at_ hpk
        injection ex with ex
        injection ex with ex1 ex2
        subst ex1 ex2
        have hx9 := R1.out.2.1 p hpk
        obtain ⟨x0, hx0⟩ : ∃ x, f1 p = x := ⟨_, rfl⟩
        rw [hx0] at g1 hx9
        have HX0 := Lib.hid hx0
        clear hx0
        have hrk : rk ≤ k2 := hO.out.rest.len (Nat.lt_trans hO.out.lt H2.out.lt)
        obtain ⟨fr, hfr, hrkc, hrc9, _, hfs, _⟩ := id hO.out.rest
        have FR := Lib.hid hfr
        have FS := Lib.hid hfs
        clear hfr hfs
        obtain ⟨W5, hW5⟩ : ∃ W, wr.alloc (.cells #[.int .i64 (x0 : Int)] 3) = W := ⟨_, rfl⟩
        have OW5 : Hid (W5.ownsRow wr.heap.size 3 1 (.slice (some ⟨wr.heap.size, 0, none⟩) 1 1) 1 [.int .i64 (x0 : Int)]) := by rw [← hW5]; exact World.ownsRow_lit wr #[.int .i64 (x0 : Int)] 1 (Nat.le_refl _) (by decide) rfl
        have B5 : Hid (Below wr.heap.size wr W5) := by rw [← hW5]; exact bel_one _ _
        have hW5s := B5.out.size
        go_wp2_with (at_builtin; refine wpList_append_own _ rfl _ _ 50 rfl wr.heap.size 3 i0 (.int .i64 0) 1 8 Tryz.underlying50 hi hz0 hz1 hz2 rfl (by decide) _ _ _ rfl OW5.out ⟨gb, go, none⟩ rk rc (dvals (from_ fr 0) rk) rfl (by simp [dvals]) ?d1N ?d2N ?d3N ?d4N ?d5N ?_)
        try (case d1N => intro i u hu; first | exact win_cell0 (FR.out.below B5.out) (Nat.le_refl _) hu | exact win_cell (P := 0) (FR.out.below B5.out) (by omega) hu)
        try (case d2N => intro u hu; exact dvals_cell hu)
        try (case d3N => unfold maxLen; omega)
        try (case d4N => omega)
        try (case d5N => exact hW5s)
        intro v6 w6 hown6 hgrow6 hnil6
        have hown6 : w6.ownsRow wr.heap.size 3 1 v6 (1 + rk) (dvals (front x0 (from_ fr 0)) (1 + rk)) := by rw [dvals_front]; exact hown6
        obtain ⟨g6, cap6, rfl, hg61, hg62, hR6, hcap6, hcap69⟩ := row_open hown6 hnil6 (by omega) (by rw [Nat.add_comm]; exact ld_front hx9 (fun j hj => FR.out.2.1 (0 + j) (by omega)))
        have B56 : Hid (Below wr.heap.size wr w6) := B5.out.grown hgrow6 hW5s (fun b hb => by simp [Value.ownBlock] at hb; omega)
        have B6 := Lib.hid (hO.out.bel.trans (B56.out.mono hO.out.bel.size))
        obtain ⟨x, hx⟩ : ∃ x, x0 + 1000000000 * R = x := ⟨_, rfl⟩
        have EX : Tn (front x0 (from_ fr 0)) (1 + rk) = x := by
          rw [Nat.add_comm, Tn_fronts, ← hx, ← FS.out]
          rw [Tn_congr (f := from_ fr 0) (g := fr) fun i _ => by unfold from_; rw [Nat.zero_add]]
        have HT6 := ntrim_c (some ⟨g6, 0, none⟩) (1 + rk) cap6 _ w6 hR6 hcap6 hcap69 (Pl.some_ _ _)
        rw [EX] at HT6
        have HT6 := Lib.hid HT6
        have HX := Lib.hid hx
        have hg6 : g6 ≠ g0 := by have := hO.out.bt.1; omega
        have HBT6 := Lib.hid (hO.out.bt.below B56.out)
        have HOE := Lib.hid hO.out.eq
        have HOL := Lib.hid hO.out.low
        have HOR := Lib.hid hO.out.lt
        have hwr := hO.out.bel.size
        clear hown6 hgrow6 hnil6 hR6 EX hx g1 OW5 hW5 hW5s B5 B56 FR FS hO hg61 hg62 hcap6
        go_wp2_with fail
        refine HT6.out.mono ?_
        rintro e w7 ⟨m6, rfl, hN6, rfl⟩
        have HO7 := norder_c (some ⟨g6, 0, none⟩) a2 m6 k2 cap6 c2 x n2 w6 hN6 (H2.out.below B6.out)
        have N6 := Lib.hid hN6
        clear hN6 HT6
        by_cases hxd : x < n2
        · rw [sgn_lt hxd] at HO7
          have HO7 := Lib.hid HO7
          have NX : ∀ q8, Hid (Qv w g0 P f1 k1 n2 p x g6 0 m6 cap6 F (w6.drewN q8)) := fun q8 =>
            ⟨HBT6.out.drew q8, below_drewN B6.out q8, N6.out.below (bel_drewN _ _), hxd, hg6, fun q hq => HOL.out q (by omega), over_step hpP hpk (by rw [HX0.out, HX.out]) HOE.out (q := 0) (by omega) (HOL.out p (by omega))⟩
          clear HBT6 B6 N6 HOE HOL HOR HX
          go_wp2_with fail
          refine HO7.out.mono ?_
          rintro e w8 ⟨rfl, q8, rfl⟩
          have NX := NX q8
          clear HO7
          go_wp2
          go_roundw
          case rel => exact ⟨p, x, g6, 0, m6, cap6, F, by omega, rfl, by go_num, NX.out⟩
          case measure => simp [intOf]
        · obtain ⟨s2, hs2⟩ : ∃ s, sgn x n2 = s := ⟨_, rfl⟩
          rw [hs2] at HO7
          have hs20 : ¬ s2 < 0 := by
            rw [← hs2]
            rcases Nat.eq_or_lt_of_le (Nat.le_of_not_lt hxd) with e | e
            · rw [← e, sgn_eq]; omega
            · rw [sgn_gt e]; omega
          have HO7 := Lib.hid HO7
          clear hs2
          obtain ⟨q, hq⟩ : ∃ q, x / n2 = q := ⟨_, rfl⟩
          have hq9 : q ≤ 999999999 := by
            have := digit_lt HD.out HX.out.symm hx9 HOR.out
            omega
          have HQ := Lib.hid hq
          have HXD := Lib.hid hxd
          clear hq hxd
          go_wp2_with fail
          refine HO7.out.mono ?_
          rintro e w8 ⟨rfl, q8, hw8⟩
          have SV8 : Hid (Sv w g0 P F g6 m6 cap6 x w8) := by rw [hw8]; exact ⟨HBT6.out.drew q8, below_drewN B6.out q8, N6.out.below (bel_drewN _ _)⟩
          clear HO7 hw8 HBT6 B6 N6
          go_wp2_with fail
          go_loopw [10, 11] (fun l h wi => ∃ lo hi : Nat, lo ≤ q ∧ q ≤ hi ∧ hi ≤ 999999999 ∧ l = .int .i64 lo ∧ h = .int .i64 hi ∧ Hid (Sv w g0 P F g6 m6 cap6 x wi)) (fun l h _ => (intOf h - intOf l).toNat)
          case atStart => exact ⟨0, 999999999, by omega, hq9, by omega, rfl, rfl, SV8.out⟩
          case round =>
            clear SV8
            obtain ⟨lo, hi', hlo, hhi, hhi9, rfl, rfl, hS⟩ := hrel
            by_cases hlt : lo < hi'
            · obtain ⟨s3, hs3⟩ : ∃ s, lo + hi' + 1 = s := ⟨_, rfl⟩
              obtain ⟨n, hn⟩ : ∃ n, s3 / 2 = n := ⟨_, rfl⟩
              have e3 : (lo : Int) + (hi' : Int) + 1 = (s3 : Int) := by omega
              have e4 : (s3 : Int).tdiv 2 = (n : Int) := by rw [Int.tdiv_eq_ediv_of_nonneg (by omega)]; omega
              have hn1 : lo < n := by omega
              have hn2 : n ≤ hi' := by omega
              have tlt : (lo : Int) < (hi' : Int) := by omega
              have hs39 : s3 < 2000000000 := by omega
              clear hs3 hn
              have HSM := Lib.hid (nsmall_c n wr (by omega))
              go_wp2_with fail
              refine HSM.out.mono ?_
              rintro e v1 ⟨sa, ks, cs, rfl, hN1, c1'⟩
              have S1' := Lib.hid (hS.out.keep c1')
              have hks : ks ≤ 1 := hN1.len (by rw [tp_one]; omega)
              have HTM := Lib.hid (ntimes_c a2 sa k2 ks c2 cs n2 n v1 (H2.out.below S1'.out.bel) hN1 (by omega))
              clear HSM hN1 c1' hS
              go_wp2_with fail
              refine HTM.out.mono ?_
              rintro e v2 ⟨ta, kt, ct, rfl, hN2, c2'⟩
              have S2' := Lib.hid (S1'.out.keep c2')
              have HOR2 := norder_c ta (some ⟨g6, 0, none⟩) kt m6 ct cap6 (n2 * n) x v2 hN2 S2'.out.rest
              clear HTM hN2 c2' S1'
              by_cases hle : n2 * n ≤ x
              · obtain ⟨s5, hs5⟩ : ∃ s, sgn (n2 * n) x = s := ⟨_, rfl⟩
                have h5 : s5 ≤ 0 := by rw [← hs5]; exact sgn_le hle
                have hnq : n ≤ q := by rw [← HQ.out]; exact search_up HD.out hle
                rw [hs5] at HOR2
                have HOR2 := Lib.hid HOR2
                clear hs5 hle
                go_wp2_with fail
                refine HOR2.out.mono ?_
                rintro e v3 ⟨rfl, q3, rfl⟩
                have S3' := Lib.hid (S2'.out.keep (bel_drewN v2 q3))
                clear HOR2 S2'
                go_wp2
                go_roundw
                case rel => exact ⟨n, hi', hnq, hhi, hhi9, rfl, rfl, S3'.out⟩
                case measure => simp [intOf]; omega
              · obtain ⟨s5, hs5⟩ : ∃ s, sgn (n2 * n) x = s := ⟨_, rfl⟩
                have h5 : ¬ s5 ≤ 0 := by rw [← hs5, sgn_gt (by omega)]; omega
                have hnq : q ≤ n - 1 := by rw [← HQ.out]; exact search_down HD.out (by omega)
                obtain ⟨n', rfl⟩ : ∃ n', n = n' + 1 := ⟨n - 1, by omega⟩
                have en : ((n' + 1 : Nat) : Int) - 1 = (n' : Int) := by omega
                rw [hs5] at HOR2
                have HOR2 := Lib.hid HOR2
                clear hs5 hle
                go_wp2_with fail
                refine HOR2.out.mono ?_
                rintro e v3 ⟨rfl, q3, rfl⟩
                have S3' := Lib.hid (S2'.out.keep (bel_drewN v2 q3))
                clear HOR2 S2'
                go_wp2
                go_roundw
                case rel => exact ⟨lo, n', hlo, by omega, by omega, rfl, by go_num, S3'.out⟩
                case measure => simp [intOf]; omega
            · obtain rfl : lo = q := by omega
              have tlt : ¬ (lo : Int) < (hi' : Int) := by omega
              have hB := hS.out.bt.2.2 p hpP
              have hb := hB.1
              have hf := hB.2
              clear hB
              obtain ⟨W9, hW9⟩ : ∃ W, wr.setCell ⟨g0, p, none⟩ (.int .i64 (lo : Int)) = W := ⟨_, rfl⟩
              have S9 : Hid (Sv w g0 P (put F p lo) g6 m6 cap6 x W9) := by
                rw [← hW9]
                exact ⟨hS.out.bt.put hpP (by omega), hS.out.bel.setCell (p := ⟨g0, p, none⟩) hgw _, hS.out.rest.store hg6 _⟩
              have HSM := Lib.hid (nsmall_c lo W9 (by omega))
              clear hS
              go_wp2_with fail
              clear hW9 hb hf
              refine HSM.out.mono ?_
              rintro e v1 ⟨sa, ks, cs, rfl, hN1, c1'⟩
              have S1' := Lib.hid (S9.out.keep c1')
              have hks : ks ≤ 1 := hN1.len (by rw [tp_one]; omega)
              have HTM := Lib.hid (ntimes_c a2 sa k2 ks c2 cs n2 lo v1 (H2.out.below S1'.out.bel) hN1 (by omega))
              clear HSM hN1 c1' S9
              go_wp2_with fail
              refine HTM.out.mono ?_
              rintro e v2 ⟨ta, kt, ct, rfl, hN2, c2'⟩
              have S2' := Lib.hid (S1'.out.keep c2')
              have hql : n2 * lo ≤ x := by rw [← HQ.out]; exact Nat.mul_div_le x n2
              have hm6p : 0 < m6 := S2'.out.rest.one (by have := HXD.out; have := HD.out; omega)
              have hm6 : m6 ≤ k2 + 1 := S2'.out.rest.len (by
                have a := H2.out.lt
                have b : 1000000000 * (n2 + 0) ≤ 1000000000 * tp k2 := Nat.mul_le_mul_left _ (by omega)
                have c : 1000000000 * (R + 1) ≤ 1000000000 * n2 := Nat.mul_le_mul_left _ HOR.out
                have d := HX.out
                rw [tp_succ, Nat.mul_comm]
                omega)
              have HM := Lib.hid (nminus_f (some ⟨g6, 0, none⟩) ta m6 kt cap6 ct x (n2 * lo) v2 S2'.out.rest hN2 hql (by omega))
              have hg0v : g0 < v2.heap.size := S2'.out.bt.1
              clear HTM hN2 c2' S1'
              go_wp2_with fail
              refine HM.out.mono ?_
              rintro e v3 ⟨ar, kr, cr, rfl, hN3, c3', hfr3, hsm3⟩
              obtain ⟨br, ro, rfl⟩ := hsm3 hm6p
              have hbr : br ≠ g0 := by have := hfr3 br ro rfl; omega
              have NX : Hid (Qv w g0 P f1 k1 n2 p (x - n2 * lo) br ro kr cr (put F p lo) v3) := by
                have dr := digit_rest (x := x) (d := n2)
                rw [HQ.out] at dr
                refine ⟨S2'.out.bt.below c3', S2'.out.bel.trans (c3'.mono S2'.out.bel.size), hN3, dr.2 HD.out, hbr, fun i hi => by rw [put_ne (by omega)]; exact HOL.out i (by omega), ?_⟩
                have E1 : Tn (from_ (put F p lo) (p + 1)) (P - (p + 1)) = Tn (from_ F (p + 1)) (P - (p + 1)) := Tn_congr fun i _ => by unfold from_; rw [put_ne (by omega)]
                exact over_step hpP hpk (by rw [HX0.out, HX.out]) (by rw [E1]; exact HOE.out) dr.1 (put_same _ _ _)
              clear HM hN3 c3' hfr3 hsm3 S2'
              go_wp2
              go_roundw
              case rel => exact ⟨p, x - n2 * lo, br, ro, kr, cr, put F p lo, by omega, rfl, by go_num, NX.out⟩
              case measure => simp [intOf]
end Go.Proofs.YtdkphfafcmogmaaGreatDoor
namespace Go.Proofs.YtdkphfafcmogmaaGreatDoor
open Go.RowKit

/-- The digit that lies at a place. -/
def digAt (W : World) (p : Addr) : Nat := match W.cell? p with
  | some (.int _ x) => x.toNat
  | _ => 0
/-- The number that a slice of digits is. -/
def ntAt (W : World) (v : Value) : Nat := match v with
  | .slice (some p) k _ => Tn (fun j => digAt W ⟨p.block, p.off + j, none⟩) k
  | _ => 0
theorem ntAt_is {W : World} {a : Option Addr} {k c n : Nat} (h : Nt W a k c n) : ntAt W (.slice a k c) = n := by
  obtain ⟨f, hr, _, _, _, hs, hp⟩ := h
  rw [← hs]
  rcases hp with ⟨rfl, _⟩ | ⟨b, off, rfl⟩
  · have hk : k = 0 := by
      rcases Nat.eq_zero_or_pos k with e | e
      · exact e
      · obtain ⟨b, off, he, _⟩ := hr.2.2 e
        cases he
    subst hk
    rfl
  · show Tn (fun j => digAt W ⟨b, off + j, none⟩) k = Tn f k
    refine Tn_congr (fun j hj => ?_)
    obtain ⟨b', off', e, _, hc⟩ := hr.at_ hj
    injection e with e
    injection e with e1 e2
    subst e1 e2
    unfold digAt
    rw [hc]
    simp
theorem nover_c (a1 a2 : Option Addr) (k1 k2 c1 c2 n1 n2 : Nat) (w : World) (h1 : Nt w a1 k1 c1 n1) (h2 : Nt w a2 k2 c2 n2) (hd : 0 < n2) (hk : k1 ≤ 99000) :
    Calls Tryz.prog 58 #[.slice a1 k1 c1, .slice a2 k2 c2] w (OvPost (n1 / n2) (n1 % n2) w) := by
  rcases Nat.lt_or_ge n1 n2 with l | l
  · rw [Nat.div_eq_of_lt l, Nat.mod_eq_of_lt l]
    exact nover_lt a1 a2 k1 k2 c1 c2 n1 n2 w h1 h2 l
  · have hk1 : 0 < k1 := h1.one (by omega)
    obtain ⟨f, hr, _⟩ := id h1
    obtain ⟨b, o, rfl, _⟩ := hr.2.2 hk1
    exact nover_ge b o a2 k1 k2 c1 c2 n1 n2 w h1 h2 l hd hk
/-- What the loop of the divisor keeps. -/
structure Ec (w : World) (n1 n2 : Nat) (pa pb : Option Addr) (ka ca kb cb x y : Nat) (wr : World) : Prop where
  a : Nt wr pa ka ca x
  b : Nt wr pb kb cb y
  bel : Below w.heap.size w wr
  gcd : Nat.gcd x y = Nat.gcd n1 n2
  ha : ka ≤ 99000
  hb : kb ≤ 99000
set_option maxRecDepth 100000 in
set_option maxHeartbeats 1000000 in
theorem ncommon_c (p1 p2 : Option Addr) (k1 k2 c1 c2 n1 n2 : Nat) (w : World) (h1 : Nt w p1 k1 c1 n1) (h2 : Nt w p2 k2 c2 n2) (hk1 : k1 ≤ 99000) (hk2 : k2 ≤ 99000) :
    Calls Tryz.prog 31 #[.slice p1 k1 c1, .slice p2 k2 c2] w (NtPost (Nat.gcd n1 n2) w) := by
  have I0 : Hid (Ec w n1 n2 p1 p2 k1 c1 k2 c2 n1 n2 w) := ⟨h1, h2, Below.refl _ _, rfl, hk1, hk2⟩
  clear h1 h2 hk1 hk2
  go_enter Tryz.func31, Tryz.ntmps31
  go_wp2_with fail
  go_loopw [0, 1] (fun va vb wr => ∃ (pa pb : Option Addr) (ka ca kb cb x y : Nat), va = .slice pa ka ca ∧ vb = .slice pb kb cb ∧ Hid (Ec w n1 n2 pa pb ka ca kb cb x y wr)) (fun _ vb W => ntAt W vb)
  case atStart => exact ⟨p1, p2, k1, c1, k2, c2, n1, n2, rfl, rfl, I0.out⟩
  case round =>
    clear I0
    obtain ⟨pa, pb, ka, ca, kb, cb, x, y, rfl, rfl, hI⟩ := hrel
    rcases Nat.eq_zero_or_pos kb with e | e
    · subst e
      have hy : y = 0 := by
        have := hI.out.b.lt
        rw [tp_zero] at this
        omega
      have RR : Hid (NtPost (Nat.gcd n1 n2) w (.returned (.slice pa ka ca)) wr) := ⟨pa, ka, ca, rfl, by
        have g := hI.out.gcd
        rw [hy, Nat.gcd_zero_right] at g
        rw [← g]; exact hI.out.a, hI.out.bel⟩
      clear hI
      go_wp2
      go_ret
      exact RR.out
    · have hy0 : 0 < y := by
        have := hI.out.b.pos e
        have := tp_pos (kb - 1)
        omega
      have ML := Lib.hid (ntAt_is hI.out.b)
      have e' : (0 : Int) < (kb : Int) := by omega
      have HV := Lib.hid (nover_c pa pb ka kb ca cb x y wr hI.out.a hI.out.b hy0 hI.out.ha)
      go_wp2_with fail
      refine HV.out.mono ?_
      rintro e w4 ⟨qa, qk, qc, ra, rk, rc, rfl, _, hr, b4⟩
      have NX : Hid (Ec w n1 n2 pb ra kb cb rk rc y (x % y) w4) := ⟨hI.out.b.below b4, hr, hI.out.bel.trans (b4.mono hI.out.bel.size), by rw [← hI.out.gcd, Nat.gcd_comm y, ← Nat.gcd_rec, Nat.gcd_comm], hI.out.hb, by
        have l := hr.len (Nat.lt_trans (Nat.mod_lt x hy0) hI.out.b.lt)
        have := hI.out.hb
        omega⟩
      clear hr b4 HV hI
      go_wp2
      go_roundw
      case rel => exact ⟨pb, ra, kb, cb, rk, rc, y, x % y, rfl, rfl, NX.out⟩
      case measure => rw [ntAt_is NX.out.b, ML.out]; exact Nat.mod_lt _ hy0
end Go.Proofs.YtdkphfafcmogmaaGreatDoor
namespace Go.Proofs.YtdkphfafcmogmaaGreatDoor
open Go.RowKit

/-- The fraction that two texts write. -/
def large (n d : List UInt8) : Bool := decide (2000 < (Lib.trimPrefix n [45]).length) || decide (2000 < d.length)
def rread (n d : List UInt8) : Option (Int × Int) :=
  if large n d = true then none
  else match zread n, zread d with
    | some x, some y => if 0 < y ∧ Int.gcd x y = 1 then some (x, y) else none
    | _, _ => none
def rflt (n d : List UInt8) : Int := if large n d = true then 2 else 3
abbrev fz4 : Value := .agg #[.bool false, .slice none 0 0, .bool false, .slice none 0 0]
def FoPost (n d : List UInt8) (w : World) (e : Ending) (w' : World) : Prop :=
  (∃ x y b a k c b' a' k' c', rread n d = some (x, y) ∧ e = .returned (.tuple #[.agg #[.bool b, .slice a k c, .bool b', .slice a' k' c'], .int .i64 0]) ∧ Zn w' b a k c x ∧ Zn w' b' a' k' c' y ∧ x.natAbs < bp 125 ∧ y.natAbs < bp 125 ∧ 0 < y ∧ Int.gcd x y = 1 ∧ Below w.heap.size w w') ∨
  (rread n d = none ∧ e = .returned (.tuple #[fz4, .int .i64 (rflt n d)]) ∧ Below w.heap.size w w')
theorem B2.other4 {W : World} {g h : Nat} {x0 x1 : Value} (hb : B2 W g x0 x1) (hne : h ≠ g) (y0 y1 y2 y3 : Value) : B2 (four W h y0 y1 y2 y3) g x0 x1 :=
  ⟨(four_cell hne _ _ _ _ 0).trans hb.c0, (four_cell hne _ _ _ _ 1).trans hb.c1, fun o => by unfold four; simp only [World.frozen?_setCell]; exact hb.fr o, by rw [four_size]; exact hb.lt⟩
/-- Read's answer, sound or not. -/
def RdAny (l : List UInt8) (w : World) (e : Ending) (w' : World) : Prop :=
  ∃ b a k c ok, e = .returned (.tuple #[.agg #[.bool b, .slice a k c], .bool ok]) ∧ Below w.heap.size w w' ∧ (ok = true → ∃ z, zread l = some z ∧ Zn w' b a k c z ∧ z.natAbs < bp 125) ∧ (ok = false → zread l = none)
theorem Read_any (t : ByteArray) (w : World) (hds : (Lib.trimPrefix t.data.toList [45]).length ≤ 2000) : Calls Tryz.prog 60 #[.string t] w (RdAny t.data.toList w) :=
  (Read_c t w hds).mono fun e w' h => by
    rcases h with ⟨z, b, a, k, c, h1, h2, h3, h4, h5⟩ | ⟨h1, h2, h3⟩
    · exact ⟨b, a, k, c, true, h2, h5, (fun _ => ⟨z, h1, h3, h4⟩), (fun e => nomatch e)⟩
    · exact ⟨false, none, 0, 0, false, h2, h3, (fun e => nomatch e), (fun _ => h1)⟩
theorem trim_len (l p : List UInt8) : (Lib.trimPrefix l p).length ≤ l.length := by
  unfold Lib.trimPrefix
  split
  · rw [List.length_drop]; omega
  · exact Nat.le_refl _
/-- The boxes of fractionOf. -/
structure Fo (w : World) (gn gd : Nat) (s t : ByteArray) (b1 : Bool) (a1 : Option Addr) (k1 c1 : Nat) (b2 : Bool) (a2 : Option Addr) (k2 c2 : Nat) (W : World) : Prop where
  x : B2 W w.heap.size (.string s) (.string t)
  r : B4 W (w.heap.size + 1) (.bool false) (.slice none 0 0) (.bool false) (.slice none 0 0)
  n : B2 W gn (.bool b1) (.slice a1 k1 c1)
  d : B2 W gd (.bool b2) (.slice a2 k2 c2)
  hn : w.heap.size + 1 < gn
  hd : gn < gd
  bel : Below w.heap.size w W
theorem Fo.keep {w : World} {gn gd : Nat} {s t : ByteArray} {b1 : Bool} {a1 : Option Addr} {k1 c1 : Nat} {b2 : Bool} {a2 : Option Addr} {k2 c2 : Nat} {W W' : World} (h : Fo w gn gd s t b1 a1 k1 c1 b2 a2 k2 c2 W) (hb : Below W.heap.size W W') : Fo w gn gd s t b1 a1 k1 c1 b2 a2 k2 c2 W' :=
  ⟨h.x.keep hb, h.r.keep hb, h.n.keep hb, h.d.keep hb, h.hn, h.hd, h.bel.trans (hb.mono h.bel.size)⟩
set_option maxRecDepth 100000 in
set_option maxHeartbeats 4000000 in
theorem fractionOf_c (s t : ByteArray) (w : World) :
    Calls Tryz.prog 28 #[.agg #[.string s, .string t]] w (FoPost s.data.toList t.data.toList w) := by
  obtain ⟨u, hu⟩ : ∃ u : ByteArray, u = ⟨(Lib.trimPrefix s.data.toList [45]).toArray⟩ := ⟨_, rfl⟩
  have hus : u.size = (Lib.trimPrefix s.data.toList [45]).length := by rw [hu]; simp [ByteArray.size]
  have hts : t.size = t.data.toList.length := by simp
  have HTP : Hid (∀ w, Calls Tryz.prog 29 #[.string s, .string ⟨#[45]⟩] w fun e w' => e = .returned (.string u) ∧ w = w') := fun w => (Tryz.strings_TrimPrefix s ⟨#[45]⟩ w).mono fun e w' ⟨he, hw⟩ => ⟨by rw [he, hu], hw.symm⟩
  have HLG : Hid (large s.data.toList t.data.toList = (decide (2000 < u.size) || decide (2000 < t.size))) := by unfold Hid large; rw [hus, hts]
  have HUS := Lib.hid hus
  clear hu hus hts
  obtain ⟨W0, hW0⟩ : ∃ W0, (w.alloc (.cells #[.string s, .string t] 23)).alloc (.cells #[.bool false, .slice none 0 0, .bool false, .slice none 0 0] 46) = W0 := ⟨_, rfl⟩
  have s1 : (w.alloc (.cells #[.string s, .string t] 23)).heap.size = w.heap.size + 1 := by simp
  have X0 : B2 W0 w.heap.size (.string s) (.string t) := by rw [← hW0]; exact (B2.made w _ _ _).keep (bel_one _ _)
  have R0 : B4 W0 (w.heap.size + 1) (.bool false) (.slice none 0 0) (.bool false) (.slice none 0 0) := by rw [← hW0, ← s1]; exact B4.made _ _ _ _ _ _
  have B0 : Below w.heap.size w W0 := by rw [← hW0]; exact ((Below.refl _ _).alloc (Nat.le_refl _) _).alloc (by simp) _
  have S0 : w.heap.size + 1 < W0.heap.size := by rw [← hW0]; simp
  have HX := Lib.hid X0
  have HR := Lib.hid R0
  have HB := Lib.hid B0
  have HS := Lib.hid S0
  have x0 := X0.c0
  have x1 := X0.c1
  clear X0 R0 B0 S0 s1
  by_cases hl : large s.data.toList t.data.toList = true
  · have PF : Hid (rread s.data.toList t.data.toList = none ∧ rflt s.data.toList t.data.toList = 2) := ⟨by unfold rread; rw [if_pos hl], by unfold rflt; rw [if_pos hl]⟩
    have hl2 : 2000 < u.size ∨ (¬ 2000 < u.size ∧ 2000 < t.size) := by
      rw [HLG.out] at hl
      simp at hl
      omega
    clear HLG hl
    rcases hl2 with h | ⟨h, h'⟩
    · have hi : (2000 : Int) < (u.size : Int) := by omega
      go_enter Tryz.func28, Tryz.ntmps28
      obtain ⟨W9, hW9⟩ : ∃ W9, four W0 (w.heap.size + 1) (.bool false) (.slice none 0 0) (.bool false) (.slice none 0 0) = W9 := ⟨_, rfl⟩
      have R9 : B4 W9 (w.heap.size + 1) (.bool false) (.slice none 0 0) (.bool false) (.slice none 0 0) := by rw [← hW9]; exact HR.out.set _ _ _ _
      have PP : Hid (FoPost s.data.toList t.data.toList w (.returned (.tuple #[fz4, .int .i64 2])) W9) := by
        rw [← hW9]
        exact .inr ⟨PF.out.1, by rw [PF.out.2], below_four HB.out (Nat.le_succ _) _ _ _ _⟩
      have q0 := HR.out.c0
      have q1 := HR.out.c1
      have q2 := HR.out.c2
      have q3 := HR.out.c3
      have g0 := HR.out.fr 0
      have g1 := HR.out.fr 1
      have g2 := HR.out.fr 2
      have g3 := HR.out.fr 3
      obtain ⟨r0, r1, r2, r3, _, _⟩ := id R9
      unfold four at hW9
      clear R9
      go_wp2_with (go_at_call 29; refine (HTP.out _).mono ?_; rintro e w' ⟨rfl, rfl⟩)
      exact bodyPost_ret (v := .tuple #[fz4, .int .i64 2]) (by simp [results, Tryz.results28, go_sem, r0, r1, r2, r3]) rfl PP.out
    · have hi : ¬ (2000 : Int) < (u.size : Int) := by omega
      have hi' : (2000 : Int) < (t.size : Int) := by omega
      go_enter Tryz.func28, Tryz.ntmps28
      obtain ⟨W9, hW9⟩ : ∃ W9, four W0 (w.heap.size + 1) (.bool false) (.slice none 0 0) (.bool false) (.slice none 0 0) = W9 := ⟨_, rfl⟩
      have R9 : B4 W9 (w.heap.size + 1) (.bool false) (.slice none 0 0) (.bool false) (.slice none 0 0) := by rw [← hW9]; exact HR.out.set _ _ _ _
      have PP : Hid (FoPost s.data.toList t.data.toList w (.returned (.tuple #[fz4, .int .i64 2])) W9) := by
        rw [← hW9]
        exact .inr ⟨PF.out.1, by rw [PF.out.2], below_four HB.out (Nat.le_succ _) _ _ _ _⟩
      have q0 := HR.out.c0
      have q1 := HR.out.c1
      have q2 := HR.out.c2
      have q3 := HR.out.c3
      have g0 := HR.out.fr 0
      have g1 := HR.out.fr 1
      have g2 := HR.out.fr 2
      have g3 := HR.out.fr 3
      obtain ⟨r0, r1, r2, r3, _, _⟩ := id R9
      unfold four at hW9
      clear R9
      go_wp2_with (go_at_call 29; refine (HTP.out _).mono ?_; rintro e w' ⟨rfl, rfl⟩)
      exact bodyPost_ret (v := .tuple #[fz4, .int .i64 2]) (by simp [results, Tryz.results28, go_sem, r0, r1, r2, r3]) rfl PP.out
  · have hlf : large s.data.toList t.data.toList = false := by simpa using hl
    have hu2 : ¬ 2000 < u.size := by rw [HLG.out] at hlf; simp at hlf; omega
    have ht2 : ¬ 2000 < t.size := by rw [HLG.out] at hlf; simp at hlf; omega
    have hi : ¬ (2000 : Int) < (u.size : Int) := by omega
    have hi' : ¬ (2000 : Int) < (t.size : Int) := by omega
    have HFL : Hid (rflt s.data.toList t.data.toList = 3) := by unfold Hid rflt; rw [if_neg hl]
    have HRR : Hid (rread s.data.toList t.data.toList = match zread s.data.toList, zread t.data.toList with | some x, some y => if 0 < y ∧ Int.gcd x y = 1 then some (x, y) else none | _, _ => none) := by unfold Hid rread; rw [if_neg hl]
    have HR1 := Lib.hid (fun w => Read_any s w (by rw [← HUS.out]; omega))
    have HR2 := Lib.hid (fun w => Read_any t w (by have := trim_len t.data.toList [45]; simp at this ht2; omega))
    clear HLG hl hlf
    go_enter Tryz.func28, Tryz.ntmps28
    go_wp2_with (go_at_call 29; refine (HTP.out _).mono ?_; rintro e w' ⟨rfl, rfl⟩)
    refine (HR1.out _).mono ?_
    rintro e w1 ⟨b1, a1, k1, c1, ok1, rfl, bb1, hok1, hno1⟩
    clear hW0 x0 x1
    have O1 := Lib.hid hok1
    have N1 := Lib.hid hno1
    have HX1 := Lib.hid (HX.out.keep bb1)
    have HR1' := Lib.hid (HR.out.keep bb1)
    have HB1 := Lib.hid (HB.out.trans (bb1.mono HB.out.size))
    have HS1 : Hid (w.heap.size + 1 < w1.heap.size) := Nat.lt_of_lt_of_le HS.out bb1.size
    clear HX HR HB HS bb1 hok1 hno1 HR1
    obtain ⟨W2, hW2⟩ : ∃ W2, w1.alloc (.cells #[.bool false, .slice none 0 0] 44) = W2 := ⟨_, rfl⟩
    have D2 : B2 W2 w1.heap.size (.bool false) (.slice none 0 0) := by rw [← hW2]; exact B2.made _ _ _ _
    have BL2 : Below w1.heap.size w1 W2 := by rw [← hW2]; exact bel_one _ _
    obtain ⟨gn, hgn⟩ : ∃ gn, w1.heap.size = gn := ⟨_, rfl⟩
    have HGN : Hid (w.heap.size + 1 < gn) := by rw [← hgn]; exact HS1.out
    rw [hgn] at D2
    obtain ⟨W3, hW3⟩ : ∃ W3, two W2 gn (.bool b1) (.slice a1 k1 c1) = W3 := ⟨_, rfl⟩
    have gne := HGN.out
    have X3 : B2 W3 w.heap.size (.string s) (.string t) := by rw [← hW3]; exact (HX1.out.keep BL2).other (by omega) _ _
    have R3 : Hid (B4 W3 (w.heap.size + 1) (.bool false) (.slice none 0 0) (.bool false) (.slice none 0 0)) := by rw [← hW3]; exact (HR1'.out.keep BL2).other2 (by omega) _ _
    have NN3 : Hid (B2 W3 gn (.bool b1) (.slice a1 k1 c1)) := by rw [← hW3]; exact D2.set _ _
    have BB3 : Hid (Below w.heap.size w W3) := by rw [← hW3]; exact below_two (HB1.out.trans (BL2.mono HB1.out.size)) (by omega) _ _
    have GS3 : Hid (gn < W3.heap.size) := NN3.out.lt
    have ZZ3 : Hid (ok1 = true → ∃ z, zread s.data.toList = some z ∧ Zn W3 b1 a1 k1 c1 z ∧ z.natAbs < bp 125) := by
      intro h
      obtain ⟨z, e1, e2, e3⟩ := O1.out h
      exact ⟨z, e1, by rw [← hW3]; exact (e2.below BL2).set2 D2 _ _, e3⟩
    have d0 := D2.c0
    have d1 := D2.c1
    have f0 := D2.fr 0
    have f1 := D2.fr 1
    have x0 := X3.c0
    have x1 := X3.c1
    have HX3 := Lib.hid X3
    clear D2 BL2 X3 O1 HX1 HR1' HB1 HS1 gne
    unfold two at hW3
    go_wp2_with fail
    clear hW3 hW2 d0 d1 f0 f1 hgn
    refine (HR2.out _).mono ?_
    rintro e w4 ⟨b2, a2, k2, c2, ok2, rfl, bb4, hok2, hno2⟩
    have O2 := Lib.hid hok2
    have N2 := Lib.hid hno2
    have HX4 := Lib.hid (HX3.out.keep bb4)
    have HR4 := Lib.hid (R3.out.keep bb4)
    have HN4 := Lib.hid (NN3.out.keep bb4)
    have HB4 := Lib.hid (BB3.out.trans (bb4.mono BB3.out.size))
    have HS4 : Hid (gn < w4.heap.size) := Nat.lt_of_lt_of_le GS3.out bb4.size
    have ZZ4 : Hid (ok1 = true → ∃ z, zread s.data.toList = some z ∧ Zn w4 b1 a1 k1 c1 z ∧ z.natAbs < bp 125) := by
      intro h
      obtain ⟨z, e1, e2, e3⟩ := ZZ3.out h
      exact ⟨z, e1, e2.below bb4, e3⟩
    clear HX3 R3 NN3 BB3 GS3 ZZ3 bb4 hok2 hno2 HR2 x0 x1
    obtain ⟨W5, hW5⟩ : ∃ W5, w4.alloc (.cells #[.bool false, .slice none 0 0] 44) = W5 := ⟨_, rfl⟩
    have D5 : B2 W5 w4.heap.size (.bool false) (.slice none 0 0) := by rw [← hW5]; exact B2.made _ _ _ _
    have BL5 : Below w4.heap.size w4 W5 := by rw [← hW5]; exact bel_one _ _
    obtain ⟨gd, hgd⟩ : ∃ gd, w4.heap.size = gd := ⟨_, rfl⟩
    have HGD : Hid (gn < gd) := by rw [← hgd]; exact HS4.out
    rw [hgd] at D5
    obtain ⟨W6, hW6⟩ : ∃ W6, two W5 gd (.bool b2) (.slice a2 k2 c2) = W6 := ⟨_, rfl⟩
    have gne := HGN.out
    have gde := HGD.out
    have J6 : Hid (Fo w gn gd s t b1 a1 k1 c1 b2 a2 k2 c2 W6) := by
      rw [← hW6]
      exact ⟨(HX4.out.keep BL5).other (by omega) _ _, (HR4.out.keep BL5).other2 (by omega) _ _, (HN4.out.keep BL5).other (by omega) _ _, D5.set _ _, gne, gde, below_two (HB4.out.trans (BL5.mono HB4.out.size)) (by omega) _ _⟩
    have Z1 : Hid (ok1 = true → ∃ z, zread s.data.toList = some z ∧ Zn W6 b1 a1 k1 c1 z ∧ z.natAbs < bp 125) := by
      intro h
      obtain ⟨z, e1, e2, e3⟩ := ZZ4.out h
      exact ⟨z, e1, by rw [← hW6]; exact (e2.below BL5).set2 D5 _ _, e3⟩
    have Z2 : Hid (ok2 = true → ∃ z, zread t.data.toList = some z ∧ Zn W6 b2 a2 k2 c2 z ∧ z.natAbs < bp 125) := by
      intro h
      obtain ⟨z, e1, e2, e3⟩ := O2.out h
      exact ⟨z, e1, by rw [← hW6]; exact (e2.below BL5).set2 D5 _ _, e3⟩
    have d0 := D5.c0
    have d1 := D5.c1
    have f0 := D5.fr 0
    have f1 := D5.fr 1
    have n0 := J6.out.n.c0
    have n1 := J6.out.n.c1
    have p0 := J6.out.d.c0
    have p1 := J6.out.d.c1
    clear D5 BL5 O2 HX4 HR4 HN4 HB4 HS4 ZZ4 gne gde
    unfold two at hW6
    cases ok1
    · have PF : Hid (rread s.data.toList t.data.toList = none ∧ rflt s.data.toList t.data.toList = 3) := ⟨by rw [HRR.out, N1.out rfl], HFL.out⟩
      clear Z1 Z2 N1 N2 HRR HFL
      obtain ⟨W9, hW9⟩ : ∃ W9, four W6 (w.heap.size + 1) (.bool false) (.slice none 0 0) (.bool false) (.slice none 0 0) = W9 := ⟨_, rfl⟩
      have R9 : B4 W9 (w.heap.size + 1) (.bool false) (.slice none 0 0) (.bool false) (.slice none 0 0) := by rw [← hW9]; exact J6.out.r.set _ _ _ _
      have PP : Hid (FoPost s.data.toList t.data.toList w (.returned (.tuple #[fz4, .int .i64 3])) W9) := by
        rw [← hW9]
        exact .inr ⟨PF.out.1, by rw [PF.out.2], below_four J6.out.bel (Nat.le_succ _) _ _ _ _⟩
      have q0 := J6.out.r.c0
      have q1 := J6.out.r.c1
      have q2 := J6.out.r.c2
      have q3 := J6.out.r.c3
      have g0 := J6.out.r.fr 0
      have g1 := J6.out.r.fr 1
      have g2 := J6.out.r.fr 2
      have g3 := J6.out.r.fr 3
      obtain ⟨r0, r1, r2, r3, _, _⟩ := id R9
      unfold four at hW9
      clear R9
      go_wp2_with fail
      exact bodyPost_ret (v := .tuple #[fz4, .int .i64 3]) (by simp [results, Tryz.results28, go_sem, r0, r1, r2, r3]) rfl PP.out
    · cases ok2
      · have PF : Hid (rread s.data.toList t.data.toList = none ∧ rflt s.data.toList t.data.toList = 3) := ⟨by rw [HRR.out, N2.out rfl]; split <;> simp_all, HFL.out⟩
        clear Z1 Z2 N1 N2 HRR HFL
        obtain ⟨W9, hW9⟩ : ∃ W9, four W6 (w.heap.size + 1) (.bool false) (.slice none 0 0) (.bool false) (.slice none 0 0) = W9 := ⟨_, rfl⟩
        have R9 : B4 W9 (w.heap.size + 1) (.bool false) (.slice none 0 0) (.bool false) (.slice none 0 0) := by rw [← hW9]; exact J6.out.r.set _ _ _ _
        have PP : Hid (FoPost s.data.toList t.data.toList w (.returned (.tuple #[fz4, .int .i64 3])) W9) := by
          rw [← hW9]
          exact .inr ⟨PF.out.1, by rw [PF.out.2], below_four J6.out.bel (Nat.le_succ _) _ _ _ _⟩
        have q0 := J6.out.r.c0
        have q1 := J6.out.r.c1
        have q2 := J6.out.r.c2
        have q3 := J6.out.r.c3
        have g0 := J6.out.r.fr 0
        have g1 := J6.out.r.fr 1
        have g2 := J6.out.r.fr 2
        have g3 := J6.out.r.fr 3
        obtain ⟨r0, r1, r2, r3, _, _⟩ := id R9
        unfold four at hW9
        clear R9
        go_wp2_with fail
        exact bodyPost_ret (v := .tuple #[fz4, .int .i64 3]) (by simp [results, Tryz.results28, go_sem, r0, r1, r2, r3]) rfl PP.out
      · obtain ⟨x, ex, hx, hxb⟩ := Z1.out rfl
        obtain ⟨y, ey, hy, hyb⟩ := Z2.out rfl
        rw [ex, ey] at HRR
        have ZX := Lib.hid hx
        have ZY := Lib.hid hy
        have XB := Lib.hid hxb
        have YB := Lib.hid hyb
        clear Z1 Z2 N1 N2 ex ey hx hy hxb hyb
        have HSG := Lib.hid (Sign_c b2 a2 k2 c2 y W6 ZY.out)
        by_cases hpos : 0 < y
        · have hsg : decide (y.sign ≤ 0) = false := by rw [Int.sign_eq_one_of_pos hpos]; rfl
          have HP := Lib.hid hpos
          clear hpos
          generalize y.sign = sy at *
          go_wp2_with fail
          clear hW6 hW5 hgd d0 d1 f0 f1
          refine HSG.out.mono ?_
          rintro e w7 ⟨rfl, b7⟩
          have J7 := Lib.hid (J6.out.keep b7)
          have X7 := Lib.hid (ZX.out.below b7)
          have Y7 := Lib.hid (ZY.out.below b7)
          clear b7 J6 ZX ZY HSG n0 n1 p0 p1
          have n0 := J7.out.n.c0
          have n1 := J7.out.n.c1
          have p0 := J7.out.d.c0
          have p1 := J7.out.d.c1
          have HCM := Lib.hid (Common_c b1 b2 a1 a2 k1 k2 c1 c2 x y w7 X7.out Y7.out (Nat.lt_of_lt_of_le XB.out (bp_mono (by decide))) (Nat.lt_of_lt_of_le YB.out (bp_mono (by decide))))
          go_wp2_with fail
          clear n0 n1 p0 p1
          refine HCM.out.mono ?_
          rintro e w8 ⟨gb, ga, gk, gc, rfl, hg, b8⟩
          have J8 := Lib.hid (J7.out.keep b8)
          have X8 := Lib.hid (X7.out.below b8)
          have Y8 := Lib.hid (Y7.out.below b8)
          have G8 := Lib.hid hg
          clear hg b8 J7 X7 Y7 HCM
          go_wp2_with fail
          refine (Of_c 1 w8 (by decide) (by decide)).mono ?_
          rintro e w9 ⟨ob, oa, ok, oc, rfl, ho, b9⟩
          have J9 := Lib.hid (J8.out.keep b9)
          have X9 := Lib.hid (X8.out.below b9)
          have Y9 := Lib.hid (Y8.out.below b9)
          have HEQ := Lib.hid (Equal_c gb ob ga oa gk ok gc oc _ _ w9 (G8.out.below b9) ho)
          clear ho b9 J8 X8 Y8 G8
          by_cases hone : (Int.gcd x y : Int) = 1
          · rw [decide_eq_true hone] at HEQ
            go_wp2_with fail
            refine HEQ.out.mono ?_
            rintro e wA ⟨rfl, bA⟩
            have JA := Lib.hid (J9.out.keep bA)
            have XA := Lib.hid (X9.out.below bA)
            have YA := Lib.hid (Y9.out.below bA)
            have PF : Hid (rread s.data.toList t.data.toList = some (x, y) ∧ Int.gcd x y = 1) := by
              have h1 : Int.gcd x y = 1 := by omega
              refine ⟨?_, h1⟩
              rw [HRR.out]
              rw [if_pos ⟨HP.out, h1⟩]
            clear bA J9 X9 Y9 HEQ hone HRR HFL
            have n0 := JA.out.n.c0
            have n1 := JA.out.n.c1
            have p0 := JA.out.d.c0
            have p1 := JA.out.d.c1
            obtain ⟨W9, hW9⟩ : ∃ W9, four wA (w.heap.size + 1) (.bool b1) (.slice a1 k1 c1) (.bool b2) (.slice a2 k2 c2) = W9 := ⟨_, rfl⟩
            have R9 : B4 W9 (w.heap.size + 1) (.bool b1) (.slice a1 k1 c1) (.bool b2) (.slice a2 k2 c2) := by rw [← hW9]; exact JA.out.r.set _ _ _ _
            have PP : Hid (FoPost s.data.toList t.data.toList w (.returned (.tuple #[.agg #[.bool b1, .slice a1 k1 c1, .bool b2, .slice a2 k2 c2], .int .i64 0])) W9) := by
              rw [← hW9]
              exact .inl ⟨x, y, _, _, _, _, _, _, _, _, PF.out.1, rfl, XA.out.set4 JA.out.r (NL.b _) (NL.s _ _ _) (NL.b _) (NL.s _ _ _) _ _ _ _, YA.out.set4 JA.out.r (NL.b _) (NL.s _ _ _) (NL.b _) (NL.s _ _ _) _ _ _ _, XB.out, YB.out, HP.out, PF.out.2, below_four JA.out.bel (Nat.le_succ _) _ _ _ _⟩
            have q0 := JA.out.r.c0
            have q1 := JA.out.r.c1
            have q2 := JA.out.r.c2
            have q3 := JA.out.r.c3
            have g0 := JA.out.r.fr 0
            have g1 := JA.out.r.fr 1
            have g2 := JA.out.r.fr 2
            have g3 := JA.out.r.fr 3
            obtain ⟨r0, r1, r2, r3, _, _⟩ := id R9
            unfold four at hW9
            clear R9 JA XA YA
            go_wp2_with fail
            exact bodyPost_ret (v := .tuple #[.agg #[.bool b1, .slice a1 k1 c1, .bool b2, .slice a2 k2 c2], .int .i64 0]) (by simp [results, Tryz.results28, go_sem, r0, r1, r2, r3]) rfl PP.out
          · rw [decide_eq_false hone] at HEQ
            have PF : Hid (rread s.data.toList t.data.toList = none ∧ rflt s.data.toList t.data.toList = 3) := by
              refine ⟨?_, HFL.out⟩
              rw [HRR.out]
              rw [if_neg (fun h => hone (by omega))]
            clear hone HRR HFL X9 Y9
            go_wp2_with fail
            refine HEQ.out.mono ?_
            rintro e wA ⟨rfl, bA⟩
            have J6 := Lib.hid (J9.out.keep bA)
            clear bA J9 HEQ
            obtain ⟨W9, hW9⟩ : ∃ W9, four wA (w.heap.size + 1) (.bool false) (.slice none 0 0) (.bool false) (.slice none 0 0) = W9 := ⟨_, rfl⟩
            have R9 : B4 W9 (w.heap.size + 1) (.bool false) (.slice none 0 0) (.bool false) (.slice none 0 0) := by rw [← hW9]; exact J6.out.r.set _ _ _ _
            have PP : Hid (FoPost s.data.toList t.data.toList w (.returned (.tuple #[fz4, .int .i64 3])) W9) := by
              rw [← hW9]
              exact .inr ⟨PF.out.1, by rw [PF.out.2], below_four J6.out.bel (Nat.le_succ _) _ _ _ _⟩
            have q0 := J6.out.r.c0
            have q1 := J6.out.r.c1
            have q2 := J6.out.r.c2
            have q3 := J6.out.r.c3
            have g0 := J6.out.r.fr 0
            have g1 := J6.out.r.fr 1
            have g2 := J6.out.r.fr 2
            have g3 := J6.out.r.fr 3
            obtain ⟨r0, r1, r2, r3, _, _⟩ := id R9
            unfold four at hW9
            clear R9
            go_wp2_with fail
            exact bodyPost_ret (v := .tuple #[fz4, .int .i64 3]) (by simp [results, Tryz.results28, go_sem, r0, r1, r2, r3]) rfl PP.out
        · have hsg : decide (y.sign ≤ 0) = true := by
            rw [decide_eq_true_iff]
            rcases zsgn y with ⟨e, _⟩ | ⟨e, _⟩ | ⟨_, e⟩
            · rw [e]; decide
            · rw [e]; decide
            · exact absurd e hpos
          have PF : Hid (rread s.data.toList t.data.toList = none ∧ rflt s.data.toList t.data.toList = 3) := by
            refine ⟨?_, HFL.out⟩
            rw [HRR.out]
            show (if 0 < y ∧ Int.gcd x y = 1 then some (x, y) else none) = none
            rw [if_neg (fun h => hpos h.1)]
          clear hpos HRR HFL
          generalize y.sign = sy at *
          go_wp2_with fail
          clear hW6 hW5 hgd d0 d1 f0 f1 n0 n1 p0 p1
          refine HSG.out.mono ?_
          rintro e wA ⟨rfl, bA⟩
          have J7 := Lib.hid (J6.out.keep bA)
          clear bA J6 HSG ZX ZY
          have J6 := Lib.hid J7.out
          clear J7
          obtain ⟨W9, hW9⟩ : ∃ W9, four wA (w.heap.size + 1) (.bool false) (.slice none 0 0) (.bool false) (.slice none 0 0) = W9 := ⟨_, rfl⟩
          have R9 : B4 W9 (w.heap.size + 1) (.bool false) (.slice none 0 0) (.bool false) (.slice none 0 0) := by rw [← hW9]; exact J6.out.r.set _ _ _ _
          have PP : Hid (FoPost s.data.toList t.data.toList w (.returned (.tuple #[fz4, .int .i64 3])) W9) := by
            rw [← hW9]
            exact .inr ⟨PF.out.1, by rw [PF.out.2], below_four J6.out.bel (Nat.le_succ _) _ _ _ _⟩
          have q0 := J6.out.r.c0
          have q1 := J6.out.r.c1
          have q2 := J6.out.r.c2
          have q3 := J6.out.r.c3
          have g0 := J6.out.r.fr 0
          have g1 := J6.out.r.fr 1
          have g2 := J6.out.r.fr 2
          have g3 := J6.out.r.fr 3
          obtain ⟨r0, r1, r2, r3, _, _⟩ := id R9
          unfold four at hW9
          clear R9
          go_wp2_with fail
          exact bodyPost_ret (v := .tuple #[fz4, .int .i64 3]) (by simp [results, Tryz.results28, go_sem, r0, r1, r2, r3]) rfl PP.out
end Go.Proofs.YtdkphfafcmogmaaGreatDoor
