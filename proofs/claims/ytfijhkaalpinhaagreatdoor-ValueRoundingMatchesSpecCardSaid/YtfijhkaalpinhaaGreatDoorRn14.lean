/-
  Numbers of the reference: over, where the quotient is 0; rows that aren't nil.
  Numbers of the reference: over.
  Numbers of the reference: the greatest number that divides both.
  Fractions of the reference: boxes of three cells, and what a fraction's lowest terms are written as.
-/
import Derived.Test.YtfijhkaalpinhaaGreatDoorRn13
import Derived.Laws.OwnMore
import Derived.Test.YtfijhkaalpinhaaGreatDoorRn12
import Derived.Test.YtfijhkaalpinhaaGreatDoorRn10
namespace Go.Proofs.YtfijhkaalpinhaaGreatDoor
open Go.RowKit

/-- A row of the call's own that isn't nil, as digits. -/
theorem row_open {w : World} {B j : Nat} {f : Nat → Nat} {v : Value} (h : w.ownsRow B 3 1 v j (dvals f j)) (hv : v ≠ .slice none 0 0) (hj : j ≤ 100000) (hl : Ld f j) :
    ∃ g cap, v = .slice (some ⟨g, 0, none⟩) j cap ∧ B ≤ g ∧ g < w.heap.size ∧ Rj w (some ⟨g, 0, none⟩) j f ∧ j ≤ cap ∧ cap ≤ 9223372036854775807 := by
  have hc := fun (g : Nat) (hg : v.ownBlock = some g) => World.ownsRow.cells h hg
  obtain ⟨_, ⟨e1, _⟩ | ⟨g, cap, cur, rfl, hb, hg, hnc, hm, hs, ht⟩⟩ := h
  · exact absurd e1 hv
  · refine ⟨g, cap, rfl, hb, lt_of_block hg, ⟨hj, hl, fun _ => ⟨g, 0, rfl, lt_of_block hg, fun i hi => ?_⟩⟩, hnc, by unfold maxLen at hm; omega⟩
    have t := hc g rfl i (.int .i64 (f i)) (by simp [dvals, hi])
    by_cases h0 : i = 0 <;> simpa [Addr.add, h0] using t
theorem dvals_get {f : Nat → Nat} {n i : Nat} {u : Value} (h : (dvals f n)[i]? = some u) : i < n ∧ u = .int .i64 (f i : Int) := by
  unfold dvals at h
  rw [List.getElem?_map] at h
  rcases Nat.lt_or_ge i n with l | l
  · rw [List.getElem?_range l] at h
    exact ⟨l, (Option.some.inj h).symm⟩
  · rw [List.getElem?_eq_none (by simpa using l)] at h
    cases h
theorem dvals_cell {f : Nat → Nat} {n : Nat} {u : Value} (h : u ∈ dvals f n) : u.oneCell' = true := by
  obtain ⟨i, _, rfl⟩ := List.mem_map.1 h
  rfl
/-- A window of a row, as what an append takes. -/
theorem win_cell {W : World} {b o k : Nat} {f : Nat → Nat} (h : Rj W (some ⟨b, o, none⟩) k f) {P M i : Nat} {u : Value} (hPM : P + M ≤ k) (hu : (dvals (from_ f P) M)[i]? = some u) : W.cell? ((⟨b, o + P, none⟩ : Addr).add i) = some u := by
  obtain ⟨l, rfl⟩ := dvals_get hu
  obtain ⟨b', o', e, _, hc⟩ := h.at_ (show P + i < k by omega)
  injection e with e
  injection e with e1 e2
  subst e1 e2
  have e2 : (⟨b, o + P, none⟩ : Addr).add i = ⟨b, o + (P + i), none⟩ := by
    unfold Addr.add
    split
    · next h0 => subst h0; rfl
    · rw [Nat.add_assoc]
  rw [e2]
  exact hc
/-- A digit in front of a row. -/
def front (x : Nat) (f : Nat → Nat) (i : Nat) : Nat := if i = 0 then x else f (i - 1)
theorem dvals_front (x : Nat) (f : Nat → Nat) (n : Nat) : dvals (front x f) (1 + n) = .int .i64 (x : Int) :: dvals f n := by
  unfold dvals
  rw [Nat.add_comm, List.range_succ_eq_map, List.map_cons, List.map_map]
  rfl
theorem Tn_fronts (x : Nat) (f : Nat → Nat) (n : Nat) : Tn (front x f) (n + 1) = x + 1000000000 * Tn f n := by
  rw [Tn_front]
  rfl
theorem ld_front {x : Nat} {f : Nat → Nat} {n : Nat} (hx : x < 1000000000) (h : Ld f n) : Ld (front x f) (n + 1) := fun i hi => by
  unfold front
  split
  · exact hx
  · exact h _ (by omega)
def OvPost (q r : Nat) (w : World) (e : Ending) (w' : World) : Prop := ∃ qa qk qc ra rk rc, e = .returned (.tuple #[.slice qa qk qc, .slice ra rk rc]) ∧ Nt w' qa qk qc q ∧ Nt w' ra rk rc r ∧ Below w.heap.size w w'
theorem nover_lt (a1 a2 : Option Addr) (k1 k2 c1 c2 n1 n2 : Nat) (w : World) (h1 : Nt w a1 k1 c1 n1) (h2 : Nt w a2 k2 c2 n2) (hlt : n1 < n2) :
    Calls Tryz.prog 58 #[.slice a1 k1 c1, .slice a2 k2 c2] w (OvPost 0 n1 w) := by
  have HO := norder_c a1 a2 k1 k2 c1 c2 n1 n2 w h1 h2
  rw [sgn_lt hlt] at HO
  have HO := Lib.hid HO
  have H1 := Lib.hid h1
  clear h1 h2 hlt
  go_enter Tryz.func58, Tryz.ntmps58
  go_wp2_with fail
  refine HO.out.mono ?_
  rintro e w1 ⟨rfl, q, rfl⟩
  have RR : Hid (OvPost 0 n1 w (.returned (.tuple #[.slice none 0 0, .slice a1 k1 c1])) (w.drewN q)) := ⟨none, 0, 0, a1, k1, c1, rfl, Nt.zero _ _ _ (by omega) Pl.none_, H1.out.below (bel_drewN w q), bel_drewN w q⟩
  clear H1 HO
  go_wp2
  go_ret2
  exact RR.out
end Go.Proofs.YtfijhkaalpinhaaGreatDoor
namespace Go.Proofs.YtfijhkaalpinhaaGreatDoor
open Go.RowKit

theorem Bt.below {W W' : World} {g K : Nat} {f : Nat → Nat} (h : Bt W g K f) (hb : Below W.heap.size W W') : Bt W' g K f :=
  ⟨Nat.lt_of_lt_of_le h.1 hb.size, h.2.1, fun j hj => ⟨(hb.cell (p := ⟨g, j, none⟩) h.1).trans (h.2.2 j hj).1, (hb.frozen (p := ⟨g, j, none⟩) h.1).trans (h.2.2 j hj).2⟩⟩
theorem Nt.store {W : World} {b o k c n g i : Nat} (h : Nt W (some ⟨b, o, none⟩) k c n) (hne : b ≠ g) (v : Value) : Nt (W.setCell ⟨g, i, none⟩ v) (some ⟨b, o, none⟩) k c n := by
  obtain ⟨f, h1, h2⟩ := h
  refine ⟨f, ⟨h1.1, h1.2.1, fun h0 => ?_⟩, h2⟩
  obtain ⟨b', o', e, hl, hc⟩ := h1.2.2 h0
  refine ⟨b', o', e, by simpa using hl, fun j hj => ?_⟩
  injection e with e
  injection e with e1 e2
  rw [World.cell?_setCell_other _ _ _ _ (by intro e3; injection e3 with e4 _; omega)]
  exact hc j hj
theorem win_cell0 {W : World} {b o k : Nat} {f : Nat → Nat} (h : Rj W (some ⟨b, o, none⟩) k f) {M i : Nat} {u : Value} (hM : M ≤ k) (hu : (dvals (from_ f 0) M)[i]? = some u) : W.cell? ⟨b, o + i, none⟩ = some u := by
  obtain ⟨l, rfl⟩ := dvals_get hu
  obtain ⟨b', o', e, _, hc⟩ := h.at_ (show i < k by omega)
  injection e with e
  injection e with e1 e2
  subst e1 e2
  rw [hc]
  unfold from_
  rw [Nat.zero_add]
/-- What over's loop keeps. -/
structure Qv (w : World) (g0 P : Nat) (f1 : Nat → Nat) (k1 n2 j R gb go rk rc : Nat) (F : Nat → Nat) (wr : World) : Prop where
  bt : Bt wr g0 P F
  bel : Below w.heap.size w wr
  rest : Nt wr (some ⟨gb, go, none⟩) rk rc R
  lt : R < n2
  ne : gb ≠ g0
  low : ∀ q, q < j → F q = 0
  eq : Tn (from_ f1 j) (k1 - j) = Tn (from_ F j) (P - j) * n2 + R
/-- What the search of a digit keeps. -/
structure Sv (w : World) (g0 P : Nat) (F : Nat → Nat) (g6 m6 cap6 x : Nat) (wr : World) : Prop where
  bt : Bt wr g0 P F
  bel : Below w.heap.size w wr
  rest : Nt wr (some ⟨g6, 0, none⟩) m6 cap6 x
theorem Sv.keep {w : World} {g0 P : Nat} {F : Nat → Nat} {g6 m6 cap6 x : Nat} {wr W : World} (h : Sv w g0 P F g6 m6 cap6 x wr) (hb : Below wr.heap.size wr W) : Sv w g0 P F g6 m6 cap6 x W :=
  ⟨h.bt.below hb, h.bel.trans (hb.mono h.bel.size), h.rest.below hb⟩
theorem sgn_le {x y : Nat} (h : x ≤ y) : sgn x y ≤ 0 := by
  rcases Nat.eq_or_lt_of_le h with e | e
  · rw [e, sgn_eq]; omega
  · rw [sgn_lt e]; omega
set_option maxRecDepth 100000 in
set_option maxHeartbeats 8000000 in
theorem nover_ge (b1 o1 : Nat) (a2 : Option Addr) (k1 k2 c1 c2 n1 n2 : Nat) (w : World) (h1 : Nt w (some ⟨b1, o1, none⟩) k1 c1 n1) (h2 : Nt w a2 k2 c2 n2) (hle : n2 ≤ n1) (hd : 0 < n2) (hk : k1 ≤ 99000) :
    Calls Tryz.prog 58 #[.slice (some ⟨b1, o1, none⟩) k1 c1, .slice a2 k2 c2] w (OvPost (n1 / n2) (n1 % n2) w) := by
  obtain ⟨i0, hi, hz0, hz1, hz2⟩ := info_int
  have hk2p : 0 < k2 := h2.one hd
  have hk21 : k2 ≤ k1 := h2.len (Nat.lt_of_le_of_lt hle h1.lt)
  obtain ⟨f1, r1, hkc, hc9, ht1, s1, _⟩ := id h1
  obtain ⟨P, hP⟩ : ∃ P, k1 - k2 + 1 = P := ⟨_, rfl⟩
  obtain ⟨M, hM⟩ : ∃ M, k2 - 1 = M := ⟨_, rfl⟩
  obtain ⟨C, hC⟩ : ∃ C, c1 - P = C := ⟨_, rfl⟩
  have eP : (k1 : Int) - (k2 : Int) + 1 = (P : Int) := by omega
  have eM : (k1 : Int) - (P : Int) = (M : Int) := by omega
  have eC : (c1 : Int) - (P : Int) = (C : Int) := by omega
  have eM' : k1 - P = M := by omega
  have hPk : P ≤ k1 := by omega
  have hPi : (P : Int) ≤ (k1 : Int) := by omega
  obtain ⟨sg, hsg⟩ : ∃ s, sgn n1 n2 = s := ⟨_, rfl⟩
  have hsg0 : ¬ sg < 0 := by
    rw [← hsg]
    rcases Nat.eq_or_lt_of_le hle with e | e
    · rw [e, sgn_eq]; omega
    · rw [sgn_gt e]; omega
  have HO := norder_c (some ⟨b1, o1, none⟩) a2 k1 k2 c1 c2 n1 n2 w h1 h2
  rw [hsg] at HO
  have HO := Lib.hid HO
  have R1 := Lib.hid r1
  have H2 := Lib.hid h2
  have HLE := Lib.hid hle
  have HD := Lib.hid hd
  have S1 := Lib.hid s1
  have T1 := Lib.hid ht1
  have hmk := fun w => mk_digits P (by omega) w
  clear h1 h2 hle hd r1 s1 ht1 hsg
  by_cases hCP : c1 = P
  · obtain rfl : M = 0 := by omega
    obtain rfl : C = 0 := by omega
    obtain rfl : P = c1 := hCP.symm
    have eM0 : (k1 : Int) - (P : Int) = 0 := by omega
    have eC0 : (P : Int) - (P : Int) = 0 := by omega
    clear eM eC
    go_enter Tryz.func58, Tryz.ntmps58
    go_wp2_with fail
    refine HO.out.mono ?_
    rintro e w1 ⟨rfl, q0, hw1⟩
    have B1 : Hid (Below w.heap.size w w1) := by rw [hw1]; exact bel_drewN _ _
    have R1' := Lib.hid (R1.out.below B1.out)
    have H2' := Lib.hid (H2.out.below B1.out)
    clear hw1 HO
    obtain ⟨W2, hW2⟩ : ∃ W, w1.alloc (.cells (madeCells #[.int .i64 0] P) 3) = W := ⟨_, rfl⟩
    have BT : Hid (Bt W2 w1.heap.size P (fun _ => 0)) := by rw [← hW2]; exact Bt.made _ _ _
    have B12 : Hid (Below w1.heap.size w1 W2) := by rw [← hW2]; exact bel_one _ _
    obtain ⟨W3, hW3⟩ : ∃ W, W2.alloc (.cells #[] 3) = W := ⟨_, rfl⟩
    have OW : Hid (W3.ownsRow W2.heap.size 3 1 (.slice (some ⟨W2.heap.size, 0, none⟩) 0 0) 0 []) := by rw [← hW3]; exact World.ownsRow_lit W2 #[] 0 (Nat.le_refl _) (by decide) rfl
    have B23 : Hid (Below W2.heap.size W2 W3) := by rw [← hW3]; exact bel_one _ _
    have hW2s := B23.out.size
    go_wp2_with (at_builtin; refine wpList_append_own _ rfl _ _ 50 rfl W2.heap.size 3 i0 (.int .i64 0) 1 8 Tryz.underlying50 hi hz0 hz1 hz2 rfl (by decide) _ _ _ rfl OW.out ⟨b1, o1, none⟩ 0 0 [] rfl rfl ?c1 ?c2 ?c3 ?c4 ?c5 ?_)
    try (case c1 => intro i u hu; simp at hu)
    try (case c2 => intro u hu; simp at hu)
    try (case c3 => unfold maxLen; omega)
    try (case c4 => omega)
    try (case c5 => exact hW2s)
    intro v' w4 hown' hgrow hnil
    have hown' : w4.ownsRow W2.heap.size 3 1 v' 0 (dvals (from_ f1 P) 0) := by first | exact hown' | (rw [Nat.zero_add] at hown'; exact hown')
    obtain ⟨gb, cap, rfl, hg1, hg2, hR4, hcap, hcap9⟩ := row_open (f := from_ f1 P) hown' hnil (by omega) (fun j hj => R1'.out.2.1 (P + j) (by omega))
    have B24 : Hid (Below W2.heap.size W2 w4) := B23.out.grown hgrow hW2s (fun b hb => by simp [Value.ownBlock] at hb; omega)
    have hW12 := B12.out.size
    have hW01 := B1.out.size
    have BB4 := Lib.hid ((B1.out.trans (B12.out.mono B1.out.size)).trans (B24.out.mono (by omega)))
    have OV0 : Hid (Qv w w1.heap.size P f1 k1 n2 P (Tn (from_ f1 P) 0) gb 0 0 cap (fun _ => 0) w4) := by
      refine ⟨BT.out.below B24.out, BB4.out, ⟨from_ f1 P, hR4, hcap, hcap9, ?_, rfl, Pl.some_ _ _⟩, ?_, ?_, fun _ _ => rfl, ?_⟩
      · rcases Nat.eq_zero_or_pos 0 with e | e
        · exact .inl e
        · refine .inr ?_
          rcases T1.out with t | t
          · omega
          · show f1 (P + (0 - 1)) ≠ 0
            rw [show P + (0 - 1) = k1 - 1 by omega]; exact t
      · have a := Tn_lt (f := from_ f1 P) (k := 0) (fun j hj => R1'.out.2.1 (P + j) (by omega))
        have b := H2'.out.pos hk2p
        rw [hM] at b
        omega
      · have := BT.out.1; omega
      · rw [eM', Nat.sub_self, show Tn (from_ (fun _ => 0) P) 0 = 0 from rfl, Nat.zero_mul, Nat.zero_add]
    obtain ⟨R0, hR0⟩ : ∃ R, Tn (from_ f1 P) 0 = R := ⟨_, rfl⟩
    rw [hR0] at OV0
    have hgw : w.heap.size ≤ w1.heap.size := B1.out.size
    clear hown' hgrow hnil hR4 hg1 hg2 BT B24 B12 B23 OW BB4 hW2 hW3 hmk hW2s hW12 hW01 R1' H2' B1 hR0
    obtain ⟨g0, hg0⟩ : ∃ g, w1.heap.size = g := ⟨_, rfl⟩
    rw [hg0] at OV0 hgw
    go_wp2_with fail
    rw [hg0]
    clear hg0
    go_loopw [8, 9] (fun v i wr => ∃ (j R gb go rk rc : Nat) (F : Nat → Nat), j ≤ P ∧ v = .slice (some ⟨gb, go, none⟩) rk rc ∧ i = .int .i64 ((j : Int) - 1) ∧ Hid (Qv w g0 P f1 k1 n2 j R gb go rk rc F wr)) (fun _ i _ => (intOf i + 1).toNat)
    case atStart => exact ⟨P, R0, gb, 0, 0, cap, fun _ => 0, Nat.le_refl _, rfl, rfl, OV0.out⟩
    case round =>
      clear OV0
      obtain ⟨j, R, gb, go, rk, rc, F, hj, rfl, rfl, hO⟩ := hrel
      rcases Nat.eq_zero_or_pos j with e | e
      · subst e
        have E : Hid (Tn F P = n1 / n2 ∧ R = n1 % n2) := by
          have h := hO.out.eq
          rw [Nat.sub_zero, Nat.sub_zero] at h
          have e1 : Tn (from_ f1 0) k1 = n1 := by rw [← S1.out]; exact Tn_congr fun i _ => by unfold from_; rw [Nat.zero_add]
          have e2 : Tn (from_ F 0) P = Tn F P := Tn_congr fun i _ => by unfold from_; rw [Nat.zero_add]
          rw [e1, e2] at h
          exact over_done h hO.out.lt
        have HT := Lib.hid (ntrim_c (some ⟨g0, 0, none⟩) P P F wr (hO.out.bt.rj (by omega)) (Nat.le_refl _) (by omega) (Pl.some_ _ _))
        go_wp2_with fail
        refine HT.out.mono ?_
        rintro e w5 ⟨m, rfl, hN, rfl⟩
        rw [E.out.1] at hN
        have RR : Hid (OvPost (n1 / n2) (n1 % n2) w (.returned (.tuple #[.slice (some ⟨g0, 0, none⟩) m P, .slice (some ⟨gb, go, none⟩) rk rc])) wr) := ⟨_, _, _, _, _, _, rfl, hN, by rw [← E.out.2]; exact hO.out.rest, hO.out.bel⟩
        clear hN HT hO
        go_wp2
        go_ret2
        exact RR.out
      · obtain ⟨p, rfl⟩ : ∃ p, j = p + 1 := ⟨j - 1, by omega⟩
        have ei : ((p + 1 : Nat) : Int) - 1 = (p : Int) := by omega
        rw [ei]
        have hpP : p < P := by omega
        have hpk : p < k1 := by omega
        have tpk : (p : Int) < (k1 : Int) := by omega
        obtain ⟨bx, ox, ex, _, g1⟩ := (R1.out.below hO.out.bel).at_ hpk
        injection ex with ex
        injection ex with ex1 ex2
        subst ex1 ex2
        have hx9 := R1.out.2.1 p hpk
        obtain ⟨x0, hx0⟩ : ∃ x, f1 p = x := ⟨_, rfl⟩
        rw [hx0] at g1 hx9
        have HX0 := Lib.hid hx0
        clear hx0
        have hrk : rk ≤ k2 := hO.out.rest.len (Nat.lt_trans hO.out.lt H2.out.lt)
        obtain ⟨fr, hfr, hrkc, hrc9, _, hfs, _⟩ := id hO.out.rest
        have FR := Lib.hid hfr
        have FS := Lib.hid hfs
        clear hfr hfs
        obtain ⟨W5, hW5⟩ : ∃ W, wr.alloc (.cells #[.int .i64 (x0 : Int)] 3) = W := ⟨_, rfl⟩
        have OW5 : Hid (W5.ownsRow wr.heap.size 3 1 (.slice (some ⟨wr.heap.size, 0, none⟩) 1 1) 1 [.int .i64 (x0 : Int)]) := by rw [← hW5]; exact World.ownsRow_lit wr #[.int .i64 (x0 : Int)] 1 (Nat.le_refl _) (by decide) rfl
        have B5 : Hid (Below wr.heap.size wr W5) := by rw [← hW5]; exact bel_one _ _
        have hW5s := B5.out.size
        go_wp2_with (at_builtin; refine wpList_append_own _ rfl _ _ 50 rfl wr.heap.size 3 i0 (.int .i64 0) 1 8 Tryz.underlying50 hi hz0 hz1 hz2 rfl (by decide) _ _ _ rfl OW5.out ⟨gb, go, none⟩ rk rc (dvals (from_ fr 0) rk) rfl (by simp [dvals]) ?d1Z ?d2Z ?d3Z ?d4Z ?d5Z ?_)
        try (case d1Z => intro i u hu; first | exact win_cell0 (FR.out.below B5.out) (Nat.le_refl _) hu | exact win_cell (P := 0) (FR.out.below B5.out) (by omega) hu)
        try (case d2Z => intro u hu; exact dvals_cell hu)
        try (case d3Z => unfold maxLen; omega)
        try (case d4Z => omega)
        try (case d5Z => exact hW5s)
        intro v6 w6 hown6 hgrow6 hnil6
        have hown6 : w6.ownsRow wr.heap.size 3 1 v6 (1 + rk) (dvals (front x0 (from_ fr 0)) (1 + rk)) := by rw [dvals_front]; exact hown6
        obtain ⟨g6, cap6, rfl, hg61, hg62, hR6, hcap6, hcap69⟩ := row_open hown6 hnil6 (by omega) (by rw [Nat.add_comm]; exact ld_front hx9 (fun j hj => FR.out.2.1 (0 + j) (by omega)))
        have B56 : Hid (Below wr.heap.size wr w6) := B5.out.grown hgrow6 hW5s (fun b hb => by simp [Value.ownBlock] at hb; omega)
        have B6 := Lib.hid (hO.out.bel.trans (B56.out.mono hO.out.bel.size))
        obtain ⟨x, hx⟩ : ∃ x, x0 + 1000000000 * R = x := ⟨_, rfl⟩
        have EX : Tn (front x0 (from_ fr 0)) (1 + rk) = x := by
          rw [Nat.add_comm, Tn_fronts, ← hx, ← FS.out]
          rw [Tn_congr (f := from_ fr 0) (g := fr) fun i _ => by unfold from_; rw [Nat.zero_add]]
        have HT6 := ntrim_c (some ⟨g6, 0, none⟩) (1 + rk) cap6 _ w6 hR6 hcap6 hcap69 (Pl.some_ _ _)
        rw [EX] at HT6
        have HT6 := Lib.hid HT6
        have HX := Lib.hid hx
        have hg6 : g6 ≠ g0 := by have := hO.out.bt.1; omega
        have HBT6 := Lib.hid (hO.out.bt.below B56.out)
        have HOE := Lib.hid hO.out.eq
        have HOL := Lib.hid hO.out.low
        have HOR := Lib.hid hO.out.lt
        have hwr := hO.out.bel.size
        clear hown6 hgrow6 hnil6 hR6 EX hx g1 OW5 hW5 hW5s B5 B56 FR FS hO hg61 hg62 hcap6
        go_wp2_with fail
        refine HT6.out.mono ?_
        rintro e w7 ⟨m6, rfl, hN6, rfl⟩
        have HO7 := norder_c (some ⟨g6, 0, none⟩) a2 m6 k2 cap6 c2 x n2 w6 hN6 (H2.out.below B6.out)
        have N6 := Lib.hid hN6
        clear hN6 HT6
        by_cases hxd : x < n2
        · rw [sgn_lt hxd] at HO7
          have HO7 := Lib.hid HO7
          have NX : ∀ q8, Hid (Qv w g0 P f1 k1 n2 p x g6 0 m6 cap6 F (w6.drewN q8)) := fun q8 =>
            ⟨HBT6.out.drew q8, drewN_bel B6.out q8, N6.out.below (bel_drewN _ _), hxd, hg6, fun q hq => HOL.out q (by omega), over_step hpP hpk (by rw [HX0.out, HX.out]) HOE.out (q := 0) (by omega) (HOL.out p (by omega))⟩
          clear HBT6 B6 N6 HOE HOL HOR HX
          go_wp2_with fail
          refine HO7.out.mono ?_
          rintro e w8 ⟨rfl, q8, rfl⟩
          have NX := NX q8
          clear HO7
          go_wp2
          go_roundw
          case rel => exact ⟨p, x, g6, 0, m6, cap6, F, by omega, rfl, by go_num, NX.out⟩
          case measure => simp [intOf]
        · obtain ⟨s2, hs2⟩ : ∃ s, sgn x n2 = s := ⟨_, rfl⟩
          rw [hs2] at HO7
          have hs20 : ¬ s2 < 0 := by
            rw [← hs2]
            rcases Nat.eq_or_lt_of_le (Nat.le_of_not_lt hxd) with e | e
            · rw [← e, sgn_eq]; omega
            · rw [sgn_gt e]; omega
          have HO7 := Lib.hid HO7
          clear hs2
          obtain ⟨q, hq⟩ : ∃ q, x / n2 = q := ⟨_, rfl⟩
          have hq9 : q ≤ 999999999 := by
            have := digit_lt HD.out HX.out.symm hx9 HOR.out
            omega
          have HQ := Lib.hid hq
          have HXD := Lib.hid hxd
          clear hq hxd
          go_wp2_with fail
          refine HO7.out.mono ?_
          rintro e w8 ⟨rfl, q8, hw8⟩
          have SV8 : Hid (Sv w g0 P F g6 m6 cap6 x w8) := by rw [hw8]; exact ⟨HBT6.out.drew q8, drewN_bel B6.out q8, N6.out.below (bel_drewN _ _)⟩
          clear HO7 hw8 HBT6 B6 N6
          go_wp2_with fail
          go_loopw [10, 11] (fun l h wi => ∃ lo hi : Nat, lo ≤ q ∧ q ≤ hi ∧ hi ≤ 999999999 ∧ l = .int .i64 lo ∧ h = .int .i64 hi ∧ Hid (Sv w g0 P F g6 m6 cap6 x wi)) (fun l h _ => (intOf h - intOf l).toNat)
          case atStart => exact ⟨0, 999999999, by omega, hq9, by omega, rfl, rfl, SV8.out⟩
          case round =>
            clear SV8
            obtain ⟨lo, hi', hlo, hhi, hhi9, rfl, rfl, hS⟩ := hrel
            by_cases hlt : lo < hi'
            · obtain ⟨s3, hs3⟩ : ∃ s, lo + hi' + 1 = s := ⟨_, rfl⟩
              obtain ⟨n, hn⟩ : ∃ n, s3 / 2 = n := ⟨_, rfl⟩
              have e3 : (lo : Int) + (hi' : Int) + 1 = (s3 : Int) := by omega
              have e4 : (s3 : Int).tdiv 2 = (n : Int) := by rw [Int.tdiv_eq_ediv_of_nonneg (by omega)]; omega
              have hn1 : lo < n := by omega
              have hn2 : n ≤ hi' := by omega
              have tlt : (lo : Int) < (hi' : Int) := by omega
              have hs39 : s3 < 2000000000 := by omega
              clear hs3 hn
              have HSM := Lib.hid (nsmall_c n wr (by omega))
              go_wp2_with fail
              refine HSM.out.mono ?_
              rintro e v1 ⟨sa, ks, cs, rfl, hN1, c1'⟩
              have S1' := Lib.hid (hS.out.keep c1')
              have hks : ks ≤ 1 := hN1.len (by rw [tp_one]; omega)
              have HTM := Lib.hid (ntimes_c a2 sa k2 ks c2 cs n2 n v1 (H2.out.below S1'.out.bel) hN1 (by omega))
              clear HSM hN1 c1' hS
              go_wp2_with fail
              refine HTM.out.mono ?_
              rintro e v2 ⟨ta, kt, ct, rfl, hN2, c2'⟩
              have S2' := Lib.hid (S1'.out.keep c2')
              have HOR2 := norder_c ta (some ⟨g6, 0, none⟩) kt m6 ct cap6 (n2 * n) x v2 hN2 S2'.out.rest
              clear HTM hN2 c2' S1'
              by_cases hle : n2 * n ≤ x
              · obtain ⟨s5, hs5⟩ : ∃ s, sgn (n2 * n) x = s := ⟨_, rfl⟩
                have h5 : s5 ≤ 0 := by rw [← hs5]; exact sgn_le hle
                have hnq : n ≤ q := by rw [← HQ.out]; exact search_up HD.out hle
                rw [hs5] at HOR2
                have HOR2 := Lib.hid HOR2
                clear hs5 hle
                go_wp2_with fail
                refine HOR2.out.mono ?_
                rintro e v3 ⟨rfl, q3, rfl⟩
                have S3' := Lib.hid (S2'.out.keep (bel_drewN v2 q3))
                clear HOR2 S2'
                go_wp2
                go_roundw
                case rel => exact ⟨n, hi', hnq, hhi, hhi9, rfl, rfl, S3'.out⟩
                case measure => simp [intOf]; omega
              · obtain ⟨s5, hs5⟩ : ∃ s, sgn (n2 * n) x = s := ⟨_, rfl⟩
                have h5 : ¬ s5 ≤ 0 := by rw [← hs5, sgn_gt (by omega)]; omega
                have hnq : q ≤ n - 1 := by rw [← HQ.out]; exact search_down HD.out (by omega)
                obtain ⟨n', rfl⟩ : ∃ n', n = n' + 1 := ⟨n - 1, by omega⟩
                have en : ((n' + 1 : Nat) : Int) - 1 = (n' : Int) := by omega
                rw [hs5] at HOR2
                have HOR2 := Lib.hid HOR2
                clear hs5 hle
                go_wp2_with fail
                refine HOR2.out.mono ?_
                rintro e v3 ⟨rfl, q3, rfl⟩
                have S3' := Lib.hid (S2'.out.keep (bel_drewN v2 q3))
                clear HOR2 S2'
                go_wp2
                go_roundw
                case rel => exact ⟨lo, n', hlo, by omega, by omega, rfl, by go_num, S3'.out⟩
                case measure => simp [intOf]; omega
            · obtain rfl : lo = q := by omega
              have tlt : ¬ (lo : Int) < (hi' : Int) := by omega
              have hB := hS.out.bt.2.2 p hpP
              have hb := hB.1
              have hf := hB.2
              clear hB
              obtain ⟨W9, hW9⟩ : ∃ W, wr.setCell ⟨g0, p, none⟩ (.int .i64 (lo : Int)) = W := ⟨_, rfl⟩
              have S9 : Hid (Sv w g0 P (put F p lo) g6 m6 cap6 x W9) := by
                rw [← hW9]
                exact ⟨hS.out.bt.put hpP (by omega), hS.out.bel.setCell (p := ⟨g0, p, none⟩) hgw _, hS.out.rest.store hg6 _⟩
              have HSM := Lib.hid (nsmall_c lo W9 (by omega))
              clear hS
              go_wp2_with fail
              clear hW9 hb hf
              refine HSM.out.mono ?_
              rintro e v1 ⟨sa, ks, cs, rfl, hN1, c1'⟩
              have S1' := Lib.hid (S9.out.keep c1')
              have hks : ks ≤ 1 := hN1.len (by rw [tp_one]; omega)
              have HTM := Lib.hid (ntimes_c a2 sa k2 ks c2 cs n2 lo v1 (H2.out.below S1'.out.bel) hN1 (by omega))
              clear HSM hN1 c1' S9
              go_wp2_with fail
              refine HTM.out.mono ?_
              rintro e v2 ⟨ta, kt, ct, rfl, hN2, c2'⟩
              have S2' := Lib.hid (S1'.out.keep c2')
              have hql : n2 * lo ≤ x := by rw [← HQ.out]; exact Nat.mul_div_le x n2
              have hm6p : 0 < m6 := S2'.out.rest.one (by have := HXD.out; have := HD.out; omega)
              have hm6 : m6 ≤ k2 + 1 := S2'.out.rest.len (by
                have a := H2.out.lt
                have b : 1000000000 * (n2 + 0) ≤ 1000000000 * tp k2 := Nat.mul_le_mul_left _ (by omega)
                have c : 1000000000 * (R + 1) ≤ 1000000000 * n2 := Nat.mul_le_mul_left _ HOR.out
                have d := HX.out
                rw [tp_succ, Nat.mul_comm]
                omega)
              have HM := Lib.hid (nminus_f (some ⟨g6, 0, none⟩) ta m6 kt cap6 ct x (n2 * lo) v2 S2'.out.rest hN2 hql (by omega))
              have hg0v : g0 < v2.heap.size := S2'.out.bt.1
              clear HTM hN2 c2' S1'
              go_wp2_with fail
              refine HM.out.mono ?_
              rintro e v3 ⟨ar, kr, cr, rfl, hN3, c3', hfr3, hsm3⟩
              obtain ⟨br, ro, rfl⟩ := hsm3 hm6p
              have hbr : br ≠ g0 := by have := hfr3 br ro rfl; omega
              have NX : Hid (Qv w g0 P f1 k1 n2 p (x - n2 * lo) br ro kr cr (put F p lo) v3) := by
                have dr := digit_rest (x := x) (d := n2)
                rw [HQ.out] at dr
                refine ⟨S2'.out.bt.below c3', S2'.out.bel.trans (c3'.mono S2'.out.bel.size), hN3, dr.2 HD.out, hbr, fun i hi => by rw [put_ne (by omega)]; exact HOL.out i (by omega), ?_⟩
                have E1 : Tn (from_ (put F p lo) (p + 1)) (P - (p + 1)) = Tn (from_ F (p + 1)) (P - (p + 1)) := Tn_congr fun i _ => by unfold from_; rw [put_ne (by omega)]
                exact over_step hpP hpk (by rw [HX0.out, HX.out]) (by rw [E1]; exact HOE.out) dr.1 (put_same _ _ _)
              clear HM hN3 c3' hfr3 hsm3 S2'
              go_wp2
              go_roundw
              case rel => exact ⟨p, x - n2 * lo, br, ro, kr, cr, put F p lo, by omega, rfl, by go_num, NX.out⟩
              case measure => simp [intOf]
  · go_enter Tryz.func58, Tryz.ntmps58
    go_wp2_with fail
    refine HO.out.mono ?_
    rintro e w1 ⟨rfl, q0, hw1⟩
    have B1 : Hid (Below w.heap.size w w1) := by rw [hw1]; exact bel_drewN _ _
    have R1' := Lib.hid (R1.out.below B1.out)
    have H2' := Lib.hid (H2.out.below B1.out)
    clear hw1 HO
    obtain ⟨W2, hW2⟩ : ∃ W, w1.alloc (.cells (madeCells #[.int .i64 0] P) 3) = W := ⟨_, rfl⟩
    have BT : Hid (Bt W2 w1.heap.size P (fun _ => 0)) := by rw [← hW2]; exact Bt.made _ _ _
    have B12 : Hid (Below w1.heap.size w1 W2) := by rw [← hW2]; exact bel_one _ _
    obtain ⟨W3, hW3⟩ : ∃ W, W2.alloc (.cells #[] 3) = W := ⟨_, rfl⟩
    have OW : Hid (W3.ownsRow W2.heap.size 3 1 (.slice (some ⟨W2.heap.size, 0, none⟩) 0 0) 0 []) := by rw [← hW3]; exact World.ownsRow_lit W2 #[] 0 (Nat.le_refl _) (by decide) rfl
    have B23 : Hid (Below W2.heap.size W2 W3) := by rw [← hW3]; exact bel_one _ _
    have hW2s := B23.out.size
    go_wp2_with (at_builtin; refine wpList_append_own _ rfl _ _ 50 rfl W2.heap.size 3 i0 (.int .i64 0) 1 8 Tryz.underlying50 hi hz0 hz1 hz2 rfl (by decide) _ _ _ rfl OW.out ⟨b1, o1 + P, none⟩ M C (dvals (from_ f1 P) M) rfl (by simp [dvals]) ?c1 ?c2 ?c3 ?c4 ?c5 ?_)
    try (case c1 => intro i u hu; exact win_cell ((R1'.out.below B12.out).below B23.out) (by omega) hu)
    try (case c2 => intro u hu; exact dvals_cell hu)
    try (case c3 => unfold maxLen; omega)
    try (case c4 => omega)
    try (case c5 => exact hW2s)
    intro v' w4 hown' hgrow hnil
    have hown' : w4.ownsRow W2.heap.size 3 1 v' M (dvals (from_ f1 P) M) := by first | exact hown' | (rw [Nat.zero_add] at hown'; exact hown')
    obtain ⟨gb, cap, rfl, hg1, hg2, hR4, hcap, hcap9⟩ := row_open (f := from_ f1 P) hown' hnil (by omega) (fun j hj => R1'.out.2.1 (P + j) (by omega))
    have B24 : Hid (Below W2.heap.size W2 w4) := B23.out.grown hgrow hW2s (fun b hb => by simp [Value.ownBlock] at hb; omega)
    have hW12 := B12.out.size
    have hW01 := B1.out.size
    have BB4 := Lib.hid ((B1.out.trans (B12.out.mono B1.out.size)).trans (B24.out.mono (by omega)))
    have OV0 : Hid (Qv w w1.heap.size P f1 k1 n2 P (Tn (from_ f1 P) M) gb 0 M cap (fun _ => 0) w4) := by
      refine ⟨BT.out.below B24.out, BB4.out, ⟨from_ f1 P, hR4, hcap, hcap9, ?_, rfl, Pl.some_ _ _⟩, ?_, ?_, fun _ _ => rfl, ?_⟩
      · rcases Nat.eq_zero_or_pos M with e | e
        · exact .inl e
        · refine .inr ?_
          rcases T1.out with t | t
          · omega
          · show f1 (P + (M - 1)) ≠ 0
            rw [show P + (M - 1) = k1 - 1 by omega]; exact t
      · have a := Tn_lt (f := from_ f1 P) (k := M) (fun j hj => R1'.out.2.1 (P + j) (by omega))
        have b := H2'.out.pos hk2p
        rw [hM] at b
        omega
      · have := BT.out.1; omega
      · rw [eM', Nat.sub_self, show Tn (from_ (fun _ => 0) P) 0 = 0 from rfl, Nat.zero_mul, Nat.zero_add]
    obtain ⟨R0, hR0⟩ : ∃ R, Tn (from_ f1 P) M = R := ⟨_, rfl⟩
    rw [hR0] at OV0
    have hgw : w.heap.size ≤ w1.heap.size := B1.out.size
    clear hown' hgrow hnil hR4 hg1 hg2 BT B24 B12 B23 OW BB4 hW2 hW3 hmk hW2s hW12 hW01 R1' H2' B1 hR0
    obtain ⟨g0, hg0⟩ : ∃ g, w1.heap.size = g := ⟨_, rfl⟩
    rw [hg0] at OV0 hgw
    go_wp2_with fail
    rw [hg0]
    clear hg0
    go_loopw [8, 9] (fun v i wr => ∃ (j R gb go rk rc : Nat) (F : Nat → Nat), j ≤ P ∧ v = .slice (some ⟨gb, go, none⟩) rk rc ∧ i = .int .i64 ((j : Int) - 1) ∧ Hid (Qv w g0 P f1 k1 n2 j R gb go rk rc F wr)) (fun _ i _ => (intOf i + 1).toNat)
    case atStart => exact ⟨P, R0, gb, 0, M, cap, fun _ => 0, Nat.le_refl _, rfl, rfl, OV0.out⟩
    case round =>
      clear OV0
      obtain ⟨j, R, gb, go, rk, rc, F, hj, rfl, rfl, hO⟩ := hrel
      rcases Nat.eq_zero_or_pos j with e | e
      · subst e
        have E : Hid (Tn F P = n1 / n2 ∧ R = n1 % n2) := by
          have h := hO.out.eq
          rw [Nat.sub_zero, Nat.sub_zero] at h
          have e1 : Tn (from_ f1 0) k1 = n1 := by rw [← S1.out]; exact Tn_congr fun i _ => by unfold from_; rw [Nat.zero_add]
          have e2 : Tn (from_ F 0) P = Tn F P := Tn_congr fun i _ => by unfold from_; rw [Nat.zero_add]
          rw [e1, e2] at h
          exact over_done h hO.out.lt
        have HT := Lib.hid (ntrim_c (some ⟨g0, 0, none⟩) P P F wr (hO.out.bt.rj (by omega)) (Nat.le_refl _) (by omega) (Pl.some_ _ _))
        go_wp2_with fail
        refine HT.out.mono ?_
        rintro e w5 ⟨m, rfl, hN, rfl⟩
        rw [E.out.1] at hN
        have RR : Hid (OvPost (n1 / n2) (n1 % n2) w (.returned (.tuple #[.slice (some ⟨g0, 0, none⟩) m P, .slice (some ⟨gb, go, none⟩) rk rc])) wr) := ⟨_, _, _, _, _, _, rfl, hN, by rw [← E.out.2]; exact hO.out.rest, hO.out.bel⟩
        clear hN HT hO
        go_wp2
        go_ret2
        exact RR.out
      · obtain ⟨p, rfl⟩ : ∃ p, j = p + 1 := ⟨j - 1, by omega⟩
        have ei : ((p + 1 : Nat) : Int) - 1 = (p : Int) := by omega
        rw [ei]
        have hpP : p < P := by omega
        have hpk : p < k1 := by omega
        have tpk : (p : Int) < (k1 : Int) := by omega
        obtain ⟨bx, ox, ex, _, g1⟩ := (R1.out.below hO.out.bel).at_ hpk
        injection ex with ex
        injection ex with ex1 ex2
        subst ex1 ex2
        have hx9 := R1.out.2.1 p hpk
        obtain ⟨x0, hx0⟩ : ∃ x, f1 p = x := ⟨_, rfl⟩
        rw [hx0] at g1 hx9
        have HX0 := Lib.hid hx0
        clear hx0
        have hrk : rk ≤ k2 := hO.out.rest.len (Nat.lt_trans hO.out.lt H2.out.lt)
        obtain ⟨fr, hfr, hrkc, hrc9, _, hfs, _⟩ := id hO.out.rest
        have FR := Lib.hid hfr
        have FS := Lib.hid hfs
        clear hfr hfs
        obtain ⟨W5, hW5⟩ : ∃ W, wr.alloc (.cells #[.int .i64 (x0 : Int)] 3) = W := ⟨_, rfl⟩
        have OW5 : Hid (W5.ownsRow wr.heap.size 3 1 (.slice (some ⟨wr.heap.size, 0, none⟩) 1 1) 1 [.int .i64 (x0 : Int)]) := by rw [← hW5]; exact World.ownsRow_lit wr #[.int .i64 (x0 : Int)] 1 (Nat.le_refl _) (by decide) rfl
        have B5 : Hid (Below wr.heap.size wr W5) := by rw [← hW5]; exact bel_one _ _
        have hW5s := B5.out.size
        go_wp2_with (at_builtin; refine wpList_append_own _ rfl _ _ 50 rfl wr.heap.size 3 i0 (.int .i64 0) 1 8 Tryz.underlying50 hi hz0 hz1 hz2 rfl (by decide) _ _ _ rfl OW5.out ⟨gb, go, none⟩ rk rc (dvals (from_ fr 0) rk) rfl (by simp [dvals]) ?d1N ?d2N ?d3N ?d4N ?d5N ?_)
        try (case d1N => intro i u hu; first | exact win_cell0 (FR.out.below B5.out) (Nat.le_refl _) hu | exact win_cell (P := 0) (FR.out.below B5.out) (by omega) hu)
        try (case d2N => intro u hu; exact dvals_cell hu)
        try (case d3N => unfold maxLen; omega)
        try (case d4N => omega)
        try (case d5N => exact hW5s)
        intro v6 w6 hown6 hgrow6 hnil6
        have hown6 : w6.ownsRow wr.heap.size 3 1 v6 (1 + rk) (dvals (front x0 (from_ fr 0)) (1 + rk)) := by rw [dvals_front]; exact hown6
        obtain ⟨g6, cap6, rfl, hg61, hg62, hR6, hcap6, hcap69⟩ := row_open hown6 hnil6 (by omega) (by rw [Nat.add_comm]; exact ld_front hx9 (fun j hj => FR.out.2.1 (0 + j) (by omega)))
        have B56 : Hid (Below wr.heap.size wr w6) := B5.out.grown hgrow6 hW5s (fun b hb => by simp [Value.ownBlock] at hb; omega)
        have B6 := Lib.hid (hO.out.bel.trans (B56.out.mono hO.out.bel.size))
        obtain ⟨x, hx⟩ : ∃ x, x0 + 1000000000 * R = x := ⟨_, rfl⟩
        have EX : Tn (front x0 (from_ fr 0)) (1 + rk) = x := by
          rw [Nat.add_comm, Tn_fronts, ← hx, ← FS.out]
          rw [Tn_congr (f := from_ fr 0) (g := fr) fun i _ => by unfold from_; rw [Nat.zero_add]]
        have HT6 := ntrim_c (some ⟨g6, 0, none⟩) (1 + rk) cap6 _ w6 hR6 hcap6 hcap69 (Pl.some_ _ _)
        rw [EX] at HT6
        have HT6 := Lib.hid HT6
        have HX := Lib.hid hx
        have hg6 : g6 ≠ g0 := by have := hO.out.bt.1; omega
        have HBT6 := Lib.hid (hO.out.bt.below B56.out)
        have HOE := Lib.hid hO.out.eq
        have HOL := Lib.hid hO.out.low
        have HOR := Lib.hid hO.out.lt
        have hwr := hO.out.bel.size
        clear hown6 hgrow6 hnil6 hR6 EX hx g1 OW5 hW5 hW5s B5 B56 FR FS hO hg61 hg62 hcap6
        go_wp2_with fail
        refine HT6.out.mono ?_
        rintro e w7 ⟨m6, rfl, hN6, rfl⟩
        have HO7 := norder_c (some ⟨g6, 0, none⟩) a2 m6 k2 cap6 c2 x n2 w6 hN6 (H2.out.below B6.out)
        have N6 := Lib.hid hN6
        clear hN6 HT6
        by_cases hxd : x < n2
        · rw [sgn_lt hxd] at HO7
          have HO7 := Lib.hid HO7
          have NX : ∀ q8, Hid (Qv w g0 P f1 k1 n2 p x g6 0 m6 cap6 F (w6.drewN q8)) := fun q8 =>
            ⟨HBT6.out.drew q8, drewN_bel B6.out q8, N6.out.below (bel_drewN _ _), hxd, hg6, fun q hq => HOL.out q (by omega), over_step hpP hpk (by rw [HX0.out, HX.out]) HOE.out (q := 0) (by omega) (HOL.out p (by omega))⟩
          clear HBT6 B6 N6 HOE HOL HOR HX
          go_wp2_with fail
          refine HO7.out.mono ?_
          rintro e w8 ⟨rfl, q8, rfl⟩
          have NX := NX q8
          clear HO7
          go_wp2
          go_roundw
          case rel => exact ⟨p, x, g6, 0, m6, cap6, F, by omega, rfl, by go_num, NX.out⟩
          case measure => simp [intOf]
        · obtain ⟨s2, hs2⟩ : ∃ s, sgn x n2 = s := ⟨_, rfl⟩
          rw [hs2] at HO7
          have hs20 : ¬ s2 < 0 := by
            rw [← hs2]
            rcases Nat.eq_or_lt_of_le (Nat.le_of_not_lt hxd) with e | e
            · rw [← e, sgn_eq]; omega
            · rw [sgn_gt e]; omega
          have HO7 := Lib.hid HO7
          clear hs2
          obtain ⟨q, hq⟩ : ∃ q, x / n2 = q := ⟨_, rfl⟩
          have hq9 : q ≤ 999999999 := by
            have := digit_lt HD.out HX.out.symm hx9 HOR.out
            omega
          have HQ := Lib.hid hq
          have HXD := Lib.hid hxd
          clear hq hxd
          go_wp2_with fail
          refine HO7.out.mono ?_
          rintro e w8 ⟨rfl, q8, hw8⟩
          have SV8 : Hid (Sv w g0 P F g6 m6 cap6 x w8) := by rw [hw8]; exact ⟨HBT6.out.drew q8, drewN_bel B6.out q8, N6.out.below (bel_drewN _ _)⟩
          clear HO7 hw8 HBT6 B6 N6
          go_wp2_with fail
          go_loopw [10, 11] (fun l h wi => ∃ lo hi : Nat, lo ≤ q ∧ q ≤ hi ∧ hi ≤ 999999999 ∧ l = .int .i64 lo ∧ h = .int .i64 hi ∧ Hid (Sv w g0 P F g6 m6 cap6 x wi)) (fun l h _ => (intOf h - intOf l).toNat)
          case atStart => exact ⟨0, 999999999, by omega, hq9, by omega, rfl, rfl, SV8.out⟩
          case round =>
            clear SV8
            obtain ⟨lo, hi', hlo, hhi, hhi9, rfl, rfl, hS⟩ := hrel
            by_cases hlt : lo < hi'
            · obtain ⟨s3, hs3⟩ : ∃ s, lo + hi' + 1 = s := ⟨_, rfl⟩
              obtain ⟨n, hn⟩ : ∃ n, s3 / 2 = n := ⟨_, rfl⟩
              have e3 : (lo : Int) + (hi' : Int) + 1 = (s3 : Int) := by omega
              have e4 : (s3 : Int).tdiv 2 = (n : Int) := by rw [Int.tdiv_eq_ediv_of_nonneg (by omega)]; omega
              have hn1 : lo < n := by omega
              have hn2 : n ≤ hi' := by omega
              have tlt : (lo : Int) < (hi' : Int) := by omega
              have hs39 : s3 < 2000000000 := by omega
              clear hs3 hn
              have HSM := Lib.hid (nsmall_c n wr (by omega))
              go_wp2_with fail
              refine HSM.out.mono ?_
              rintro e v1 ⟨sa, ks, cs, rfl, hN1, c1'⟩
              have S1' := Lib.hid (hS.out.keep c1')
              have hks : ks ≤ 1 := hN1.len (by rw [tp_one]; omega)
              have HTM := Lib.hid (ntimes_c a2 sa k2 ks c2 cs n2 n v1 (H2.out.below S1'.out.bel) hN1 (by omega))
              clear HSM hN1 c1' hS
              go_wp2_with fail
              refine HTM.out.mono ?_
              rintro e v2 ⟨ta, kt, ct, rfl, hN2, c2'⟩
              have S2' := Lib.hid (S1'.out.keep c2')
              have HOR2 := norder_c ta (some ⟨g6, 0, none⟩) kt m6 ct cap6 (n2 * n) x v2 hN2 S2'.out.rest
              clear HTM hN2 c2' S1'
              by_cases hle : n2 * n ≤ x
              · obtain ⟨s5, hs5⟩ : ∃ s, sgn (n2 * n) x = s := ⟨_, rfl⟩
                have h5 : s5 ≤ 0 := by rw [← hs5]; exact sgn_le hle
                have hnq : n ≤ q := by rw [← HQ.out]; exact search_up HD.out hle
                rw [hs5] at HOR2
                have HOR2 := Lib.hid HOR2
                clear hs5 hle
                go_wp2_with fail
                refine HOR2.out.mono ?_
                rintro e v3 ⟨rfl, q3, rfl⟩
                have S3' := Lib.hid (S2'.out.keep (bel_drewN v2 q3))
                clear HOR2 S2'
                go_wp2
                go_roundw
                case rel => exact ⟨n, hi', hnq, hhi, hhi9, rfl, rfl, S3'.out⟩
                case measure => simp [intOf]; omega
              · obtain ⟨s5, hs5⟩ : ∃ s, sgn (n2 * n) x = s := ⟨_, rfl⟩
                have h5 : ¬ s5 ≤ 0 := by rw [← hs5, sgn_gt (by omega)]; omega
                have hnq : q ≤ n - 1 := by rw [← HQ.out]; exact search_down HD.out (by omega)
                obtain ⟨n', rfl⟩ : ∃ n', n = n' + 1 := ⟨n - 1, by omega⟩
                have en : ((n' + 1 : Nat) : Int) - 1 = (n' : Int) := by omega
                rw [hs5] at HOR2
                have HOR2 := Lib.hid HOR2
                clear hs5 hle
                go_wp2_with fail
                refine HOR2.out.mono ?_
                rintro e v3 ⟨rfl, q3, rfl⟩
                have S3' := Lib.hid (S2'.out.keep (bel_drewN v2 q3))
                clear HOR2 S2'
                go_wp2
                go_roundw
                case rel => exact ⟨lo, n', hlo, by omega, by omega, rfl, by go_num, S3'.out⟩
                case measure => simp [intOf]; omega
            · obtain rfl : lo = q := by omega
              have tlt : ¬ (lo : Int) < (hi' : Int) := by omega
              have hB := hS.out.bt.2.2 p hpP
              have hb := hB.1
              have hf := hB.2
              clear hB
              obtain ⟨W9, hW9⟩ : ∃ W, wr.setCell ⟨g0, p, none⟩ (.int .i64 (lo : Int)) = W := ⟨_, rfl⟩
              have S9 : Hid (Sv w g0 P (put F p lo) g6 m6 cap6 x W9) := by
                rw [← hW9]
                exact ⟨hS.out.bt.put hpP (by omega), hS.out.bel.setCell (p := ⟨g0, p, none⟩) hgw _, hS.out.rest.store hg6 _⟩
              have HSM := Lib.hid (nsmall_c lo W9 (by omega))
              clear hS
              go_wp2_with fail
              clear hW9 hb hf
              refine HSM.out.mono ?_
              rintro e v1 ⟨sa, ks, cs, rfl, hN1, c1'⟩
              have S1' := Lib.hid (S9.out.keep c1')
              have hks : ks ≤ 1 := hN1.len (by rw [tp_one]; omega)
              have HTM := Lib.hid (ntimes_c a2 sa k2 ks c2 cs n2 lo v1 (H2.out.below S1'.out.bel) hN1 (by omega))
              clear HSM hN1 c1' S9
              go_wp2_with fail
              refine HTM.out.mono ?_
              rintro e v2 ⟨ta, kt, ct, rfl, hN2, c2'⟩
              have S2' := Lib.hid (S1'.out.keep c2')
              have hql : n2 * lo ≤ x := by rw [← HQ.out]; exact Nat.mul_div_le x n2
              have hm6p : 0 < m6 := S2'.out.rest.one (by have := HXD.out; have := HD.out; omega)
              have hm6 : m6 ≤ k2 + 1 := S2'.out.rest.len (by
                have a := H2.out.lt
                have b : 1000000000 * (n2 + 0) ≤ 1000000000 * tp k2 := Nat.mul_le_mul_left _ (by omega)
                have c : 1000000000 * (R + 1) ≤ 1000000000 * n2 := Nat.mul_le_mul_left _ HOR.out
                have d := HX.out
                rw [tp_succ, Nat.mul_comm]
                omega)
              have HM := Lib.hid (nminus_f (some ⟨g6, 0, none⟩) ta m6 kt cap6 ct x (n2 * lo) v2 S2'.out.rest hN2 hql (by omega))
              have hg0v : g0 < v2.heap.size := S2'.out.bt.1
              clear HTM hN2 c2' S1'
              go_wp2_with fail
              refine HM.out.mono ?_
              rintro e v3 ⟨ar, kr, cr, rfl, hN3, c3', hfr3, hsm3⟩
              obtain ⟨br, ro, rfl⟩ := hsm3 hm6p
              have hbr : br ≠ g0 := by have := hfr3 br ro rfl; omega
              have NX : Hid (Qv w g0 P f1 k1 n2 p (x - n2 * lo) br ro kr cr (put F p lo) v3) := by
                have dr := digit_rest (x := x) (d := n2)
                rw [HQ.out] at dr
                refine ⟨S2'.out.bt.below c3', S2'.out.bel.trans (c3'.mono S2'.out.bel.size), hN3, dr.2 HD.out, hbr, fun i hi => by rw [put_ne (by omega)]; exact HOL.out i (by omega), ?_⟩
                have E1 : Tn (from_ (put F p lo) (p + 1)) (P - (p + 1)) = Tn (from_ F (p + 1)) (P - (p + 1)) := Tn_congr fun i _ => by unfold from_; rw [put_ne (by omega)]
                exact over_step hpP hpk (by rw [HX0.out, HX.out]) (by rw [E1]; exact HOE.out) dr.1 (put_same _ _ _)
              clear HM hN3 c3' hfr3 hsm3 S2'
              go_wp2
              go_roundw
              case rel => exact ⟨p, x - n2 * lo, br, ro, kr, cr, put F p lo, by omega, rfl, by go_num, NX.out⟩
              case measure => simp [intOf]
end Go.Proofs.YtfijhkaalpinhaaGreatDoor
namespace Go.Proofs.YtfijhkaalpinhaaGreatDoor
open Go.RowKit

/-- The digit that lies at a place. -/
def digAt (W : World) (p : Addr) : Nat := match W.cell? p with
  | some (.int _ x) => x.toNat
  | _ => 0
/-- The number that a slice of digits is. -/
def ntAt (W : World) (v : Value) : Nat := match v with
  | .slice (some p) k _ => Tn (fun j => digAt W ⟨p.block, p.off + j, none⟩) k
  | _ => 0
theorem ntAt_is {W : World} {a : Option Addr} {k c n : Nat} (h : Nt W a k c n) : ntAt W (.slice a k c) = n := by
  obtain ⟨f, hr, _, _, _, hs, hp⟩ := h
  rw [← hs]
  rcases hp with ⟨rfl, _⟩ | ⟨b, off, rfl⟩
  · have hk : k = 0 := by
      rcases Nat.eq_zero_or_pos k with e | e
      · exact e
      · obtain ⟨b, off, he, _⟩ := hr.2.2 e
        cases he
    subst hk
    rfl
  · show Tn (fun j => digAt W ⟨b, off + j, none⟩) k = Tn f k
    refine Tn_congr (fun j hj => ?_)
    obtain ⟨b', off', e, _, hc⟩ := hr.at_ hj
    injection e with e
    injection e with e1 e2
    subst e1 e2
    unfold digAt
    rw [hc]
    simp
theorem nover_c (a1 a2 : Option Addr) (k1 k2 c1 c2 n1 n2 : Nat) (w : World) (h1 : Nt w a1 k1 c1 n1) (h2 : Nt w a2 k2 c2 n2) (hd : 0 < n2) (hk : k1 ≤ 99000) :
    Calls Tryz.prog 58 #[.slice a1 k1 c1, .slice a2 k2 c2] w (OvPost (n1 / n2) (n1 % n2) w) := by
  rcases Nat.lt_or_ge n1 n2 with l | l
  · rw [Nat.div_eq_of_lt l, Nat.mod_eq_of_lt l]
    exact nover_lt a1 a2 k1 k2 c1 c2 n1 n2 w h1 h2 l
  · have hk1 : 0 < k1 := h1.one (by omega)
    obtain ⟨f, hr, _⟩ := id h1
    obtain ⟨b, o, rfl, _⟩ := hr.2.2 hk1
    exact nover_ge b o a2 k1 k2 c1 c2 n1 n2 w h1 h2 l hd hk
/-- What the loop of the divisor keeps. -/
structure Ec (w : World) (n1 n2 : Nat) (pa pb : Option Addr) (ka ca kb cb x y : Nat) (wr : World) : Prop where
  a : Nt wr pa ka ca x
  b : Nt wr pb kb cb y
  bel : Below w.heap.size w wr
  gcd : Nat.gcd x y = Nat.gcd n1 n2
  ha : ka ≤ 99000
  hb : kb ≤ 99000
set_option maxRecDepth 100000 in
set_option maxHeartbeats 1000000 in
theorem ncommon_c (p1 p2 : Option Addr) (k1 k2 c1 c2 n1 n2 : Nat) (w : World) (h1 : Nt w p1 k1 c1 n1) (h2 : Nt w p2 k2 c2 n2) (hk1 : k1 ≤ 99000) (hk2 : k2 ≤ 99000) :
    Calls Tryz.prog 31 #[.slice p1 k1 c1, .slice p2 k2 c2] w (NtPost (Nat.gcd n1 n2) w) := by
  have I0 : Hid (Ec w n1 n2 p1 p2 k1 c1 k2 c2 n1 n2 w) := ⟨h1, h2, Below.refl _ _, rfl, hk1, hk2⟩
  clear h1 h2 hk1 hk2
  go_enter Tryz.func31, Tryz.ntmps31
  go_wp2_with fail
  go_loopw [0, 1] (fun va vb wr => ∃ (pa pb : Option Addr) (ka ca kb cb x y : Nat), va = .slice pa ka ca ∧ vb = .slice pb kb cb ∧ Hid (Ec w n1 n2 pa pb ka ca kb cb x y wr)) (fun _ vb W => ntAt W vb)
  case atStart => exact ⟨p1, p2, k1, c1, k2, c2, n1, n2, rfl, rfl, I0.out⟩
  case round =>
    clear I0
    obtain ⟨pa, pb, ka, ca, kb, cb, x, y, rfl, rfl, hI⟩ := hrel
    rcases Nat.eq_zero_or_pos kb with e | e
    · subst e
      have hy : y = 0 := by
        have := hI.out.b.lt
        rw [tp_zero] at this
        omega
      have RR : Hid (NtPost (Nat.gcd n1 n2) w (.returned (.slice pa ka ca)) wr) := ⟨pa, ka, ca, rfl, by
        have g := hI.out.gcd
        rw [hy, Nat.gcd_zero_right] at g
        rw [← g]; exact hI.out.a, hI.out.bel⟩
      clear hI
      go_wp2
      go_ret
      exact RR.out
    · have hy0 : 0 < y := by
        have := hI.out.b.pos e
        have := tp_pos (kb - 1)
        omega
      have ML := Lib.hid (ntAt_is hI.out.b)
      have e' : (0 : Int) < (kb : Int) := by omega
      have HV := Lib.hid (nover_c pa pb ka kb ca cb x y wr hI.out.a hI.out.b hy0 hI.out.ha)
      go_wp2_with fail
      refine HV.out.mono ?_
      rintro e w4 ⟨qa, qk, qc, ra, rk, rc, rfl, _, hr, b4⟩
      have NX : Hid (Ec w n1 n2 pb ra kb cb rk rc y (x % y) w4) := ⟨hI.out.b.below b4, hr, hI.out.bel.trans (b4.mono hI.out.bel.size), by rw [← hI.out.gcd, Nat.gcd_comm y, ← Nat.gcd_rec, Nat.gcd_comm], hI.out.hb, by
        have l := hr.len (Nat.lt_trans (Nat.mod_lt x hy0) hI.out.b.lt)
        have := hI.out.hb
        omega⟩
      clear hr b4 HV hI
      go_wp2
      go_roundw
      case rel => exact ⟨pb, ra, kb, cb, rk, rc, y, x % y, rfl, rfl, NX.out⟩
      case measure => rw [ntAt_is NX.out.b, ML.out]; exact Nat.mod_lt _ hy0
end Go.Proofs.YtfijhkaalpinhaaGreatDoor
namespace Go.Proofs.YtfijhkaalpinhaaGreatDoor
open Go.RowKit

structure B3 (W : World) (g : Nat) (x0 x1 x2 : Value) : Prop where
  c0 : W.cell? ⟨g, 0, none⟩ = some x0
  c1 : W.cell? ⟨g, 1, none⟩ = some x1
  c2 : W.cell? ⟨g, 2, none⟩ = some x2
  fr : ∀ o, W.frozen? ⟨g, o, none⟩ = false
  lt : g < W.heap.size
theorem B3.keep {W W' : World} {g : Nat} {x0 x1 x2 : Value} (h : B3 W g x0 x1 x2) (hb : Below W.heap.size W W') : B3 W' g x0 x1 x2 := by
  have c := fun (o : Nat) => hb.cell (p := ⟨g, o, none⟩) h.lt
  exact ⟨(c 0).trans h.c0, (c 1).trans h.c1, (c 2).trans h.c2, fun o => (hb.frozen (p := ⟨g, o, none⟩) h.lt).trans (h.fr o), Nat.lt_of_lt_of_le h.lt hb.size⟩
theorem B3.made (W : World) (x0 x1 x2 : Value) (T : TypeId) : B3 (W.alloc (.cells #[x0, x1, x2] T)) W.heap.size x0 x1 x2 := by
  refine ⟨?_, ?_, ?_, fun o => by simp, by simp⟩
  all_goals (rw [World.cell?_alloc_new]; rfl)
/-- All three cells are stored. -/
def three (W : World) (g : Nat) (y0 y1 y2 : Value) : World := ((W.setCell ⟨g, 0, none⟩ y0).setCell ⟨g, 1, none⟩ y1).setCell ⟨g, 2, none⟩ y2
theorem three_size (W : World) (g : Nat) (y0 y1 y2 : Value) : (three W g y0 y1 y2).heap.size = W.heap.size := by unfold three; simp
theorem B3.set {W : World} {g : Nat} {x0 x1 x2 : Value} (h : B3 W g x0 x1 x2) (y0 y1 y2 : Value) : B3 (three W g y0 y1 y2) g y0 y1 y2 := by
  unfold three
  refine ⟨?_, ?_, ?_, fun o => by simp only [World.frozen?_setCell]; exact h.fr o, by simpa using h.lt⟩
  · rw [World.cell?_setCell_other _ _ _ _ (addr_ne (by decide)), World.cell?_setCell_other _ _ _ _ (addr_ne (by decide)), World.cell?_setCell_same _ _ _ h.c0]
  · rw [World.cell?_setCell_other _ _ _ _ (addr_ne (by decide)), World.cell?_setCell_same _ _ _ (u := x1) (by rw [World.cell?_setCell_other _ _ _ _ (addr_ne (by decide))]; exact h.c1)]
  · rw [World.cell?_setCell_same _ _ _ (u := x2) (by rw [World.cell?_setCell_other _ _ _ _ (addr_ne (by decide)), World.cell?_setCell_other _ _ _ _ (addr_ne (by decide))]; exact h.c2)]
theorem three_cell {W : World} {g h : Nat} (hne : h ≠ g) (y0 y1 y2 : Value) (o : Nat) : (three W h y0 y1 y2).cell? ⟨g, o, none⟩ = W.cell? ⟨g, o, none⟩ := by
  unfold three
  rw [World.cell?_setCell_other _ _ _ _ (addr_ne' hne), World.cell?_setCell_other _ _ _ _ (addr_ne' hne), World.cell?_setCell_other _ _ _ _ (addr_ne' hne)]
theorem B3.other {W : World} {g h : Nat} {x0 x1 x2 : Value} (hb : B3 W g x0 x1 x2) (hne : h ≠ g) (y0 y1 y2 : Value) : B3 (three W h y0 y1 y2) g x0 x1 x2 :=
  ⟨(three_cell hne _ _ _ 0).trans hb.c0, (three_cell hne _ _ _ 1).trans hb.c1, (three_cell hne _ _ _ 2).trans hb.c2, fun o => by unfold three; simp only [World.frozen?_setCell]; exact hb.fr o, by rw [three_size]; exact hb.lt⟩
theorem B3.other2 {W : World} {g h : Nat} {x0 x1 x2 : Value} (hb : B3 W g x0 x1 x2) (hne : h ≠ g) (y0 y1 : Value) : B3 (two W h y0 y1) g x0 x1 x2 :=
  ⟨(two_cell hne _ _ 0).trans hb.c0, (two_cell hne _ _ 1).trans hb.c1, (two_cell hne _ _ 2).trans hb.c2, fun o => by unfold two; simp only [World.frozen?_setCell]; exact hb.fr o, by rw [two_size]; exact hb.lt⟩
theorem B2.other3 {W : World} {g h : Nat} {x0 x1 : Value} (hb : B2 W g x0 x1) (hne : h ≠ g) (y0 y1 y2 : Value) : B2 (three W h y0 y1 y2) g x0 x1 :=
  ⟨(three_cell hne _ _ _ 0).trans hb.c0, (three_cell hne _ _ _ 1).trans hb.c1, fun o => by unfold three; simp only [World.frozen?_setCell]; exact hb.fr o, by rw [three_size]; exact hb.lt⟩
theorem below_three {W0 W : World} {g : Nat} (h : Below W0.heap.size W0 W) (hg : W0.heap.size ≤ g) (y0 y1 y2 : Value) : Below W0.heap.size W0 (three W g y0 y1 y2) :=
  ((h.setCell (p := ⟨g, 0, none⟩) hg y0).setCell (p := ⟨g, 1, none⟩) hg y1).setCell (p := ⟨g, 2, none⟩) hg y2

/-! ### The texts of lowest terms -/
def shV (b : Bool) (m e : Nat) : ByteArray × ByteArray × Int :=
  if (decide ((Lib.decDigits m).length ≤ 2000) && decide ((Lib.decDigits e).length ≤ 2000)) = true then ((if (b && decide (0 < m)) = true then ⟨#[45]⟩ ++ decB m else decB m), decB e, 0) else (⟨#[]⟩, ⟨#[]⟩, 2)
theorem tdiv_zv (b : Bool) (p g : Nat) : (zv b p).tdiv (g : Int) = zv b (p / g) := by
  cases b
  · show (p : Int).tdiv g = ((p / g : Nat) : Int)
    rw [Int.tdiv_eq_ediv_of_nonneg (by omega)]
    omega
  · show (-(p : Int)).tdiv g = -((p / g : Nat) : Int)
    rw [Int.neg_tdiv, Int.tdiv_eq_ediv_of_nonneg (by omega)]
    omega
theorem tzB_zv (b : Bool) (m : Nat) : tzB (zv b m) = if (b && decide (0 < m)) = true then ⟨#[45]⟩ ++ decB m else decB m := by
  unfold tzB tz
  cases b
  · rw [zv_false, if_neg (by omega), Bool.false_and, if_neg (by simp)]
    rfl
  · rw [zv_true]
    rcases Nat.eq_zero_or_pos m with e | e
    · subst e; rfl
    · rw [if_pos (by omega), Bool.true_and, if_pos (by simpa using e), Int.natAbs_neg]
      apply ByteArray.ext
      simp [decB, ByteArray.data_append]
theorem raR_zv (b : Bool) (p d : Nat) (hd : 0 < d) : raR (zv b p) d = shV b (p / Nat.gcd p d) (d / Nat.gcd p d) := by
  have hg : ovG (zv b p) (d : Int) = ((Nat.gcd p d : Nat) : Int) := by
    unfold ovG
    rw [if_neg (by omega)]
    unfold Int.gcd
    rw [zv_abs, Int.natAbs_natCast]
  have h2 : (d : Int).tdiv ((Nat.gcd p d : Nat) : Int) = ((d / Nat.gcd p d : Nat) : Int) := tdiv_zv false d _
  unfold raR red
  rw [hg, tdiv_zv, h2]
  generalize p / Nat.gcd p d = m
  generalize d / Nat.gcd p d = e
  unfold ra fits shV
  rw [zv_abs, Int.natAbs_natCast, tzB_zv]
  have : tzB (e : Int) = decB e := tzB_zv false e
  rw [this]
end Go.Proofs.YtfijhkaalpinhaaGreatDoor
