/-
  Numbers of one digit to the base 10^9 in the reference: times, plus.
  Numbers of one digit to the base 10^9 in the reference: plus.
  Numbers of one digit to the base 10^9 in the reference: divide, divisor.
  The decimal text of a number of one digit to the base 10^9, in the reference.
-/
import Derived.Test.YtfldlcnlijljcaaGreatDoorRt13
import Derived.Lib.AppendIntMem
import Derived.Lib.QuietBelow
import Derived.Lib.SmallJoins
namespace Go.Proofs.YtfldlcnlijljcaaGreatDoor
open Go.RowKit

/-- A row whose places behind the first one are 0, before its zeros go. -/
theorem rtrims_c (b c n k : Nat) (w : World) (hkc : k ≤ c) (h1 : 1 ≤ k) (hk9 : k ≤ 3) (hc9 : c ≤ 9223372036854775807) (hn : n < 1000000000) (hb : b < w.heap.size) (hc : w.cell? ⟨b, 0, none⟩ = some (.int .i64 n)) (hz : ∀ j, 1 ≤ j → j < k → w.cell? ⟨b, j, none⟩ = some (.int .i64 0)) :
    Calls Tryz.prog 46 #[.slice (some ⟨b, 0, none⟩) k c] w (SmPost n w) := by
  have HB := Lib.hid hb
  have HN := Lib.hid hn
  have HC := Lib.hid hc
  have HZ := Lib.hid hz
  clear hb hn hc hz
  go_enter Tryz.func46, Tryz.ntmps46
  go_wp2
  go_loop [3] (fun i => ∃ m : Nat, m ≤ k ∧ (0 < n → 1 ≤ m) ∧ i = .int .i64 m) (fun i => (intOf i).toNat)
  case atStart => exact ⟨k, Nat.le_refl _, fun _ => h1, rfl⟩
  case round =>
    obtain ⟨m, hm, hp, rfl⟩ := hrel
    rcases Nat.eq_zero_or_pos m with h | h
    · subst h
      have h0 : n = 0 := by omega
      clear hp
      have HN0 := Lib.hid h0
      clear h0
      go_wp2
      go_ret
      exact ⟨_, 0, c, rfl, by rw [HN0.out]; exact Sm.zero _ _, Below.refl _ _⟩
    · obtain ⟨q, rfl⟩ : ∃ q, m = q + 1 := ⟨m - 1, by omega⟩
      have e1 : ((q + 1 : Nat) : Int) - 1 = (q : Int) := by omega
      by_cases hq : q = 0
      · subst hq
        by_cases h0 : n = 0
        · subst h0
          have g := HC.out
          clear hp
          go_wp2
          go_round
          case rel => exact ⟨0, by omega, fun h => by omega, rfl⟩
          case measure => simp [intOf]
        · have g := HC.out
          have d : ((n : Int) == 0) = false := by rw [beq_eq_false_iff_ne]; omega
          have d' : (n == 0) = false := by rw [beq_eq_false_iff_ne]; omega
          have HP := Lib.hid (Nat.pos_of_ne_zero h0)
          clear hp h0
          go_wp2
          go_ret
          exact ⟨_, 1, c, rfl, .inr ⟨rfl, HP.out, HN.out, b, 0, rfl, HB.out, HC.out⟩, Below.refl _ _⟩
      · have g := HZ.out q (by omega) (by omega)
        have HQ := Lib.hid hp
        clear hp
        go_wp2
        go_round
        case rel => exact ⟨q, by omega, fun _ => by omega, by go_num⟩
        case measure => simp [intOf]; try omega
theorem mk_row (k : Nat) (hk : k ≤ 3) (w : World) : (Instr.makeSlice 43 (.int .i64 k) (.int .i64 k)).run Tryz.prog w = .ok (.slice (some ⟨w.heap.size, 0, none⟩) k k) (w.alloc (.cells (madeCells #[.int .i64 0] k) 3)) := by
  have hmk := run_make_row' (P := Tryz.prog) 43 3 (.int .i64 0) 8 Tryz.underlying43 infoI rfl .i64 .i64 k (by omega) (by omega)
  simpa using hmk w
/-- A fresh row of zeros. -/
theorem made_row (k : Nat) (w : World) : Below w.heap.size w (w.alloc (.cells (madeCells #[.int .i64 0] k) 3)) ∧ w.heap.size < (w.alloc (.cells (madeCells #[.int .i64 0] k) 3)).heap.size ∧
    ∀ j, j < k → (w.alloc (.cells (madeCells #[.int .i64 0] k) 3)).cell? ⟨w.heap.size, j, none⟩ = some (.int .i64 0) ∧ (w.alloc (.cells (madeCells #[.int .i64 0] k) 3)).frozen? ⟨w.heap.size, j, none⟩ = false := by
  refine ⟨(Below.refl _ _).alloc (Nat.le_refl _) _, by simp, fun j hj => ⟨?_, by simp⟩⟩
  rw [World.cell?_alloc_new, ← Array.getElem?_toList, toList_madeCells_one]
  simp [hj]
theorem rtimes_nil0 (a1 a2 : Option Addr) (c1 c2 : Nat) (w : World) :
    Calls Tryz.prog 30 #[.slice a1 0 c1, .slice a2 0 c2] w (SmPost 0 w) := by
  have hmk : ∀ w : World, (Instr.makeSlice 43 (.int .i64 1) (.int .i64 1)).run Tryz.prog w = .ok (.slice (some ⟨w.heap.size, 0, none⟩) 1 1) (w.alloc (.cells (madeCells #[.int .i64 0] 1) 3)) := fun w => mk_row 1 (by omega) w
  go_enter Tryz.func30, Tryz.ntmps30
  go_wp2_with fail
  have M := Lib.hid (made_row 1 w)
  generalize w.alloc (.cells (madeCells #[.int .i64 0] 1) 3) = w1 at M
  clear hmk
  go_loop [19] (fun i => i = .int .i64 0) (fun _ => 0)
  case atStart => rfl
  case round =>
    obtain rfl := hrel
    go_wp2_with fail
    refine (rtrims_c w.heap.size 1 0 1 w1 (Nat.le_refl _) (by omega) (by omega) (by omega) (by omega) M.out.2.1 (M.out.2.2 0 (by omega)).1 (fun j _ h => (M.out.2.2 j h).1)).mono ?_
    rintro e w2 ⟨a, k, c, rfl, l, b⟩
    have L := Lib.hid l
    have B := Lib.hid (M.out.1.trans (b.mono M.out.1.size))
    clear l b
    go_wp2
    go_ret
    exact ⟨a, k, c, rfl, L.out, B.out⟩
theorem rtimes_nil1 (a1 a2 : Option Addr) (c1 c2 : Nat) (w : World) :
    Calls Tryz.prog 30 #[.slice a1 0 c1, .slice a2 1 c2] w (SmPost 0 w) := by
  have hmk : ∀ w : World, (Instr.makeSlice 43 (.int .i64 2) (.int .i64 2)).run Tryz.prog w = .ok (.slice (some ⟨w.heap.size, 0, none⟩) 2 2) (w.alloc (.cells (madeCells #[.int .i64 0] 2) 3)) := fun w => mk_row 2 (by omega) w
  go_enter Tryz.func30, Tryz.ntmps30
  go_wp2_with fail
  have M := Lib.hid (made_row 2 w)
  generalize w.alloc (.cells (madeCells #[.int .i64 0] 2) 3) = w1 at M
  clear hmk
  go_loop [19] (fun i => i = .int .i64 0) (fun _ => 0)
  case atStart => rfl
  case round =>
    obtain rfl := hrel
    go_wp2_with fail
    refine (rtrims_c w.heap.size 2 0 2 w1 (Nat.le_refl _) (by omega) (by omega) (by omega) (by omega) M.out.2.1 (M.out.2.2 0 (by omega)).1 (fun j _ h => (M.out.2.2 j h).1)).mono ?_
    rintro e w2 ⟨a, k, c, rfl, l, b⟩
    have L := Lib.hid l
    have B := Lib.hid (M.out.1.trans (b.mono M.out.1.size))
    clear l b
    go_wp2
    go_ret
    exact ⟨a, k, c, rfl, L.out, B.out⟩
theorem rtimes_none (a2 : Option Addr) (b1 o1 c1 c2 n1 : Nat) (w : World) (g1 : w.cell? ⟨b1, o1, none⟩ = some (.int .i64 n1)) :
    Calls Tryz.prog 30 #[.slice (some ⟨b1, o1, none⟩) 1 c1, .slice a2 0 c2] w (SmPost 0 w) := by
  have hmk : ∀ w : World, (Instr.makeSlice 43 (.int .i64 2) (.int .i64 2)).run Tryz.prog w = .ok (.slice (some ⟨w.heap.size, 0, none⟩) 2 2) (w.alloc (.cells (madeCells #[.int .i64 0] 2) 3)) := fun w => mk_row 2 (by omega) w
  clear g1
  go_enter Tryz.func30, Tryz.ntmps30
  go_wp2_with fail
  have M := Lib.hid (made_row 2 w)
  generalize w.alloc (.cells (madeCells #[.int .i64 0] 2) 3) = w1 at M
  clear hmk
  go_loop [19] (fun i => i = .int .i64 0 ∨ i = .int .i64 1) (fun i => 1 - (intOf i).toNat)
  case atStart => exact .inl rfl
  case round =>
    rcases hrel with rfl | rfl
    · go_wp2_with fail
      go_loop [7, 8] (fun c k => c = .int .i64 0 ∧ k = .int .i64 0) (fun _ _ => 0)
      case atStart => exact ⟨rfl, rfl⟩
      case round =>
        obtain ⟨rfl, rfl⟩ := hrel
        go_wp2
        go_round
        case rel => exact .inr rfl
        case measure => simp [intOf]
    · go_wp2_with fail
      refine (rtrims_c w.heap.size 2 0 2 w1 (Nat.le_refl _) (by omega) (by omega) (by omega) (by omega) M.out.2.1 (M.out.2.2 0 (by omega)).1 (fun j _ h => (M.out.2.2 j h).1)).mono ?_
      rintro e w2 ⟨a, k, c, rfl, l, b⟩
      have L := Lib.hid l
      have B := Lib.hid (M.out.1.trans (b.mono M.out.1.size))
      clear l b
      go_wp2
      go_ret
      exact ⟨a, k, c, rfl, L.out, B.out⟩
set_option maxRecDepth 100000 in
set_option maxHeartbeats 1000000 in
theorem rtimes_one (b1 o1 b2 o2 c1 c2 n1 n2 p : Nat) (w : World) (hp : n1 * n2 = p) (hp9 : p < 1000000000) (l1 : b1 < w.heap.size) (l2 : b2 < w.heap.size) (g1 : w.cell? ⟨b1, o1, none⟩ = some (.int .i64 n1)) (g2 : w.cell? ⟨b2, o2, none⟩ = some (.int .i64 n2)) :
    Calls Tryz.prog 30 #[.slice (some ⟨b1, o1, none⟩) 1 c1, .slice (some ⟨b2, o2, none⟩) 1 c2] w (SmPost p w) := by
  have hmk : ∀ w : World, (Instr.makeSlice 43 (.int .i64 3) (.int .i64 3)).run Tryz.prog w = .ok (.slice (some ⟨w.heap.size, 0, none⟩) 3 3) (w.alloc (.cells (madeCells #[.int .i64 0] 3) 3)) := fun w => mk_row 3 (by omega) w
  have hm : (n1 : Int) * (n2 : Int) = (p : Int) := by rw [← hp]; exact (Int.natCast_mul _ _).symm
  have hq : (p : Int).tdiv 1000000000 = 0 := by rw [Int.tdiv_eq_ediv_of_nonneg (by omega)]; omega
  have hr : (p : Int).tmod 1000000000 = p := by rw [Int.tmod_eq_emod_of_nonneg (by omega)]; omega
  have HP9 := Lib.hid hp9
  have hpi : (p : Int) < 1000000000 := by omega
  clear hp hp9
  go_enter Tryz.func30, Tryz.ntmps30
  go_wp2_with fail
  have M := Lib.hid (made_row 3 w)
  have G1 : Hid ((w.alloc (.cells (madeCells #[.int .i64 0] 3) 3)).cell? ⟨b1, o1, none⟩ = some (.int .i64 n1)) := by unfold Hid; rw [World.cell?_alloc_lt _ _ _ l1]; exact g1
  have G2 : Hid ((w.alloc (.cells (madeCells #[.int .i64 0] 3) 3)).cell? ⟨b2, o2, none⟩ = some (.int .i64 n2)) := by unfold Hid; rw [World.cell?_alloc_lt _ _ _ l2]; exact g2
  generalize w.alloc (.cells (madeCells #[.int .i64 0] 3) 3) = w1 at M G1 G2
  clear hmk g1 g2 l1 l2
  go_loopw [19] (fun i wr => (i = .int .i64 0 ∧ Hid (wr = w1)) ∨ (i = .int .i64 1 ∧ ∃ q, Hid (wr = (w1.drewN q).setCell ⟨w.heap.size, 0, none⟩ (.int .i64 p)))) (fun i _ => 1 - (intOf i).toNat)
  case atStart => exact .inl ⟨rfl, rfl⟩
  case round =>
    rcases hrel with ⟨rfl, hw⟩ | ⟨rfl, q, hw⟩
    · obtain rfl := hw.out
      go_wp2_with fail
      go_loopw [7, 8] (fun c k wi => c = .int .i64 0 ∧ ((k = .int .i64 0 ∧ Hid (wi = wr)) ∨ (k = .int .i64 1 ∧ ∃ q, Hid (wi = (wr.drewN q).setCell ⟨w.heap.size, 0, none⟩ (.int .i64 p))))) (fun _ k _ => 1 - (intOf k).toNat)
      case atStart => exact ⟨rfl, .inl ⟨rfl, rfl⟩⟩
      case round =>
        obtain ⟨rfl, ⟨rfl, hx⟩ | ⟨rfl, q, hx⟩⟩ := hrel
        · obtain rfl := hx.out
          have e1 := G1.out
          have e2 := G2.out
          have e3 := (M.out.2.2 0 (by omega)).1
          have e4 := (M.out.2.2 0 (by omega)).2
          go_wp2
          go_quiet (fail)
          go_wp2
          go_roundw
          case rel => exact ⟨rfl, .inr ⟨rfl, _, rfl⟩⟩
          case measure => simp [intOf]
        · go_wp2
          go_roundw
          case rel => exact .inr ⟨rfl, q, hx⟩
          case measure => simp [intOf]
    · have h0 : wr.cell? ⟨w.heap.size, 0, none⟩ = some (.int .i64 p) := by rw [hw.out]; exact World.cell?_setCell_same _ _ _ (show (w1.drewN q).cell? _ = some (.int .i64 0) from (M.out.2.2 0 (by omega)).1)
      have h1 : ∀ j, 1 ≤ j → j < 3 → wr.cell? ⟨w.heap.size, j, none⟩ = some (.int .i64 0) := fun j a b => by
        rw [hw.out, World.cell?_setCell_other _ _ _ _ (by intro h; injection h with _ h2; omega)]; exact (M.out.2.2 j b).1
      have h2 : Below w.heap.size w wr := by rw [hw.out]; exact (below_drewN M.out.1 q).setCell (p := ⟨w.heap.size, 0, none⟩) (Nat.le_refl _) _
      have h3 : w.heap.size < wr.heap.size := by rw [hw.out]; simpa using M.out.2.1
      have H := Lib.hid (⟨h0, h1, h2, h3⟩ : _ ∧ _ ∧ _ ∧ _)
      clear h0 h1 h2 h3 hw
      go_wp2_with fail
      refine (rtrims_c w.heap.size 3 p 3 wr (Nat.le_refl _) (by omega) (by omega) (by omega) HP9.out H.out.2.2.2 H.out.1 H.out.2.1).mono ?_
      rintro e w2 ⟨a, k, c, rfl, l, b⟩
      have L := Lib.hid l
      have B := Lib.hid (H.out.2.2.1.trans (b.mono H.out.2.2.1.size))
      clear l b
      go_wp2
      go_ret
      exact ⟨a, k, c, rfl, L.out, B.out⟩
theorem rtimes_c (a1 a2 : Option Addr) (c1 c2 k1 k2 n1 n2 : Nat) (w : World) (h1 : Sm w a1 k1 n1) (h2 : Sm w a2 k2 n2) (hp : n1 * n2 < 1000000000) :
    Calls Tryz.prog 30 #[.slice a1 k1 c1, .slice a2 k2 c2] w (SmPost (n1 * n2) w) := by
  rcases h1 with ⟨rfl, rfl⟩ | ⟨rfl, p1, m1, b1, o1, rfl, l1, g1⟩
  · rw [Nat.zero_mul]
    rcases h2 with ⟨rfl, rfl⟩ | ⟨rfl, _⟩
    · exact rtimes_nil0 _ _ _ _ _
    · exact rtimes_nil1 _ _ _ _ _
  · rcases h2 with ⟨rfl, rfl⟩ | ⟨rfl, p2, m2, b2, o2, rfl, l2, g2⟩
    · exact rtimes_none _ _ _ _ _ _ _ g1
    · exact rtimes_one _ _ _ _ _ _ _ _ _ _ rfl hp l1 l2 g1 g2
end Go.Proofs.YtfldlcnlijljcaaGreatDoor
namespace Go.Proofs.YtfldlcnlijljcaaGreatDoor
open Go.RowKit

/-- An owned row that is not empty, with the bounds of its room. -/
theorem own_open2 {w : World} {B n : Nat} {e : TypeId} {v : Value} {xs : List Value} (h : w.ownsRow B e 1 v n xs) (hn : 0 < n) :
    ∃ g cap, v = .slice (some ⟨g, 0, none⟩) n cap ∧ B ≤ g ∧ g < w.heap.size ∧ (∀ j u, xs[j]? = some u → w.cell? ⟨g, j, none⟩ = some u) ∧ n ≤ cap ∧ cap ≤ 9223372036854775807 := by
  obtain ⟨g, cap, rfl, h1, h2, h3⟩ := own_open h hn
  refine ⟨g, cap, rfl, h1, h2, h3, ?_⟩
  obtain ⟨_, h | ⟨g', cap', cur, e, hb, hg, hnc, hm, hs, ht⟩⟩ := h
  · obtain ⟨e, _⟩ := h
    injection e
    omega
  · injection e with e1 e2 e3
    subst e3
    unfold maxLen at hm
    omega
theorem rplus_nil (a1 a2 : Option Addr) (c1 c2 : Nat) (w : World) :
    Calls Tryz.prog 31 #[.slice a1 0 c1, .slice a2 0 c2] w (SmPost 0 w) := by
  go_enter Tryz.func31, Tryz.ntmps31
  go_wp2_with fail
  go_loop [5, 6, 7] (fun v c i => v = .slice none 0 0 ∧ c = .int .i64 0 ∧ i = .int .i64 0) (fun _ _ _ => 0)
  case atStart => exact ⟨rfl, rfl, rfl⟩
  case round =>
    obtain ⟨rfl, rfl, rfl⟩ := hrel
    go_wp2_with fail
    refine (rtrim_zero _ _ _).mono ?_
    rintro e w2 ⟨a, k, c, rfl, l, b⟩
    have L := Lib.hid l
    have B := Lib.hid b
    clear l b
    go_wp2
    go_ret
    exact ⟨a, k, c, rfl, L.out, B.out⟩
set_option maxRecDepth 100000 in
set_option maxHeartbeats 1000000 in
theorem rplus_both (b1 o1 : Nat) (b2 o2 : Nat) (c1 c2 : Nat) (n1 n2 p : Nat) (w : World) (hp : n1 + n2 = p) (h0 : 0 < p) (hp9 : p < 1000000000) (g1 : w.cell? ⟨b1, o1, none⟩ = some (.int .i64 n1)) (g2 : w.cell? ⟨b2, o2, none⟩ = some (.int .i64 n2)) :
    Calls Tryz.prog 31 #[.slice (some ⟨b1, o1, none⟩) 1 c1, .slice (some ⟨b2, o2, none⟩) 1 c2] w (SmPost p w) := by
  obtain ⟨i0, hi, hz0, hz1, hz2⟩ := info_parts infoI
  have hm : (n1 : Int) + (n2 : Int) = (p : Int) := by rw [← hp]; rfl
  have hq : (p : Int).tdiv 1000000000 = 0 := by rw [Int.tdiv_eq_ediv_of_nonneg (by omega)]; omega
  have hr : (p : Int).tmod 1000000000 = p := by rw [Int.tmod_eq_emod_of_nonneg (by omega)]; omega
  have HP9 := Lib.hid hp9
  have HP0 := Lib.hid h0
  have hpi : (p : Int) < 1000000000 := by omega
  clear hp hp9 h0
  go_enter Tryz.func31, Tryz.ntmps31
  go_wp2_with fail
  go_loopw [5, 6, 7] (fun v c i wr => c = .int .i64 0 ∧ ((i = .int .i64 0 ∧ v = .slice none 0 0 ∧ Hid (wr = w)) ∨ (i = .int .i64 1 ∧ ∃ g cap, v = .slice (some ⟨g, 0, none⟩) 1 cap ∧ 1 ≤ cap ∧ cap ≤ 9223372036854775807 ∧ Hid (g < wr.heap.size ∧ wr.cell? ⟨g, 0, none⟩ = some (.int .i64 p) ∧ Below w.heap.size w wr)))) (fun _ _ i _ => 1 - (intOf i).toNat)
  case atStart => exact ⟨rfl, .inl ⟨rfl, rfl, rfl⟩⟩
  case round =>
    obtain ⟨rfl, ⟨rfl, rfl, hw⟩ | ⟨rfl, g, cap, rfl, hc1, hc9, hS⟩⟩ := hrel
    · obtain rfl := hw.out
      go_wp2_with (at_builtin; refine wpList_append_own _ rfl _ _ 43 rfl wr.heap.size 3 i0 (.int .i64 0) 1 8 Tryz.underlying43 hi hz0 hz1 hz2 rfl (by decide) _ _ _ rfl (World.ownsRow_nil _ _ _ _) ⟨wr.heap.size, 0, none⟩ 1 1 [.int .i64 p] rfl rfl ?c1 ?c2 ?c3 ?c4 ?c5 ?_)
      case c2 => first | (intro u hu; simp at hu; subst hu; rfl) | rfl | trivial
      case c3 => first | (unfold maxLen; omega) | decide
      intro v' w1 hown' hgrow _
      obtain ⟨g, cap, rfl, hgB, hgs, hcell, hc1, hc9⟩ := own_open2 hown' (by omega)
      have hS : Hid (g < w1.heap.size ∧ w1.cell? ⟨g, 0, none⟩ = some (.int .i64 p) ∧ Below wr.heap.size wr w1) := by
        refine ⟨hgs, hcell 0 _ rfl, ?_⟩
        exact ((Below.refl _ _).alloc (Nat.le_refl _) (.cells #[.int .i64 p] 3)).grown hgrow (by simp) (fun b hb => by simp [Value.ownBlock] at hb)
      clear hown' hgrow hcell hgB hgs
      go_wp2
      go_roundw
      case rel => exact ⟨rfl, .inr ⟨rfl, _, _, rfl, hc1, hc9, hS⟩⟩
      case measure => simp [intOf]
    · go_wp2_with fail
      refine (rtrim_c g 0 cap p wr hc1 hc9 HP9.out hS.out.1 hS.out.2.1).mono ?_
      rintro e w2 ⟨a, k, c, rfl, l, b⟩
      have L := Lib.hid l
      have B := Lib.hid (hS.out.2.2.trans (b.mono hS.out.2.2.size))
      clear l b
      go_wp2
      go_ret
      exact ⟨a, k, c, rfl, L.out, B.out⟩
set_option maxRecDepth 100000 in
set_option maxHeartbeats 1000000 in
theorem rplus_left (b1 o1 : Nat) (a2 : Option Addr) (c1 c2 : Nat) (p : Nat) (w : World) (h0 : 0 < p) (hp9 : p < 1000000000) (g1 : w.cell? ⟨b1, o1, none⟩ = some (.int .i64 p)) :
    Calls Tryz.prog 31 #[.slice (some ⟨b1, o1, none⟩) 1 c1, .slice a2 0 c2] w (SmPost p w) := by
  obtain ⟨i0, hi, hz0, hz1, hz2⟩ := info_parts infoI
  have hx : max (1 : Int) (0 : Int) = 1 := by decide
  have hq : (p : Int).tdiv 1000000000 = 0 := by rw [Int.tdiv_eq_ediv_of_nonneg (by omega)]; omega
  have hr : (p : Int).tmod 1000000000 = p := by rw [Int.tmod_eq_emod_of_nonneg (by omega)]; omega
  have HP9 := Lib.hid hp9
  have HP0 := Lib.hid h0
  have hpi : (p : Int) < 1000000000 := by omega
  clear hp9 h0
  go_enter Tryz.func31, Tryz.ntmps31
  go_wp2_with fail
  go_loopw [5, 6, 7] (fun v c i wr => c = .int .i64 0 ∧ ((i = .int .i64 0 ∧ v = .slice none 0 0 ∧ Hid (wr = w)) ∨ (i = .int .i64 1 ∧ ∃ g cap, v = .slice (some ⟨g, 0, none⟩) 1 cap ∧ 1 ≤ cap ∧ cap ≤ 9223372036854775807 ∧ Hid (g < wr.heap.size ∧ wr.cell? ⟨g, 0, none⟩ = some (.int .i64 p) ∧ Below w.heap.size w wr)))) (fun _ _ i _ => 1 - (intOf i).toNat)
  case atStart => exact ⟨rfl, .inl ⟨rfl, rfl, rfl⟩⟩
  case round =>
    obtain ⟨rfl, ⟨rfl, rfl, hw⟩ | ⟨rfl, g, cap, rfl, hc1, hc9, hS⟩⟩ := hrel
    · obtain rfl := hw.out
      go_wp2_with (at_builtin; refine wpList_append_own _ rfl _ _ 43 rfl wr.heap.size 3 i0 (.int .i64 0) 1 8 Tryz.underlying43 hi hz0 hz1 hz2 rfl (by decide) _ _ _ rfl (World.ownsRow_nil _ _ _ _) ⟨wr.heap.size, 0, none⟩ 1 1 [.int .i64 p] rfl rfl ?c1 ?c2 ?c3 ?c4 ?c5 ?_)
      case c2 => first | (intro u hu; simp at hu; subst hu; rfl) | rfl | trivial
      case c3 => first | (unfold maxLen; omega) | decide
      intro v' w1 hown' hgrow _
      obtain ⟨g, cap, rfl, hgB, hgs, hcell, hc1, hc9⟩ := own_open2 hown' (by omega)
      have hS : Hid (g < w1.heap.size ∧ w1.cell? ⟨g, 0, none⟩ = some (.int .i64 p) ∧ Below wr.heap.size wr w1) := by
        refine ⟨hgs, hcell 0 _ rfl, ?_⟩
        exact ((Below.refl _ _).alloc (Nat.le_refl _) (.cells #[.int .i64 p] 3)).grown hgrow (by simp) (fun b hb => by simp [Value.ownBlock] at hb)
      clear hown' hgrow hcell hgB hgs
      go_wp2
      go_roundw
      case rel => exact ⟨rfl, .inr ⟨rfl, _, _, rfl, hc1, hc9, hS⟩⟩
      case measure => simp [intOf]
    · go_wp2_with fail
      refine (rtrim_c g 0 cap p wr hc1 hc9 HP9.out hS.out.1 hS.out.2.1).mono ?_
      rintro e w2 ⟨a, k, c, rfl, l, b⟩
      have L := Lib.hid l
      have B := Lib.hid (hS.out.2.2.trans (b.mono hS.out.2.2.size))
      clear l b
      go_wp2
      go_ret
      exact ⟨a, k, c, rfl, L.out, B.out⟩
set_option maxRecDepth 100000 in
set_option maxHeartbeats 1000000 in
theorem rplus_right (a1 : Option Addr) (b2 o2 : Nat) (c1 c2 : Nat) (p : Nat) (w : World) (h0 : 0 < p) (hp9 : p < 1000000000) (g2 : w.cell? ⟨b2, o2, none⟩ = some (.int .i64 p)) :
    Calls Tryz.prog 31 #[.slice a1 0 c1, .slice (some ⟨b2, o2, none⟩) 1 c2] w (SmPost p w) := by
  obtain ⟨i0, hi, hz0, hz1, hz2⟩ := info_parts infoI
  have hx : max (0 : Int) (1 : Int) = 1 := by decide
  have hq : (p : Int).tdiv 1000000000 = 0 := by rw [Int.tdiv_eq_ediv_of_nonneg (by omega)]; omega
  have hr : (p : Int).tmod 1000000000 = p := by rw [Int.tmod_eq_emod_of_nonneg (by omega)]; omega
  have HP9 := Lib.hid hp9
  have HP0 := Lib.hid h0
  have hpi : (p : Int) < 1000000000 := by omega
  clear hp9 h0
  go_enter Tryz.func31, Tryz.ntmps31
  go_wp2_with fail
  go_loopw [5, 6, 7] (fun v c i wr => c = .int .i64 0 ∧ ((i = .int .i64 0 ∧ v = .slice none 0 0 ∧ Hid (wr = w)) ∨ (i = .int .i64 1 ∧ ∃ g cap, v = .slice (some ⟨g, 0, none⟩) 1 cap ∧ 1 ≤ cap ∧ cap ≤ 9223372036854775807 ∧ Hid (g < wr.heap.size ∧ wr.cell? ⟨g, 0, none⟩ = some (.int .i64 p) ∧ Below w.heap.size w wr)))) (fun _ _ i _ => 1 - (intOf i).toNat)
  case atStart => exact ⟨rfl, .inl ⟨rfl, rfl, rfl⟩⟩
  case round =>
    obtain ⟨rfl, ⟨rfl, rfl, hw⟩ | ⟨rfl, g, cap, rfl, hc1, hc9, hS⟩⟩ := hrel
    · obtain rfl := hw.out
      go_wp2_with (at_builtin; refine wpList_append_own _ rfl _ _ 43 rfl wr.heap.size 3 i0 (.int .i64 0) 1 8 Tryz.underlying43 hi hz0 hz1 hz2 rfl (by decide) _ _ _ rfl (World.ownsRow_nil _ _ _ _) ⟨wr.heap.size, 0, none⟩ 1 1 [.int .i64 p] rfl rfl ?c1 ?c2 ?c3 ?c4 ?c5 ?_)
      case c2 => first | (intro u hu; simp at hu; subst hu; rfl) | rfl | trivial
      case c3 => first | (unfold maxLen; omega) | decide
      intro v' w1 hown' hgrow _
      obtain ⟨g, cap, rfl, hgB, hgs, hcell, hc1, hc9⟩ := own_open2 hown' (by omega)
      have hS : Hid (g < w1.heap.size ∧ w1.cell? ⟨g, 0, none⟩ = some (.int .i64 p) ∧ Below wr.heap.size wr w1) := by
        refine ⟨hgs, hcell 0 _ rfl, ?_⟩
        exact ((Below.refl _ _).alloc (Nat.le_refl _) (.cells #[.int .i64 p] 3)).grown hgrow (by simp) (fun b hb => by simp [Value.ownBlock] at hb)
      clear hown' hgrow hcell hgB hgs
      go_wp2
      go_roundw
      case rel => exact ⟨rfl, .inr ⟨rfl, _, _, rfl, hc1, hc9, hS⟩⟩
      case measure => simp [intOf]
    · go_wp2_with fail
      refine (rtrim_c g 0 cap p wr hc1 hc9 HP9.out hS.out.1 hS.out.2.1).mono ?_
      rintro e w2 ⟨a, k, c, rfl, l, b⟩
      have L := Lib.hid l
      have B := Lib.hid (hS.out.2.2.trans (b.mono hS.out.2.2.size))
      clear l b
      go_wp2
      go_ret
      exact ⟨a, k, c, rfl, L.out, B.out⟩
theorem rplus_c (a1 a2 : Option Addr) (c1 c2 k1 k2 n1 n2 : Nat) (w : World) (h1 : Sm w a1 k1 n1) (h2 : Sm w a2 k2 n2) (hp : n1 + n2 < 1000000000) :
    Calls Tryz.prog 31 #[.slice a1 k1 c1, .slice a2 k2 c2] w (SmPost (n1 + n2) w) := by
  rcases h1 with ⟨rfl, rfl⟩ | ⟨rfl, p1, m1, b1, o1, rfl, l1, g1⟩
  · rw [Nat.zero_add] at hp ⊢
    rcases h2 with ⟨rfl, rfl⟩ | ⟨rfl, p2, m2, b2, o2, rfl, l2, g2⟩
    · exact rplus_nil _ _ _ _ _
    · exact rplus_right _ _ _ _ _ _ _ p2 hp g2
  · rcases h2 with ⟨rfl, rfl⟩ | ⟨rfl, p2, m2, b2, o2, rfl, l2, g2⟩
    · exact rplus_left _ _ _ _ _ _ _ p1 m1 g1
    · exact rplus_both _ _ _ _ _ _ _ _ _ _ rfl (by omega) hp g1 g2
end Go.Proofs.YtfldlcnlijljcaaGreatDoor
namespace Go.Proofs.YtfldlcnlijljcaaGreatDoor
open Go.RowKit

def PqDvPost (q r : Nat) (w : World) (e : Ending) (w' : World) : Prop := ∃ a k c b m c2, e = .returned (.tuple #[.slice a k c, .slice b m c2]) ∧ Sm w' a k q ∧ Sm w' b m r ∧ Below w.heap.size w w'
set_option maxHeartbeats 1000000 in
theorem rdivide_c (a1 a2 : Option Addr) (c1 c2 k1 k2 n d : Nat) (w : World) (h1 : Sm w a1 k1 n) (h2 : Sm w a2 k2 d) (hd : 0 < d) :
    Calls Tryz.prog 41 #[.slice a1 k1 c1, .slice a2 k2 c2] w (PqDvPost (n / d) (n % d) w) := by
  have HO := Lib.hid (fun W (x : Sm W a1 k1 n) (y : Sm W a2 k2 d) => rorder_c a1 a2 c1 c2 k1 k2 n d W x y)
  have H1 := Lib.hid h1
  have H2 := Lib.hid h2
  by_cases hlt : n < d
  · have es : sgn n d = -1 := by unfold sgn; rw [if_pos hlt]
    rw [es] at HO
    have e1 : Hid (n / d = 0) := Nat.div_eq_of_lt hlt
    have e2 : Hid (n % d = n) := Nat.mod_eq_of_lt hlt
    clear h1 h2 hd hlt es
    go_enter Tryz.func41, Tryz.ntmps41
    go_wp2_with fail
    refine (HO.out _ H1.out H2.out).mono ?_
    rintro e w1 ⟨rfl, q, rfl⟩
    have HL := Lib.hid (H1.out.below (below_drew w q))
    have HB := Lib.hid (below_drew w q)
    rw [e1.out, e2.out]
    generalize w.drewN q = w2 at *
    go_wp2
    go_ret2
    exact ⟨none, 0, 0, a1, k1, c1, rfl, by first | exact Sm.zero _ _ | (rw [e1.out]; exact Sm.zero _ _), by first | exact HL.out | (rw [e2.out]; exact HL.out), HB.out⟩
  · have es : decide (sgn n d < 0) = false := by rw [sgn_ltd]; simp; omega
    obtain ⟨rfl, hd9, b2, o2, rfl, hb2, g2⟩ := h2.pos hd
    have HS := Lib.hid (fun W (x : Sm W a1 k1 n) => rshort_c a1 k1 c1 n d W x hd)
    have HSM := Lib.hid (fun W => small_c (n % d) W (Nat.lt_trans (Nat.mod_lt n hd) hd9))
    have HG := Lib.hid g2
    clear h1 h2 hd hlt hb2 hd9 g2
    generalize n % d = r at *
    generalize sgn n d = s at *
    go_enter Tryz.func41, Tryz.ntmps41
    go_wp2_with fail
    refine (HO.out _ H1.out H2.out).mono ?_
    rintro e w1 ⟨rfl, q, rfl⟩
    have HL := Lib.hid (H1.out.below (below_drew w q))
    have HB := Lib.hid (below_drew w q)
    have hg : (w.drewN q).cell? ⟨b2, o2, none⟩ = some (.int .i64 d) := HG.out
    generalize w.drewN q = w2 at *
    go_wp2_with fail
    clear hg
    refine (HS.out _ HL.out).mono ?_
    rintro e w3 ⟨a3, k3, c3, rfl, l3, b3⟩
    have L3 := Lib.hid l3
    have B3 := Lib.hid (HB.out.trans (b3.mono HB.out.size))
    clear l3 b3
    go_wp2_with fail
    refine (HSM.out _).mono ?_
    rintro e w4 ⟨a4, k4, c4, rfl, l4, b4⟩
    have L34 := Lib.hid (L3.out.below b4)
    have L4 := Lib.hid l4
    have B4 := Lib.hid (B3.out.trans (b4.mono B3.out.size))
    clear l4 b4
    go_wp2
    go_ret2
    exact ⟨a3, k3, c3, a4, k4, c4, rfl, L34.out, L4.out, B4.out⟩
/-- What a row of digits reads as. -/
def rdN (w : World) : Value → Nat
  | .slice (some p) 1 _ => match w.cell? p with | some (.int _ n) => n.toNat | _ => 0
  | _ => 0
theorem Sm.rdN {w : World} {a : Option Addr} {k n c : Nat} (h : Sm w a k n) : rdN w (.slice a k c) = n := by
  rcases h with ⟨rfl, rfl⟩ | ⟨rfl, _, _, b, off, rfl, _, hc⟩
  · simp [Go.Proofs.YtfldlcnlijljcaaGreatDoor.rdN]
  · simp [Go.Proofs.YtfldlcnlijljcaaGreatDoor.rdN, hc]
set_option maxHeartbeats 1000000 in
theorem divisor_c (a1 a2 : Option Addr) (c1 c2 k1 k2 n m : Nat) (w : World) (h1 : Sm w a1 k1 n) (h2 : Sm w a2 k2 m) :
    Calls Tryz.prog 40 #[.slice a1 k1 c1, .slice a2 k2 c2] w (SmPost (Nat.gcd n m) w) := by
  have H1 := Lib.hid h1
  have H2 := Lib.hid h2
  clear h1 h2
  go_enter Tryz.func40, Tryz.ntmps40
  go_wp2
  go_loopw [0, 1] (fun u v wr => ∃ a k c x b k2 c2 y, u = .slice a k c ∧ v = .slice b k2 c2 ∧ Hid (Sm wr a k x ∧ Sm wr b k2 y ∧ Nat.gcd x y = Nat.gcd n m ∧ Below w.heap.size w wr)) (fun _ v wr => rdN wr v)
  case atStart => exact ⟨_, _, _, n, _, _, _, m, rfl, rfl, H1.out, H2.out, rfl, Below.refl _ _⟩
  case round =>
    obtain ⟨a, k, c, x, b, k2, c2, y, rfl, rfl, hS⟩ := hrel
    rcases Nat.eq_zero_or_pos y with hy | hy
    · subst hy
      obtain rfl := hS.out.2.1.nul
      go_wp2
      go_ret
      exact ⟨a, k, c, rfl, by have h := hS.out.2.2.1; rw [Nat.gcd_zero_right] at h; rw [← h]; exact hS.out.1, hS.out.2.2.2⟩
    · have hk : k2 = 1 := (hS.out.2.1.pos hy).1
      subst hk
      have HY := Lib.hid hy
      clear hy
      go_wp2_with fail
      refine (rdivide_c a b c c2 k 1 x y wr hS.out.1 hS.out.2.1 HY.out).mono ?_
      rintro e w3 ⟨a3, k3, c3, a4, k4, c4, rfl, l3, l4, b3⟩
      have HF : Hid (Sm w3 b 1 y ∧ Sm w3 a4 k4 (x % y) ∧ Nat.gcd y (x % y) = Nat.gcd n m ∧ Below w.heap.size w w3) :=
        ⟨hS.out.2.1.below b3, l4, by rw [← hS.out.2.2.1, Nat.gcd_comm x y, Nat.gcd_rec y x, Nat.gcd_comm], hS.out.2.2.2.trans (b3.mono hS.out.2.2.2.size)⟩
      have HM : Hid (rdN w3 (.slice a4 k4 c4) < rdN wr (.slice b 1 c2)) := by
        unfold Hid
        rw [l4.rdN, hS.out.2.1.rdN]
        exact Nat.mod_lt x HY.out
      clear l3 l4 b3
      go_wp2
      exact ⟨⟨_, _, _, y, _, _, _, x % y, rfl, rfl, HF⟩, HM.out⟩
end Go.Proofs.YtfldlcnlijljcaaGreatDoor
namespace Go.Proofs.YtfldlcnlijljcaaGreatDoor
open Go.RowKit

theorem gPow : Tryz.prog.globalNamed "internal/strconv.uint64pow10" = some 2 := by kernel_rfl
def Pow (w : World) : Prop := Lib.TabIs Tryz.prog w "internal/strconv.uint64pow10" .u64 Lib.pow10Tab
theorem Pow.below {w w' : World} (h : Pow w) (hb : Below w.heap.size w w') : Pow w' := Go.Joins.tab_stays gPow h hb (Nat.le_refl _)
theorem itoa_c (n : Nat) (w : World) (hE : Pow w) (hn : n ≤ 9223372036854775807) :
    Calls Tryz.prog 43 #[.int .i64 n] w fun e w' => e = .returned (.string (decB n)) ∧ Below w.heap.size w w' :=
  (Tryz.strconv_Itoa n (by omega) (by omega) w hE).mono fun _ _ ⟨he, k, os, hw⟩ => ⟨by rw [he, Lib.itoa_nonneg]; rfl, by rw [hw]; exact Go.Lib.below_grow _ _ (Nat.le_refl _) k os⟩
theorem strCells_dec (n : Nat) : Lib.strCells (decB n) = Lib.byteCells (Lib.decDigits n) := by simp [Lib.strCells, Lib.byteCells, decB]
theorem rtext_zero (a : Option Addr) (c : Nat) (w : World) : Calls Tryz.prog 29 #[.slice a 0 c] w (TextPost 0 w) := by
  go_enter Tryz.func29, Tryz.ntmps29
  go_wp2
  go_ret
  exact ⟨by rw [Lib.decDigits_one (by decide)]; rfl, Below.refl _ _⟩
set_option maxHeartbeats 1000000 in
theorem rtext_c (a : Option Addr) (k c n : Nat) (w : World) (h : Sm w a k n) (hE : Pow w) : Calls Tryz.prog 29 #[.slice a k c] w (TextPost n w) := by
  rcases h with ⟨rfl, rfl⟩ | ⟨rfl, p1, m1, b1, o1, rfl, hb, g1⟩
  · exact rtext_zero a c w
  · have HM := Lib.hid m1
    have HP := Lib.hid p1
    obtain ⟨W1, hW1⟩ : ∃ W1, w.alloc (.cells #[.pointer none, .slice none 0 0] 74) = W1 := ⟨_, rfl⟩
    have hF : Hid (Fresh W1 w.heap.size) := by unfold Hid Fresh; rw [← hW1]; (show (w.heap.push _)[w.heap.size]? = _); simp
    have hB : Hid (Below w.heap.size w W1) := by rw [← hW1]; exact (Below.refl _ _).alloc (Nat.le_refl _) _
    have hS : Hid (W1.heap.size = w.heap.size + 1) := by unfold Hid; rw [← hW1]; simp
    have g2 : W1.cell? ⟨b1, o1, none⟩ = some (.int .i64 n) := by rw [hB.out.cell (p := ⟨b1, o1, none⟩) hb]; exact g1
    have HE := Lib.hid (hE.below hB.out)
    clear p1 m1 g1 hb hE
    go_enter Tryz.func29, Tryz.ntmps29
    go_wp2_with fail
    refine (itoa_c n W1 HE.out (Nat.le_of_lt (Nat.lt_trans HM.out (by decide)))).mono ?_
    rintro e w2 ⟨rfl, b2⟩
    have hF2 : Hid (Fresh w2 w.heap.size) := by
      have s := hS.out
      unfold Hid Fresh
      rw [b2.block w.heap.size (by omega)]
      exact hF.out
    have B2 := Lib.hid (hB.out.trans (b2.mono hB.out.size))
    have S2 : Hid (w.heap.size < w2.heap.size) := by have s := hS.out; have := b2.size; unfold Hid; omega
    clear b2 hW1 g2
    go_wp2_with fail
    refine (write_c w.heap.size w.heap.size (decB n) w2 hF2.out (Nat.le_refl _) (Nat.le_trans (decB_size n (Nat.le_of_lt (Nat.lt_trans HM.out (by decide)))) (by decide))).mono ?_
    rintro e w3 ⟨rfl, h3, b3⟩
    rw [strCells_dec] at h3
    have H3 := Lib.hid h3
    have B3 := Lib.hid (B2.out.trans b3)
    have S3 : Hid (w.heap.size ≤ w3.heap.size) := by have := b3.size; have := S2.out; unfold Hid; omega
    clear h3 b3
    go_wp2_with fail
    go_loop [4] (fun i => i = .int .i64 (-1)) (fun _ => 0)
    case atStart => rfl
    case round =>
      obtain rfl := hrel
      go_wp2_with fail
      refine (Tryz.Builder_String w.heap.size w.heap.size (Lib.decDigits n) w3 H3.out (decDigits_ne n)).mono ?_
      rintro e w4 ⟨rfl, b4⟩
      have B4 := Lib.hid (B3.out.trans b4)
      clear b4
      go_wp2
      go_ret
      exact ⟨rfl, B4.out⟩
end Go.Proofs.YtfldlcnlijljcaaGreatDoor
