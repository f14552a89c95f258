/-
  Numbers of one digit to the base 10^9 in the reference: times, plus.
-/
import Derived.Test.YtecbkfmdpgkdiaaGreatDoorRatRDiv
namespace Go.Proofs.YtecbkfmdpgkdiaaGreatDoor
open Go.RowKit

/-- A row whose places behind the first one are 0, before its zeros go. -/
theorem rtrims_c (b c n k : Nat) (w : World) (hkc : k ≤ c) (h1 : 1 ≤ k) (hk9 : k ≤ 3) (hc9 : c ≤ 9223372036854775807) (hn : n < 1000000000) (hb : b < w.heap.size) (hc : w.cell? ⟨b, 0, none⟩ = some (.int .i64 n)) (hz : ∀ j, 1 ≤ j → j < k → w.cell? ⟨b, j, none⟩ = some (.int .i64 0)) :
    Calls Tryz.prog 46 #[.slice (some ⟨b, 0, none⟩) k c] w (SmPost n w) := by
  have HB := Lib.hid hb
  have HN := Lib.hid hn
  have HC := Lib.hid hc
  have HZ := Lib.hid hz
  clear hb hn hc hz
  go_enter Tryz.func46, Tryz.ntmps46
  go_wp2
  go_loop [3] (fun i => ∃ m : Nat, m ≤ k ∧ (0 < n → 1 ≤ m) ∧ i = .int .i64 m) (fun i => (intOf i).toNat)
  case atStart => exact ⟨k, Nat.le_refl _, fun _ => h1, rfl⟩
  case round =>
    obtain ⟨m, hm, hp, rfl⟩ := hrel
    rcases Nat.eq_zero_or_pos m with h | h
    · subst h
      have h0 : n = 0 := by omega
      clear hp
      have HN0 := Lib.hid h0
      clear h0
      go_wp2
      go_ret
      exact ⟨_, 0, c, rfl, by rw [HN0.out]; exact Sm.zero _ _, Below.refl _ _⟩
    · obtain ⟨q, rfl⟩ : ∃ q, m = q + 1 := ⟨m - 1, by omega⟩
      have e1 : ((q + 1 : Nat) : Int) - 1 = (q : Int) := by omega
      by_cases hq : q = 0
      · subst hq
        by_cases h0 : n = 0
        · subst h0
          have g := HC.out
          clear hp
          go_wp2
          go_round
          case rel => exact ⟨0, by omega, fun h => by omega, rfl⟩
          case measure => simp [intOf]
        · have g := HC.out
          have d : ((n : Int) == 0) = false := by rw [beq_eq_false_iff_ne]; omega
          have d' : (n == 0) = false := by rw [beq_eq_false_iff_ne]; omega
          have HP := Lib.hid (Nat.pos_of_ne_zero h0)
          clear hp h0
          go_wp2
          go_ret
          exact ⟨_, 1, c, rfl, .inr ⟨rfl, HP.out, HN.out, b, 0, rfl, HB.out, HC.out⟩, Below.refl _ _⟩
      · have g := HZ.out q (by omega) (by omega)
        have HQ := Lib.hid hp
        clear hp
        go_wp2
        go_round
        case rel => exact ⟨q, by omega, fun _ => by omega, by go_num⟩
        case measure => simp [intOf]; try omega
theorem mk_row (k : Nat) (hk : k ≤ 3) (w : World) : (Instr.makeSlice 43 (.int .i64 k) (.int .i64 k)).run Tryz.prog w = .ok (.slice (some ⟨w.heap.size, 0, none⟩) k k) (w.alloc (.cells (madeCells #[.int .i64 0] k) 3)) := by
  have hmk := run_make_row' (P := Tryz.prog) 43 3 (.int .i64 0) 8 Tryz.underlying43 infoI rfl .i64 .i64 k (by omega) (by omega)
  simpa using hmk w
/-- A fresh row of zeros. -/
theorem made_row (k : Nat) (w : World) : Below w.heap.size w (w.alloc (.cells (madeCells #[.int .i64 0] k) 3)) ∧ w.heap.size < (w.alloc (.cells (madeCells #[.int .i64 0] k) 3)).heap.size ∧
    ∀ j, j < k → (w.alloc (.cells (madeCells #[.int .i64 0] k) 3)).cell? ⟨w.heap.size, j, none⟩ = some (.int .i64 0) ∧ (w.alloc (.cells (madeCells #[.int .i64 0] k) 3)).frozen? ⟨w.heap.size, j, none⟩ = false := by
  refine ⟨(Below.refl _ _).alloc (Nat.le_refl _) _, by simp, fun j hj => ⟨?_, by simp⟩⟩
  rw [World.cell?_alloc_new, ← Array.getElem?_toList, toList_madeCells_one]
  simp [hj]
theorem rtimes_nil0 (a1 a2 : Option Addr) (c1 c2 : Nat) (w : World) :
    Calls Tryz.prog 30 #[.slice a1 0 c1, .slice a2 0 c2] w (SmPost 0 w) := by
  have hmk : ∀ w : World, (Instr.makeSlice 43 (.int .i64 1) (.int .i64 1)).run Tryz.prog w = .ok (.slice (some ⟨w.heap.size, 0, none⟩) 1 1) (w.alloc (.cells (madeCells #[.int .i64 0] 1) 3)) := fun w => mk_row 1 (by omega) w
  go_enter Tryz.func30, Tryz.ntmps30
  go_wp2_with fail
  have M := Lib.hid (made_row 1 w)
  generalize w.alloc (.cells (madeCells #[.int .i64 0] 1) 3) = w1 at M
  clear hmk
  go_loop [19] (fun i => i = .int .i64 0) (fun _ => 0)
  case atStart => rfl
  case round =>
    obtain rfl := hrel
    go_wp2_with fail
    refine (rtrims_c w.heap.size 1 0 1 w1 (Nat.le_refl _) (by omega) (by omega) (by omega) (by omega) M.out.2.1 (M.out.2.2 0 (by omega)).1 (fun j _ h => (M.out.2.2 j h).1)).mono ?_
    rintro e w2 ⟨a, k, c, rfl, l, b⟩
    have L := Lib.hid l
    have B := Lib.hid (M.out.1.trans (b.mono M.out.1.size))
    clear l b
    go_wp2
    go_ret
    exact ⟨a, k, c, rfl, L.out, B.out⟩
theorem rtimes_nil1 (a1 a2 : Option Addr) (c1 c2 : Nat) (w : World) :
    Calls Tryz.prog 30 #[.slice a1 0 c1, .slice a2 1 c2] w (SmPost 0 w) := by
  have hmk : ∀ w : World, (Instr.makeSlice 43 (.int .i64 2) (.int .i64 2)).run Tryz.prog w = .ok (.slice (some ⟨w.heap.size, 0, none⟩) 2 2) (w.alloc (.cells (madeCells #[.int .i64 0] 2) 3)) := fun w => mk_row 2 (by omega) w
  go_enter Tryz.func30, Tryz.ntmps30
  go_wp2_with fail
  have M := Lib.hid (made_row 2 w)
  generalize w.alloc (.cells (madeCells #[.int .i64 0] 2) 3) = w1 at M
  clear hmk
  go_loop [19] (fun i => i = .int .i64 0) (fun _ => 0)
  case atStart => rfl
  case round =>
    obtain rfl := hrel
    go_wp2_with fail
    refine (rtrims_c w.heap.size 2 0 2 w1 (Nat.le_refl _) (by omega) (by omega) (by omega) (by omega) M.out.2.1 (M.out.2.2 0 (by omega)).1 (fun j _ h => (M.out.2.2 j h).1)).mono ?_
    rintro e w2 ⟨a, k, c, rfl, l, b⟩
    have L := Lib.hid l
    have B := Lib.hid (M.out.1.trans (b.mono M.out.1.size))
    clear l b
    go_wp2
    go_ret
    exact ⟨a, k, c, rfl, L.out, B.out⟩
theorem rtimes_none (a2 : Option Addr) (b1 o1 c1 c2 n1 : Nat) (w : World) (g1 : w.cell? ⟨b1, o1, none⟩ = some (.int .i64 n1)) :
    Calls Tryz.prog 30 #[.slice (some ⟨b1, o1, none⟩) 1 c1, .slice a2 0 c2] w (SmPost 0 w) := by
  have hmk : ∀ w : World, (Instr.makeSlice 43 (.int .i64 2) (.int .i64 2)).run Tryz.prog w = .ok (.slice (some ⟨w.heap.size, 0, none⟩) 2 2) (w.alloc (.cells (madeCells #[.int .i64 0] 2) 3)) := fun w => mk_row 2 (by omega) w
  clear g1
  go_enter Tryz.func30, Tryz.ntmps30
  go_wp2_with fail
  have M := Lib.hid (made_row 2 w)
  generalize w.alloc (.cells (madeCells #[.int .i64 0] 2) 3) = w1 at M
  clear hmk
  go_loop [19] (fun i => i = .int .i64 0 ∨ i = .int .i64 1) (fun i => 1 - (intOf i).toNat)
  case atStart => exact .inl rfl
  case round =>
    rcases hrel with rfl | rfl
    · go_wp2_with fail
      go_loop [7, 8] (fun c k => c = .int .i64 0 ∧ k = .int .i64 0) (fun _ _ => 0)
      case atStart => exact ⟨rfl, rfl⟩
      case round =>
        obtain ⟨rfl, rfl⟩ := hrel
        go_wp2
        go_round
        case rel => exact .inr rfl
        case measure => simp [intOf]
    · go_wp2_with fail
      refine (rtrims_c w.heap.size 2 0 2 w1 (Nat.le_refl _) (by omega) (by omega) (by omega) (by omega) M.out.2.1 (M.out.2.2 0 (by omega)).1 (fun j _ h => (M.out.2.2 j h).1)).mono ?_
      rintro e w2 ⟨a, k, c, rfl, l, b⟩
      have L := Lib.hid l
      have B := Lib.hid (M.out.1.trans (b.mono M.out.1.size))
      clear l b
      go_wp2
      go_ret
      exact ⟨a, k, c, rfl, L.out, B.out⟩
set_option maxRecDepth 100000 in
set_option maxHeartbeats 1000000 in
theorem rtimes_one (b1 o1 b2 o2 c1 c2 n1 n2 p : Nat) (w : World) (hp : n1 * n2 = p) (hp9 : p < 1000000000) (l1 : b1 < w.heap.size) (l2 : b2 < w.heap.size) (g1 : w.cell? ⟨b1, o1, none⟩ = some (.int .i64 n1)) (g2 : w.cell? ⟨b2, o2, none⟩ = some (.int .i64 n2)) :
    Calls Tryz.prog 30 #[.slice (some ⟨b1, o1, none⟩) 1 c1, .slice (some ⟨b2, o2, none⟩) 1 c2] w (SmPost p w) := by
  have hmk : ∀ w : World, (Instr.makeSlice 43 (.int .i64 3) (.int .i64 3)).run Tryz.prog w = .ok (.slice (some ⟨w.heap.size, 0, none⟩) 3 3) (w.alloc (.cells (madeCells #[.int .i64 0] 3) 3)) := fun w => mk_row 3 (by omega) w
  have hm : (n1 : Int) * (n2 : Int) = (p : Int) := by rw [← hp]; exact (Int.natCast_mul _ _).symm
  have hq : (p : Int).tdiv 1000000000 = 0 := by rw [Int.tdiv_eq_ediv_of_nonneg (by omega)]; omega
  have hr : (p : Int).tmod 1000000000 = p := by rw [Int.tmod_eq_emod_of_nonneg (by omega)]; omega
  have HP9 := Lib.hid hp9
  have hpi : (p : Int) < 1000000000 := by omega
  clear hp hp9
  go_enter Tryz.func30, Tryz.ntmps30
  go_wp2_with fail
  have M := Lib.hid (made_row 3 w)
  have G1 : Hid ((w.alloc (.cells (madeCells #[.int .i64 0] 3) 3)).cell? ⟨b1, o1, none⟩ = some (.int .i64 n1)) := by unfold Hid; rw [World.cell?_alloc_lt _ _ _ l1]; exact g1
  have G2 : Hid ((w.alloc (.cells (madeCells #[.int .i64 0] 3) 3)).cell? ⟨b2, o2, none⟩ = some (.int .i64 n2)) := by unfold Hid; rw [World.cell?_alloc_lt _ _ _ l2]; exact g2
  generalize w.alloc (.cells (madeCells #[.int .i64 0] 3) 3) = w1 at M G1 G2
  clear hmk g1 g2 l1 l2
  go_loopw [19] (fun i wr => (i = .int .i64 0 ∧ Hid (wr = w1)) ∨ (i = .int .i64 1 ∧ ∃ q, Hid (wr = (w1.drewN q).setCell ⟨w.heap.size, 0, none⟩ (.int .i64 p)))) (fun i _ => 1 - (intOf i).toNat)
  case atStart => exact .inl ⟨rfl, rfl⟩
  case round =>
    rcases hrel with ⟨rfl, hw⟩ | ⟨rfl, q, hw⟩
    · obtain rfl := hw.out
      go_wp2_with fail
      go_loopw [7, 8] (fun c k wi => c = .int .i64 0 ∧ ((k = .int .i64 0 ∧ Hid (wi = wr)) ∨ (k = .int .i64 1 ∧ ∃ q, Hid (wi = (wr.drewN q).setCell ⟨w.heap.size, 0, none⟩ (.int .i64 p))))) (fun _ k _ => 1 - (intOf k).toNat)
      case atStart => exact ⟨rfl, .inl ⟨rfl, rfl⟩⟩
      case round =>
        obtain ⟨rfl, ⟨rfl, hx⟩ | ⟨rfl, q, hx⟩⟩ := hrel
        · obtain rfl := hx.out
          have e1 := G1.out
          have e2 := G2.out
          have e3 := (M.out.2.2 0 (by omega)).1
          have e4 := (M.out.2.2 0 (by omega)).2
          go_wp2
          go_quiet (fail)
          go_wp2
          go_roundw
          case rel => exact ⟨rfl, .inr ⟨rfl, _, rfl⟩⟩
          case measure => simp [intOf]
        · go_wp2
          go_roundw
          case rel => exact .inr ⟨rfl, q, hx⟩
          case measure => simp [intOf]
    · have h0 : wr.cell? ⟨w.heap.size, 0, none⟩ = some (.int .i64 p) := by rw [hw.out]; exact World.cell?_setCell_same _ _ _ (show (w1.drewN q).cell? _ = some (.int .i64 0) from (M.out.2.2 0 (by omega)).1)
      have h1 : ∀ j, 1 ≤ j → j < 3 → wr.cell? ⟨w.heap.size, j, none⟩ = some (.int .i64 0) := fun j a b => by
        rw [hw.out, World.cell?_setCell_other _ _ _ _ (by intro h; injection h with _ h2; omega)]; exact (M.out.2.2 j b).1
      have h2 : Below w.heap.size w wr := by rw [hw.out]; exact (below_drewN M.out.1 q).setCell (p := ⟨w.heap.size, 0, none⟩) (Nat.le_refl _) _
      have h3 : w.heap.size < wr.heap.size := by rw [hw.out]; simpa using M.out.2.1
      have H := Lib.hid (⟨h0, h1, h2, h3⟩ : _ ∧ _ ∧ _ ∧ _)
      clear h0 h1 h2 h3 hw
      go_wp2_with fail
      refine (rtrims_c w.heap.size 3 p 3 wr (Nat.le_refl _) (by omega) (by omega) (by omega) HP9.out H.out.2.2.2 H.out.1 H.out.2.1).mono ?_
      rintro e w2 ⟨a, k, c, rfl, l, b⟩
      have L := Lib.hid l
      have B := Lib.hid (H.out.2.2.1.trans (b.mono H.out.2.2.1.size))
      clear l b
      go_wp2
      go_ret
      exact ⟨a, k, c, rfl, L.out, B.out⟩
theorem rtimes_c (a1 a2 : Option Addr) (c1 c2 k1 k2 n1 n2 : Nat) (w : World) (h1 : Sm w a1 k1 n1) (h2 : Sm w a2 k2 n2) (hp : n1 * n2 < 1000000000) :
    Calls Tryz.prog 30 #[.slice a1 k1 c1, .slice a2 k2 c2] w (SmPost (n1 * n2) w) := by
  rcases h1 with ⟨rfl, rfl⟩ | ⟨rfl, p1, m1, b1, o1, rfl, l1, g1⟩
  · rw [Nat.zero_mul]
    rcases h2 with ⟨rfl, rfl⟩ | ⟨rfl, _⟩
    · exact rtimes_nil0 _ _ _ _ _
    · exact rtimes_nil1 _ _ _ _ _
  · rcases h2 with ⟨rfl, rfl⟩ | ⟨rfl, p2, m2, b2, o2, rfl, l2, g2⟩
    · exact rtimes_none _ _ _ _ _ _ _ g1
    · exact rtimes_one _ _ _ _ _ _ _ _ _ _ rfl hp l1 l2 g1 g2
end Go.Proofs.YtecbkfmdpgkdiaaGreatDoor
