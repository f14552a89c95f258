/-
  Shuffle of package value.
-/
import Derived.Test.YtleiapoaoiapbabChRef
import Derived.RegionTactic
import Derived.ChangeAlike
import Derived.BigRegion
namespace Go.Proofs.Ytleiapoaoiapbab
open Go.RowKit

theorem Shuffle_no (s : ByteArray) (n : Int) (w : World) (h : n < 0 ∨ 10000 < n) :
    Calls Try.prog 7 #[.string s, .int .i64 n] w fun e w' => e = .returned (.tuple #[.slice none 0 0, .int .i64 1]) ∧ w' = w := by
  rcases h with h | h
  · go_enter Try.func7, Try.ntmps7
    go_wp2
    go_ret2
    exact ⟨rfl, rfl⟩
  · have h1 : decide (n < 0) = false := by simp; omega
    go_enter Try.func7, Try.ntmps7
    go_wp2
    go_ret2
    exact ⟨rfl, rfl⟩

/-- What Shuffle leaves behind k exchanges: the order in block B, the state in block B + 1. -/
structure InShuffle (w : World) (s0 : Int) (n k : Nat) (wr : World) : Prop where
  row : RowF wr w.heap.size n .i64 (Ch.pm s0 n k)
  one : wr.heap[w.heap.size + 1]? = some (.cells #[.int .u64 (Ch.stAt s0 k)] 30 (0, 0))
  bel : Below w.heap.size w wr
  size : wr.heap.size = w.heap.size + 2

/-- While the numbers are laid in order. -/
structure Laying (w : World) (n k : Nat) (wr : World) : Prop where
  row : RowF wr w.heap.size n .i64 (fun j => if j < k then (j : Int) else 0)
  bel : Below w.heap.size w wr
  size : wr.heap.size = w.heap.size + 1
theorem Laying.next {w wr : World} {n k : Nat} (h : Laying w n k wr) : Laying w n (k + 1) (wr.setCell ⟨w.heap.size, k, none⟩ (.int .i64 k)) where
  row := by
    refine (h.row.set k _).congr fun j hj => ?_
    by_cases e : j = k
    · subst e; simp
    · rw [if_neg e]
      by_cases l : j < k
      · rw [if_pos l, if_pos (by omega)]
      · rw [if_neg l, if_neg (by omega)]
  bel := h.bel.setCell (p := ⟨w.heap.size, k, none⟩) (Nat.le_refl _) _
  size := by simpa using h.size
theorem Laying.start (w : World) (n : Nat) : Laying w n 0 (w.alloc (.cells (madeCells #[.int .i64 0] n) 3)) where
  row := (RowF.made w n .i64 3).congr (fun j _ => by simp)
  bel := (Below.refl _ _).alloc (Nat.le_refl _) _
  size := by simp
theorem Laying.stream {w wr w1 : World} {n : Nat} {s0 : Int} (h : Laying w n n wr) (hO : OneAt wr wr.heap.size (.int .u64 s0) w1) : InShuffle w s0 n 0 w1 where
  row := by
    refine (h.row.below hO.2.1 (by rw [h.size]; omega)).congr fun j hj => ?_
    rw [if_pos hj]; rfl
  one := by rw [← h.size]; exact hO.1
  bel := h.bel.trans (hO.2.1.mono (by rw [h.size]; omega))
  size := by rw [hO.2.2, h.size]
/-- One exchange, behind one number of the stream. -/
theorem InShuffle.next {w wr : World} {s0 : Int} {n m : Nat} (hm : m + 1 < n) (h : InShuffle w s0 n (n - 1 - (m + 1)) wr) (d : Nat) (jn : Nat) (hj : jn = Ch.jx s0 n (m + 1)) :
    InShuffle w s0 n (n - 1 - m) ((((wr.setCell ⟨w.heap.size + 1, 0, none⟩ (.int .u64 (Ch.nx (Ch.stAt s0 (n - 1 - (m + 1)))))).drewN d).setCell ⟨w.heap.size, m + 1, none⟩ (.int .i64 (Ch.pm s0 n (n - 1 - (m + 1)) jn))).setCell ⟨w.heap.size, jn, none⟩ (.int .i64 (Ch.pm s0 n (n - 1 - (m + 1)) (m + 1)))) where
  row := by
    have r1 : RowF (wr.setCell ⟨w.heap.size + 1, 0, none⟩ (.int .u64 (Ch.nx (Ch.stAt s0 (n - 1 - (m + 1)))))) w.heap.size n .i64 (Ch.pm s0 n (n - 1 - (m + 1))) := h.row.other (a := ⟨w.heap.size + 1, 0, none⟩) (by simp) _
    have r2 : RowF ((wr.setCell ⟨w.heap.size + 1, 0, none⟩ (.int .u64 (Ch.nx (Ch.stAt s0 (n - 1 - (m + 1)))))).drewN d) w.heap.size n .i64 (Ch.pm s0 n (n - 1 - (m + 1))) := fun j hj => r1 j hj
    refine ((r2.set (m + 1) _).set jn _).congr fun p _ => ?_
    rw [Ch.pm_next s0 n m hm, hj]
    rfl
  one := by
    rw [heap_setCell_ne _ _ _ _ (by simp), heap_setCell_ne _ _ _ _ (by simp), Ch.stAt_next s0 n m hm]
    exact one_setCell h.one
  bel := (below_drewN (h.bel.setCell (p := ⟨w.heap.size + 1, 0, none⟩) (Nat.le_succ _) _) d |>.setCell (p := ⟨w.heap.size, m + 1, none⟩) (Nat.le_refl _) _).setCell (p := ⟨w.heap.size, jn, none⟩) (Nat.le_refl _) _
  size := by simpa using h.size

set_option maxHeartbeats 4000000 in
theorem Shuffle_yes (s : ByteArray) (n : Nat) (w : World) (hs : s.size ≤ 9223372036854775807) (hn : n ≤ 10000) (h0 : 0 < n) :
    Calls Try.prog 7 #[.string s, .int .i64 n] w fun e w' => e = .returned (.tuple #[.slice (some ⟨w.heap.size, 0, none⟩) n n, .int .i64 0]) ∧ InShuffle w (Ch.seed s) n (n - 1) w' := by
  have hmk := run_make_row' (P := Try.prog) 26 3 (.int .i64 0) 8 Try.underlying26 infoI rfl .i64 .i64 n (by omega) (by omega)
  have h1 : decide ((n : Int) < 0) = false := by simp
  have h2 : decide ((10000 : Int) < (n : Int)) = false := by simp; omega
  go_enter Try.func7, Try.ntmps7
  go_wp2_with fail
  have hS := Lib.hid (Laying.start w n)
  generalize w.alloc (.cells (madeCells #[.int .i64 0] n) 3) = w2 at hS
  clear hmk h1 h2
  go_loopw [7, 21] (fun _ i wr => ∃ k : Nat, k ≤ n ∧ i = .int .i64 k ∧ Hid (Laying w n k wr)) (fun _ i _ => n - (intOf i).toNat)
  case atStart => exact ⟨0, Nat.zero_le _, rfl, hS.out⟩
  case round =>
    obtain ⟨k, hk, rfl, hR⟩ := hrel
    by_cases hlt : k < n
    · have c1 := (hR.out.row k hlt).1
      have f1 := (hR.out.row k hlt).2
      have hlt' : (k : Int) < (n : Int) := by omega
      have hN := Lib.hid hR.out.next
      simp only [if_neg (Nat.lt_irrefl k)] at c1
      clear hR hS
      go_wp2
      go_roundw
      case rel => exact ⟨k + 1, by omega, by go_num, hN.out⟩
      case measure => simp [intOf]; omega
    · obtain rfl : k = n := by omega
      obtain ⟨N, rfl⟩ : ∃ N, k = N + 1 := ⟨k - 1, by omega⟩
      clear hS
      go_wp2_with fail
      refine (stream_c _ _ hs).mono ?_
      rintro e w3 ⟨rfl, hO⟩
      have hI := Lib.hid (hR.out.stream hO)
      rw [hR.out.size]
      clear hO hR
      go_wp2_with fail
      go_loopw [9, 10] (fun i _ wr => ∃ q : Nat, q < N + 1 ∧ i = .int .i64 q ∧ Hid (InShuffle w (Ch.seed s) (N + 1) (N + 1 - 1 - q) wr)) (fun i _ _ => (intOf i).toNat)
      case atStart => exact ⟨N, by omega, rfl, by rw [show N + 1 - 1 - N = 0 by omega]; exact hI.out⟩
      case round =>
        obtain ⟨q, hq, rfl, hR⟩ := hrel
        clear hI
        cases q with
        | zero =>
          go_wp2
          go_ret2
          exact ⟨rfl, hR.out⟩
        | succ m =>
          have hc := cell_of_one hR.out.one
          have hf := free_of_one hR.out.one
          have hJ := Ch.jx_lt (Ch.seed s) (N + 1) (m + 1)
          have hE := Ch.jx_cast (Ch.seed s) (N + 1) (m + 1)
          have ci := (hR.out.row (m + 1) hq).1
          have fi := (hR.out.row (m + 1) hq).2
          have cj := (hR.out.row (Ch.jx (Ch.seed s) (N + 1) (m + 1)) (by omega)).1
          have fj := (hR.out.row (Ch.jx (Ch.seed s) (N + 1) (m + 1)) (by omega)).2
          have hN := Lib.hid (fun d => hR.out.next (m := m) hq d _ rfl)
          obtain ⟨jn, hjn⟩ : ∃ jn, jn = Ch.jx (Ch.seed s) (N + 1) (m + 1) := ⟨_, rfl⟩
          rw [← hjn] at hJ hE cj fj hN
          clear hjn
          have hE' : Hid ((Ch.ot (Ch.stAt (Ch.seed s) (N + 1 - 1 - (m + 1)))).tmod ((m : Int) + 1 + 1) = (jn : Int)) := by unfold Hid; rw [hE, Ch.tmod_ot]; rfl
          clear hE hR
          generalize Ch.stAt (Ch.seed s) (N + 1 - 1 - (m + 1)) = st at hc hN hE'
          generalize Ch.pm (Ch.seed s) (N + 1) (N + 1 - 1 - (m + 1)) (m + 1) = x at ci hN
          generalize Ch.pm (Ch.seed s) (N + 1) (N + 1 - 1 - (m + 1)) jn = y at cj hN
          go_wp2_with fail
          refine (step_c _ _ _ hc hf).mono ?_
          rintro e w4 ⟨rfl, rfl⟩
          go_wp2_with fail
          rw [hE'.out]
          obtain ⟨W4, hW4⟩ : ∃ W4, W4 = wr.setCell ⟨w.heap.size + 1, 0, none⟩ (.int .u64 (Ch.nx st)) := ⟨_, rfl⟩
          rw [← hW4]
          have ci' : W4.cell? ⟨w.heap.size, m + 1, none⟩ = some (.int .i64 x) := by rw [hW4, World.cell?_setCell_other _ _ _ _ (by simp)]; exact ci
          have cj' : W4.cell? ⟨w.heap.size, jn, none⟩ = some (.int .i64 y) := by rw [hW4, World.cell?_setCell_other _ _ _ _ (by simp)]; exact cj
          have fi' : W4.frozen? ⟨w.heap.size, m + 1, none⟩ = false := by rw [hW4, World.frozen?_setCell]; exact fi
          have fj' : W4.frozen? ⟨w.heap.size, jn, none⟩ = false := by rw [hW4, World.frozen?_setCell]; exact fj
          have HW := Lib.hid hW4; clear hW4 ci cj fi fj hc hf
          have i1 : (m : Int) + 1 < (N : Int) + 1 := by omega
          have i2 : (jn : Int) < (N : Int) + 1 := by omega
          clear hE'
          by_cases hne : jn = m + 1
          · subst hne
            obtain rfl : x = y := by have h := ci'.symm.trans cj'; simpa using h
            go_region
            go_wp2
            go_roundw
            case rel => exact ⟨m, by omega, by go_num, by have h := hN.out 1; rw [← HW.out] at h; exact h⟩
            case measure => simp [intOf]
          · obtain ⟨v', hy'⟩ := cell?_setCell_some (w := W4.drew) (p := ⟨w.heap.size, m + 1, none⟩) (x := .int .i64 y) (q := ⟨w.heap.size, jn, none⟩) (v := .int .i64 y) (by simpa using cj')
            go_region
            go_wp2
            go_roundw
            case rel => exact ⟨m, by omega, by go_num, by have h := hN.out 1; rw [← HW.out] at h; exact h⟩
            case measure => simp [intOf]
end Go.Proofs.Ytleiapoaoiapbab
