/-
  The reference's Stream; and equal rows.
-/
import Derived.Test.YtleiapoaoiapbabChWalks
import Derived.WalkSmall
namespace Go.Proofs.Ytleiapoaoiapbab
open Go.RowKit

theorem within_y (n a b : Int) (w : World) (h1 : a ≤ n) (h2 : n ≤ b) :
    Calls Try.prog 12 #[.int .i64 n, .int .i64 a, .int .i64 b] w fun e w' => e = .returned (.bool true) ∧ w = w' := by
  go_enter Try.func12, Try.ntmps12
  go_wp2
  go_ret
  exact ⟨rfl, rfl⟩
theorem within_n (n a b : Int) (w : World) (h : n < a ∨ b < n) :
    Calls Try.prog 12 #[.int .i64 n, .int .i64 a, .int .i64 b] w fun e w' => e = .returned (.bool false) ∧ w = w' := by
  by_cases h1 : a ≤ n
  · have h2 : decide (n ≤ b) = false := by simp; omega
    clear h
    go_enter Try.func12, Try.ntmps12
    go_wp2
    go_ret
    exact ⟨rfl, rfl⟩
  · have h2 : decide (a ≤ n) = false := by simp; omega
    clear h h1
    go_enter Try.func12, Try.ntmps12
    go_wp2
    go_ret
    exact ⟨rfl, rfl⟩

theorem RStream_no (s : ByteArray) (n : Int) (w : World) (h : n < 0 ∨ 10000 < n) :
    Calls Try.prog 6 #[.string s, .int .i64 n] w fun e w' => e = .returned (.tuple #[.slice none 0 0, .int .i64 1]) ∧ w' = w := by
  have H := Lib.hid h; clear h
  go_enter Try.func6, Try.ntmps6
  go_wp2_with (go_at_call 12; refine (within_n _ _ _ _ H.out).mono ?_; rintro e w' ⟨rfl, rfl⟩)
  go_ret2
  exact ⟨rfl, rfl⟩

/-- What the loop of the reference's Stream has gathered. -/
structure Gathered (w : World) (s0 : Int) (k : Nat) (v : Value) (wr : World) : Prop where
  row : wr.ownsRow w.heap.size 30 1 v k ((Ch.outs s0 k).map (Value.int .u64))
  bel : Below w.heap.size w wr
theorem Gathered.more {w wr w1 : World} {s0 : Int} {k : Nat} {v v' : Value} {o : Obj} (h : Gathered w s0 k v wr)
    (hown : w1.ownsRow w.heap.size 30 1 v' (k + 1) ((Ch.outs s0 k).map (Value.int .u64) ++ [.int .u64 (Ch.outAt s0 k)])) (hg : (wr.alloc o).grownBy w1 v.ownBlock) : Gathered w s0 (k + 1) v' w1 where
  row := by rw [Ch.outs_succ, List.map_append]; exact hown
  bel := (h.bel.alloc h.bel.size o).grown hg (Nat.le_trans h.bel.size (by simp)) (fun b hb => (h.row.lt b hb).1)

def RSPost (w : World) (s0 : Int) (n : Nat) (e : Ending) (w' : World) : Prop := ∃ v, e = .returned (.tuple #[v, .int .i64 0]) ∧ Gathered w s0 n v w'
set_option maxHeartbeats 2000000 in
theorem RStream_yes (s : ByteArray) (n : Nat) (w : World) (hs : s.size ≤ 9223372036854775807) (hn : n ≤ 10000) :
    Calls Try.prog 6 #[.string s, .int .i64 n] w (RSPost w (Ch.seed s) n) := by
  obtain ⟨i0, hi, hz0, hz1, hz2⟩ := info_parts infoU
  have hnn : (n : Int) ≤ 10000 := by omega
  go_enter Try.func6, Try.ntmps6
  go_wp2_with (go_at_call 12; refine (within_y _ _ _ _ (by omega) (by omega)).mono ?_; rintro e w' ⟨rfl, rfl⟩)
  go_loop [6, 7, 15] (fun st _ i => ∃ k : Nat, k ≤ s.size ∧ i = .int .i64 k ∧ st = .int .u64 (Ch.seedAt s k)) (fun _ _ i => s.size - (intOf i).toNat)
  case atStart => exact ⟨0, Nat.zero_le _, rfl, rfl⟩
  case round =>
    obtain ⟨k, hk, rfl, rfl⟩ := hrel
    by_cases hlt : k < s.size
    · have hst := Lib.hid (seed_step s k hlt)
      have hlt' : (k : Int) < (s.size : Int) := by omega
      generalize Ch.seedAt s k = st at hst
      go_wp2
      go_round
      case rel => exact ⟨k + 1, by omega, by go_num, by rw [hst.out]; rfl⟩
      case measure => simp [intOf]; omega
    · obtain rfl : k = s.size := by omega
      go_wp2_with fail
      go_loopw [6, 8, 9, 27] (fun st v _ i wr => ∃ q : Nat, q ≤ n ∧ i = .int .i64 q ∧ st = .int .u64 (Ch.stAt (Ch.seed s) q) ∧ Hid (Gathered w (Ch.seed s) q v wr)) (fun _ _ _ i _ => n - (intOf i).toNat)
      case atStart => exact ⟨0, Nat.zero_le _, rfl, rfl, World.ownsRow_nil _ _ _ _, Below.refl _ _⟩
      case round =>
        obtain ⟨q, hq, rfl, rfl, hG⟩ := hrel
        by_cases hlt2 : q < n
        · have hqq : (q : Int) < (n : Int) := by omega
          have hown := hG.out.row
          have hO := Lib.hid hown; clear hown
          have hE : Hid (Ch.outAt (Ch.seed s) q = Ch.ot (Ch.stAt (Ch.seed s) q)) := rfl
          have hN : Hid (Ch.stAt (Ch.seed s) (q + 1) = Ch.nx (Ch.stAt (Ch.seed s) q)) := rfl
          generalize Ch.stAt (Ch.seed s) q = st at hE hN
          go_wp2_with (at_builtin; refine wpList_append_own _ rfl _ _ 22 rfl w.heap.size 30 i0 (.int .u64 0) 1 8 Try.underlying22 hi hz0 hz1 hz2 rfl (by decide) _ _ _ rfl (hO.out.alloc _) ⟨wr.heap.size, 0, none⟩ 1 1 [.int .u64 (Ch.ot st)] rfl rfl ?c1 ?c2 ?c3 ?c4 ?c5 ?_)
          case c1 =>
            intro j u hj
            match j, hj with
            | 0, hj => simp at hj; subst hj; simp [Addr.add]; rfl
          case c2 => intro u hu; simp at hu; subst hu; rfl
          case c3 => unfold maxLen; omega
          case c4 => omega
          case c5 => have := hG.out.bel.size; simp; omega
          intro v' w1 hown' hgrow _
          have hG' := Lib.hid (hG.out.more (by rw [hE.out]; exact hown') hgrow)
          clear hown' hgrow hG hO
          go_wp2
          go_roundw
          case rel => exact ⟨q + 1, by omega, by go_num, by rw [hN.out]; rfl, hG'.out⟩
          case measure => simp [intOf]; omega
        · obtain rfl : q = n := by omega
          go_wp2
          go_ret2
          exact ⟨_, rfl, hG.out⟩
end Go.Proofs.Ytleiapoaoiapbab
