/-
  Numbers of one digit to the base 10^9 in the reference: small, trim, order, short.
-/
import Derived.Test.YtecbkfmdpgkdiaaGreatDoorRatBuild
namespace Go.Proofs.YtecbkfmdpgkdiaaGreatDoor
open Go.RowKit

theorem infoI : (Tryz.prog.info? 3).map (fun i => (i.zero, i.size, i.bytes)) = some (some (.int .i64 0), 1, 8) := by kernel_rfl
/-- A row of digits that reads as a number of at most one digit. -/
def Sm (w : World) (a : Option Addr) (k n : Nat) : Prop :=
  (k = 0 ∧ n = 0) ∨ (k = 1 ∧ 0 < n ∧ n < 1000000000 ∧ ∃ b off, a = some ⟨b, off, none⟩ ∧ b < w.heap.size ∧ w.cell? ⟨b, off, none⟩ = some (.int .i64 n))
theorem Sm.below {w w' : World} {a : Option Addr} {k n : Nat} (h : Sm w a k n) (hb : Below w.heap.size w w') : Sm w' a k n := by
  rcases h with h | ⟨h1, h2, h3, b, off, e, hl, hc⟩
  · exact .inl h
  · exact .inr ⟨h1, h2, h3, b, off, e, Nat.lt_of_lt_of_le hl hb.size, by rw [hb.cell (p := ⟨b, off, none⟩) hl]; exact hc⟩
theorem Sm.zero (w : World) (a : Option Addr) : Sm w a 0 0 := .inl ⟨rfl, rfl⟩
theorem Sm.nul {w : World} {a : Option Addr} {k : Nat} (h : Sm w a k 0) : k = 0 := by
  rcases h with ⟨h, _⟩ | ⟨_, h, _⟩
  · exact h
  · omega
theorem Sm.pos {w : World} {a : Option Addr} {k n : Nat} (h : Sm w a k n) (hn : 0 < n) : k = 1 ∧ n < 1000000000 ∧ ∃ b off, a = some ⟨b, off, none⟩ ∧ b < w.heap.size ∧ w.cell? ⟨b, off, none⟩ = some (.int .i64 n) := by
  rcases h with ⟨_, h⟩ | ⟨h1, _, h3, h4⟩
  · omega
  · exact ⟨h1, h3, h4⟩
theorem Sm.lt {w : World} {a : Option Addr} {k n : Nat} (h : Sm w a k n) : n < 1000000000 := by
  rcases h with ⟨_, h⟩ | ⟨_, _, h, _⟩
  · omega
  · exact h
def SmPost (n : Nat) (w : World) (e : Ending) (w' : World) : Prop := ∃ a k c, e = .returned (.slice a k c) ∧ Sm w' a k n ∧ Below w.heap.size w w'
theorem small_zero (w : World) : Calls Tryz.prog 27 #[.int .i64 0] w (SmPost 0 w) := by
  go_enter Tryz.func27, Tryz.ntmps27
  go_wp2
  go_loop [0, 3] (fun n v => n = .int .i64 0 ∧ v = .slice none 0 0) (fun _ _ => 0)
  case atStart => exact ⟨rfl, rfl⟩
  case round =>
    obtain ⟨rfl, rfl⟩ := hrel
    go_wp2
    go_ret
    exact ⟨none, 0, 0, rfl, Sm.zero _ _, Below.refl _ _⟩
set_option maxRecDepth 100000 in
set_option maxHeartbeats 1000000 in
theorem small_pos (n : Nat) (w : World) (h0 : 0 < n) (hn : n < 1000000000) : Calls Tryz.prog 27 #[.int .i64 n] w (SmPost n w) := by
  obtain ⟨i0, hi, hz0, hz1, hz2⟩ := info_parts infoI
  have hp : (0 : Int) < (n : Int) := by omega
  have hq : (n : Int).tdiv 1000000000 = 0 := by rw [Int.tdiv_eq_ediv_of_nonneg (by omega)]; omega
  have hr : (n : Int).tmod 1000000000 = n := by rw [Int.tmod_eq_emod_of_nonneg (by omega)]; omega
  have HN := Lib.hid hn
  have H0 := Lib.hid h0
  clear hn h0
  go_enter Tryz.func27, Tryz.ntmps27
  go_wp2
  go_loopw [0, 3] (fun x v wr => (x = .int .i64 n ∧ v = .slice none 0 0 ∧ Hid (wr = w)) ∨ (x = .int .i64 0 ∧ ∃ a k c, v = .slice a k c ∧ Hid (Sm wr a k n ∧ Below w.heap.size w wr))) (fun x _ _ => (intOf x).toNat)
  case atStart => exact .inl ⟨rfl, rfl, rfl⟩
  case round =>
    rcases hrel with ⟨rfl, rfl, hw⟩ | ⟨rfl, a, k, c, rfl, hS⟩
    · obtain rfl := hw.out
      go_wp2_with (at_builtin; refine wpList_append_own _ rfl _ _ 43 rfl wr.heap.size 3 i0 (.int .i64 0) 1 8 Tryz.underlying43 hi hz0 hz1 hz2 rfl (by decide) _ _ _ rfl (World.ownsRow_nil _ _ _ _) ⟨wr.heap.size, 0, none⟩ 1 1 [.int .i64 n] rfl rfl ?c1 ?c2 ?c3 ?c4 ?c5 ?_)
      case c2 => first | (intro u hu; simp at hu; subst hu; rfl) | rfl | trivial
      case c3 => first | (unfold maxLen; omega) | decide
      intro v' w1 hown' hgrow _
      obtain ⟨g, cap, rfl, hgB, hgs, hcell⟩ := own_open hown' (by omega)
      have hS : Hid (Sm w1 (some ⟨g, 0, none⟩) 1 n ∧ Below wr.heap.size wr w1) := by
        refine ⟨.inr ⟨rfl, H0.out, HN.out, g, 0, rfl, hgs, hcell 0 _ rfl⟩, ?_⟩
        exact ((Below.refl _ _).alloc (Nat.le_refl _) (.cells #[.int .i64 n] 3)).grown hgrow (by simp) (fun b hb => by simp [Value.ownBlock] at hb)
      clear hown' hgrow hcell
      go_wp2
      go_roundw
      case rel => exact .inr ⟨by simp, _, _, _, rfl, hS⟩
      case measure => simp [intOf]; have := H0.out; omega
    · go_wp2
      go_ret
      exact ⟨a, k, c, rfl, hS.out.1, hS.out.2⟩
theorem small_c (n : Nat) (w : World) (hn : n < 1000000000) : Calls Tryz.prog 27 #[.int .i64 n] w (SmPost n w) := by
  rcases Nat.eq_zero_or_pos n with h | h
  · subst h; exact small_zero w
  · exact small_pos n w h hn
end Go.Proofs.YtecbkfmdpgkdiaaGreatDoor
