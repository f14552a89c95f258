/-
  Numbers of one digit to the base 10^9 in the reference: plus.
-/
import Derived.Test.YtecbkfmdpgkdiaaGreatDoorRtsTimes
namespace Go.Proofs.YtecbkfmdpgkdiaaGreatDoor
open Go.RowKit

/-- An owned row that is not empty, with the bounds of its room. -/
theorem own_open2 {w : World} {B n : Nat} {e : TypeId} {v : Value} {xs : List Value} (h : w.ownsRow B e 1 v n xs) (hn : 0 < n) :
    ∃ g cap, v = .slice (some ⟨g, 0, none⟩) n cap ∧ B ≤ g ∧ g < w.heap.size ∧ (∀ j u, xs[j]? = some u → w.cell? ⟨g, j, none⟩ = some u) ∧ n ≤ cap ∧ cap ≤ 9223372036854775807 := by
  obtain ⟨g, cap, rfl, h1, h2, h3⟩ := own_open h hn
  refine ⟨g, cap, rfl, h1, h2, h3, ?_⟩
  obtain ⟨_, h | ⟨g', cap', cur, e, hb, hg, hnc, hm, hs, ht⟩⟩ := h
  · obtain ⟨e, _⟩ := h
    injection e
    omega
  · injection e with e1 e2 e3
    subst e3
    unfold maxLen at hm
    omega
theorem rplus_nil (a1 a2 : Option Addr) (c1 c2 : Nat) (w : World) :
    Calls Tryz.prog 31 #[.slice a1 0 c1, .slice a2 0 c2] w (SmPost 0 w) := by
  go_enter Tryz.func31, Tryz.ntmps31
  go_wp2_with fail
  go_loop [5, 6, 7] (fun v c i => v = .slice none 0 0 ∧ c = .int .i64 0 ∧ i = .int .i64 0) (fun _ _ _ => 0)
  case atStart => exact ⟨rfl, rfl, rfl⟩
  case round =>
    obtain ⟨rfl, rfl, rfl⟩ := hrel
    go_wp2_with fail
    refine (rtrim_zero _ _ _).mono ?_
    rintro e w2 ⟨a, k, c, rfl, l, b⟩
    have L := Lib.hid l
    have B := Lib.hid b
    clear l b
    go_wp2
    go_ret
    exact ⟨a, k, c, rfl, L.out, B.out⟩
set_option maxRecDepth 100000 in
set_option maxHeartbeats 1000000 in
theorem rplus_both (b1 o1 : Nat) (b2 o2 : Nat) (c1 c2 : Nat) (n1 n2 p : Nat) (w : World) (hp : n1 + n2 = p) (h0 : 0 < p) (hp9 : p < 1000000000) (g1 : w.cell? ⟨b1, o1, none⟩ = some (.int .i64 n1)) (g2 : w.cell? ⟨b2, o2, none⟩ = some (.int .i64 n2)) :
    Calls Tryz.prog 31 #[.slice (some ⟨b1, o1, none⟩) 1 c1, .slice (some ⟨b2, o2, none⟩) 1 c2] w (SmPost p w) := by
  obtain ⟨i0, hi, hz0, hz1, hz2⟩ := info_parts infoI
  have hm : (n1 : Int) + (n2 : Int) = (p : Int) := by rw [← hp]; rfl
  have hq : (p : Int).tdiv 1000000000 = 0 := by rw [Int.tdiv_eq_ediv_of_nonneg (by omega)]; omega
  have hr : (p : Int).tmod 1000000000 = p := by rw [Int.tmod_eq_emod_of_nonneg (by omega)]; omega
  have HP9 := Lib.hid hp9
  have HP0 := Lib.hid h0
  have hpi : (p : Int) < 1000000000 := by omega
  clear hp hp9 h0
  go_enter Tryz.func31, Tryz.ntmps31
  go_wp2_with fail
  go_loopw [5, 6, 7] (fun v c i wr => c = .int .i64 0 ∧ ((i = .int .i64 0 ∧ v = .slice none 0 0 ∧ Hid (wr = w)) ∨ (i = .int .i64 1 ∧ ∃ g cap, v = .slice (some ⟨g, 0, none⟩) 1 cap ∧ 1 ≤ cap ∧ cap ≤ 9223372036854775807 ∧ Hid (g < wr.heap.size ∧ wr.cell? ⟨g, 0, none⟩ = some (.int .i64 p) ∧ Below w.heap.size w wr)))) (fun _ _ i _ => 1 - (intOf i).toNat)
  case atStart => exact ⟨rfl, .inl ⟨rfl, rfl, rfl⟩⟩
  case round =>
    obtain ⟨rfl, ⟨rfl, rfl, hw⟩ | ⟨rfl, g, cap, rfl, hc1, hc9, hS⟩⟩ := hrel
    · obtain rfl := hw.out
      go_wp2_with (at_builtin; refine wpList_append_own _ rfl _ _ 43 rfl wr.heap.size 3 i0 (.int .i64 0) 1 8 Tryz.underlying43 hi hz0 hz1 hz2 rfl (by decide) _ _ _ rfl (World.ownsRow_nil _ _ _ _) ⟨wr.heap.size, 0, none⟩ 1 1 [.int .i64 p] rfl rfl ?c1 ?c2 ?c3 ?c4 ?c5 ?_)
      case c2 => first | (intro u hu; simp at hu; subst hu; rfl) | rfl | trivial
      case c3 => first | (unfold maxLen; omega) | decide
      intro v' w1 hown' hgrow _
      obtain ⟨g, cap, rfl, hgB, hgs, hcell, hc1, hc9⟩ := own_open2 hown' (by omega)
      have hS : Hid (g < w1.heap.size ∧ w1.cell? ⟨g, 0, none⟩ = some (.int .i64 p) ∧ Below wr.heap.size wr w1) := by
        refine ⟨hgs, hcell 0 _ rfl, ?_⟩
        exact ((Below.refl _ _).alloc (Nat.le_refl _) (.cells #[.int .i64 p] 3)).grown hgrow (by simp) (fun b hb => by simp [Value.ownBlock] at hb)
      clear hown' hgrow hcell hgB hgs
      go_wp2
      go_roundw
      case rel => exact ⟨rfl, .inr ⟨rfl, _, _, rfl, hc1, hc9, hS⟩⟩
      case measure => simp [intOf]
    · go_wp2_with fail
      refine (rtrim_c g 0 cap p wr hc1 hc9 HP9.out hS.out.1 hS.out.2.1).mono ?_
      rintro e w2 ⟨a, k, c, rfl, l, b⟩
      have L := Lib.hid l
      have B := Lib.hid (hS.out.2.2.trans (b.mono hS.out.2.2.size))
      clear l b
      go_wp2
      go_ret
      exact ⟨a, k, c, rfl, L.out, B.out⟩
set_option maxRecDepth 100000 in
set_option maxHeartbeats 1000000 in
theorem rplus_left (b1 o1 : Nat) (a2 : Option Addr) (c1 c2 : Nat) (p : Nat) (w : World) (h0 : 0 < p) (hp9 : p < 1000000000) (g1 : w.cell? ⟨b1, o1, none⟩ = some (.int .i64 p)) :
    Calls Tryz.prog 31 #[.slice (some ⟨b1, o1, none⟩) 1 c1, .slice a2 0 c2] w (SmPost p w) := by
  obtain ⟨i0, hi, hz0, hz1, hz2⟩ := info_parts infoI
  have hx : max (1 : Int) (0 : Int) = 1 := by decide
  have hq : (p : Int).tdiv 1000000000 = 0 := by rw [Int.tdiv_eq_ediv_of_nonneg (by omega)]; omega
  have hr : (p : Int).tmod 1000000000 = p := by rw [Int.tmod_eq_emod_of_nonneg (by omega)]; omega
  have HP9 := Lib.hid hp9
  have HP0 := Lib.hid h0
  have hpi : (p : Int) < 1000000000 := by omega
  clear hp9 h0
  go_enter Tryz.func31, Tryz.ntmps31
  go_wp2_with fail
  go_loopw [5, 6, 7] (fun v c i wr => c = .int .i64 0 ∧ ((i = .int .i64 0 ∧ v = .slice none 0 0 ∧ Hid (wr = w)) ∨ (i = .int .i64 1 ∧ ∃ g cap, v = .slice (some ⟨g, 0, none⟩) 1 cap ∧ 1 ≤ cap ∧ cap ≤ 9223372036854775807 ∧ Hid (g < wr.heap.size ∧ wr.cell? ⟨g, 0, none⟩ = some (.int .i64 p) ∧ Below w.heap.size w wr)))) (fun _ _ i _ => 1 - (intOf i).toNat)
  case atStart => exact ⟨rfl, .inl ⟨rfl, rfl, rfl⟩⟩
  case round =>
    obtain ⟨rfl, ⟨rfl, rfl, hw⟩ | ⟨rfl, g, cap, rfl, hc1, hc9, hS⟩⟩ := hrel
    · obtain rfl := hw.out
      go_wp2_with (at_builtin; refine wpList_append_own _ rfl _ _ 43 rfl wr.heap.size 3 i0 (.int .i64 0) 1 8 Tryz.underlying43 hi hz0 hz1 hz2 rfl (by decide) _ _ _ rfl (World.ownsRow_nil _ _ _ _) ⟨wr.heap.size, 0, none⟩ 1 1 [.int .i64 p] rfl rfl ?c1 ?c2 ?c3 ?c4 ?c5 ?_)
      case c2 => first | (intro u hu; simp at hu; subst hu; rfl) | rfl | trivial
      case c3 => first | (unfold maxLen; omega) | decide
      intro v' w1 hown' hgrow _
      obtain ⟨g, cap, rfl, hgB, hgs, hcell, hc1, hc9⟩ := own_open2 hown' (by omega)
      have hS : Hid (g < w1.heap.size ∧ w1.cell? ⟨g, 0, none⟩ = some (.int .i64 p) ∧ Below wr.heap.size wr w1) := by
        refine ⟨hgs, hcell 0 _ rfl, ?_⟩
        exact ((Below.refl _ _).alloc (Nat.le_refl _) (.cells #[.int .i64 p] 3)).grown hgrow (by simp) (fun b hb => by simp [Value.ownBlock] at hb)
      clear hown' hgrow hcell hgB hgs
      go_wp2
      go_roundw
      case rel => exact ⟨rfl, .inr ⟨rfl, _, _, rfl, hc1, hc9, hS⟩⟩
      case measure => simp [intOf]
    · go_wp2_with fail
      refine (rtrim_c g 0 cap p wr hc1 hc9 HP9.out hS.out.1 hS.out.2.1).mono ?_
      rintro e w2 ⟨a, k, c, rfl, l, b⟩
      have L := Lib.hid l
      have B := Lib.hid (hS.out.2.2.trans (b.mono hS.out.2.2.size))
      clear l b
      go_wp2
      go_ret
      exact ⟨a, k, c, rfl, L.out, B.out⟩
set_option maxRecDepth 100000 in
set_option maxHeartbeats 1000000 in
theorem rplus_right (a1 : Option Addr) (b2 o2 : Nat) (c1 c2 : Nat) (p : Nat) (w : World) (h0 : 0 < p) (hp9 : p < 1000000000) (g2 : w.cell? ⟨b2, o2, none⟩ = some (.int .i64 p)) :
    Calls Tryz.prog 31 #[.slice a1 0 c1, .slice (some ⟨b2, o2, none⟩) 1 c2] w (SmPost p w) := by
  obtain ⟨i0, hi, hz0, hz1, hz2⟩ := info_parts infoI
  have hx : max (0 : Int) (1 : Int) = 1 := by decide
  have hq : (p : Int).tdiv 1000000000 = 0 := by rw [Int.tdiv_eq_ediv_of_nonneg (by omega)]; omega
  have hr : (p : Int).tmod 1000000000 = p := by rw [Int.tmod_eq_emod_of_nonneg (by omega)]; omega
  have HP9 := Lib.hid hp9
  have HP0 := Lib.hid h0
  have hpi : (p : Int) < 1000000000 := by omega
  clear hp9 h0
  go_enter Tryz.func31, Tryz.ntmps31
  go_wp2_with fail
  go_loopw [5, 6, 7] (fun v c i wr => c = .int .i64 0 ∧ ((i = .int .i64 0 ∧ v = .slice none 0 0 ∧ Hid (wr = w)) ∨ (i = .int .i64 1 ∧ ∃ g cap, v = .slice (some ⟨g, 0, none⟩) 1 cap ∧ 1 ≤ cap ∧ cap ≤ 9223372036854775807 ∧ Hid (g < wr.heap.size ∧ wr.cell? ⟨g, 0, none⟩ = some (.int .i64 p) ∧ Below w.heap.size w wr)))) (fun _ _ i _ => 1 - (intOf i).toNat)
  case atStart => exact ⟨rfl, .inl ⟨rfl, rfl, rfl⟩⟩
  case round =>
    obtain ⟨rfl, ⟨rfl, rfl, hw⟩ | ⟨rfl, g, cap, rfl, hc1, hc9, hS⟩⟩ := hrel
    · obtain rfl := hw.out
      go_wp2_with (at_builtin; refine wpList_append_own _ rfl _ _ 43 rfl wr.heap.size 3 i0 (.int .i64 0) 1 8 Tryz.underlying43 hi hz0 hz1 hz2 rfl (by decide) _ _ _ rfl (World.ownsRow_nil _ _ _ _) ⟨wr.heap.size, 0, none⟩ 1 1 [.int .i64 p] rfl rfl ?c1 ?c2 ?c3 ?c4 ?c5 ?_)
      case c2 => first | (intro u hu; simp at hu; subst hu; rfl) | rfl | trivial
      case c3 => first | (unfold maxLen; omega) | decide
      intro v' w1 hown' hgrow _
      obtain ⟨g, cap, rfl, hgB, hgs, hcell, hc1, hc9⟩ := own_open2 hown' (by omega)
      have hS : Hid (g < w1.heap.size ∧ w1.cell? ⟨g, 0, none⟩ = some (.int .i64 p) ∧ Below wr.heap.size wr w1) := by
        refine ⟨hgs, hcell 0 _ rfl, ?_⟩
        exact ((Below.refl _ _).alloc (Nat.le_refl _) (.cells #[.int .i64 p] 3)).grown hgrow (by simp) (fun b hb => by simp [Value.ownBlock] at hb)
      clear hown' hgrow hcell hgB hgs
      go_wp2
      go_roundw
      case rel => exact ⟨rfl, .inr ⟨rfl, _, _, rfl, hc1, hc9, hS⟩⟩
      case measure => simp [intOf]
    · go_wp2_with fail
      refine (rtrim_c g 0 cap p wr hc1 hc9 HP9.out hS.out.1 hS.out.2.1).mono ?_
      rintro e w2 ⟨a, k, c, rfl, l, b⟩
      have L := Lib.hid l
      have B := Lib.hid (hS.out.2.2.trans (b.mono hS.out.2.2.size))
      clear l b
      go_wp2
      go_ret
      exact ⟨a, k, c, rfl, L.out, B.out⟩
theorem rplus_c (a1 a2 : Option Addr) (c1 c2 k1 k2 n1 n2 : Nat) (w : World) (h1 : Sm w a1 k1 n1) (h2 : Sm w a2 k2 n2) (hp : n1 + n2 < 1000000000) :
    Calls Tryz.prog 31 #[.slice a1 k1 c1, .slice a2 k2 c2] w (SmPost (n1 + n2) w) := by
  rcases h1 with ⟨rfl, rfl⟩ | ⟨rfl, p1, m1, b1, o1, rfl, l1, g1⟩
  · rw [Nat.zero_add] at hp ⊢
    rcases h2 with ⟨rfl, rfl⟩ | ⟨rfl, p2, m2, b2, o2, rfl, l2, g2⟩
    · exact rplus_nil _ _ _ _ _
    · exact rplus_right _ _ _ _ _ _ _ p2 hp g2
  · rcases h2 with ⟨rfl, rfl⟩ | ⟨rfl, p2, m2, b2, o2, rfl, l2, g2⟩
    · exact rplus_left _ _ _ _ _ _ _ p1 m1 g1
    · exact rplus_both _ _ _ _ _ _ _ _ _ _ rfl (by omega) hp g1 g2
end Go.Proofs.YtecbkfmdpgkdiaaGreatDoor
