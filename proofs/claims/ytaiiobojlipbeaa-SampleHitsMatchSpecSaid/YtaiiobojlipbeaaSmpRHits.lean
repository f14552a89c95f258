/-
  Hits of the reference.
-/
import Derived.Test.YtaiiobojlipbeaaSmpHits
namespace Go.Proofs.Ytaiiobojlipbeaa
open Go.RowKit

/-- What the reference's list is behind k elements. -/
structure InG (w : World) (f : Nat → Int) (k : Nat) (v : Value) (wr : World) : Prop where
  row : wr.ownsRow w.heap.size 3 1 v k ((tab f k).map (Value.int .i64))
  bel : Below w.heap.size w wr
theorem InG.more {w wr w1 : World} {f : Nat → Int} {k : Nat} {v v' : Value} {o : Obj} (h : InG w f k v wr)
    (hown : w1.ownsRow w.heap.size 3 1 v' (k + 1) ((tab f k).map (Value.int .i64) ++ [.int .i64 (f k)])) (hg : (wr.alloc o).grownBy w1 v.ownBlock) : InG w f (k + 1) v' w1 where
  row := by rw [tab_succ, List.map_append]; exact hown
  bel := (h.bel.alloc h.bel.size o).grown hg (Nat.le_trans h.bel.size (by simp)) (fun b hb => (h.row.lt b hb).1)
theorem InG.made {w wr : World} {f : Nat → Int} {n : Nat} {v : Value} (h : InG w f n v wr) (hn : n ≤ 5000) : ∃ a c, v = .slice a (tab f n).length c ∧ Rd wr a (tab f n) ∧ ∀ ad, a = some ad → 0 < (tab f n).length → w.heap.size ≤ ad.block := by
  by_cases h0 : n = 0
  · subst h0
    obtain ⟨_, ⟨rfl, _⟩ | ⟨g, cap, cur, rfl, _⟩⟩ := h.row
    · exact ⟨none, 0, rfl, rd_zero _ _ _, fun ad e => by cases e⟩
    · exact ⟨_, cap, rfl, rd_zero _ _ _, fun ad e h => by simp [tab] at h⟩
  · obtain ⟨g, cap, rfl, hbase, hlt, hl, hr⟩ := owned_cells h.row (by omega)
    exact ⟨_, cap, by rw [tab_len], (hr.congr fun j hj => tab_at _ _ _ hj).rd (by omega) hlt, fun ad e _ => by injection e with e; subst e; exact hbase⟩

set_option maxHeartbeats 4000000 in
theorem hits_c (a : Option Addr) (c : Nat) (l : List Int) (t : Nat) (s : Int) (w : World) (h : Rd w a l) (hn : l.length ≤ 5000) (hl : szs l) (ht : t ≤ 5000) (hs : 0 ≤ s) (hsm : s < Sm.pre (fn l) l.length) :
    Calls Try.prog 25 #[.slice a l.length c, .int .i64 t, .int .i64 s] w (MadePost (tab (Sm.hit (fn l) l.length t s) l.length) w) := by
  obtain ⟨i0, hi, hz0, hz1, hz2⟩ := info_parts infoI
  have H := Lib.hid h
  have HL := Lib.hid hl
  have HS := Lib.hid (szs_sums hl hn)
  clear h hl
  go_enter Try.func25, Try.ntmps25
  go_wp2_with fail
  refine (total_c a c l _ H.out HS.out).mono ?_
  rintro e w' ⟨rfl, rfl⟩
  go_wp2_with fail
  obtain ⟨m1, _, m3⟩ := szs_pre HL.out hn l.length (Nat.le_refl _)
  obtain ⟨M, hM⟩ : ∃ M, M = Sm.pre (fn l) l.length := ⟨_, rfl⟩
  rw [← hM] at m1 m3 hsm
  rw [← hM]
  have HM := Lib.hid hM
  clear hM
  go_loopw [8, 9, 11, 12, 13, 14, 15, 20] (fun v fr _ _ _ _ _ i wr => ∃ k : Nat, k ≤ l.length ∧ i = .int .i64 k ∧ fr = .int .i64 (t * Sm.pre (fn l) k) ∧ Hid (InG w (Sm.hit (fn l) l.length t s) k v wr)) (fun _ _ _ _ _ _ _ i _ => l.length - (intOf i).toNat)
  case atStart => exact ⟨0, Nat.zero_le _, rfl, by simp [Sm.pre], World.ownsRow_nil _ _ _ _, Below.refl _ _⟩
  case round =>
    obtain ⟨k, hk, rfl, rfl, hI⟩ := hrel
    by_cases hlt : k < l.length
    · obtain ⟨b, off, rfl, hc⟩ := (H.out.below hI.out.bel).at_ hlt
      have p1 := szs_pre HL.out hn k hk
      have p2 := szs_pre HL.out hn (k + 1) hlt
      have x1 := HL.out k hlt
      have mb := mul_bd' (show (0 : Int) ≤ (t : Int) by omega) (show (t : Int) ≤ 5000 by omega) p2.1 p2.2.2
      have mm := mul_bd' (show (0 : Int) ≤ (t : Int) by omega) (show (t : Int) ≤ 5000 by omega) p1.1 p1.2.2
      have mx := mul_bd' (show (0 : Int) ≤ (t : Int) by omega) (show (t : Int) ≤ 5000 by omega) (show 0 ≤ fn l k by omega) x1.2
      have tm1 : (t : Int) * Sm.pre (fn l) k ≤ (t : Int) * Sm.pre (fn l) (k + 1) := Int.mul_le_mul_of_nonneg_left (by rw [Sm.pre_succ]; omega) (by omega)
      have tm2 : (t : Int) * Sm.pre (fn l) (k + 1) ≤ (t : Int) * M := Int.mul_le_mul_of_nonneg_left (by rw [HM.out]; exact p2.2.1) (by omega)
      have hE : Hid (Sm.cnt s M ((t : Int) * Sm.pre (fn l) k) ((t : Int) * Sm.pre (fn l) (k + 1)) t = Sm.hit (fn l) l.length t s k) := by
        show _ = _
        rw [Sm.cnt_all t (by omega) hs tm1 tm2, HM.out]; rfl
      have hP : Hid ((t : Int) * Sm.pre (fn l) (k + 1) = (t : Int) * Sm.pre (fn l) k + (t : Int) * fn l k) := by
        show _ = _
        rw [Sm.pre_succ, Int.mul_add]
      have hO := Lib.hid hI.out.row
      have hB := Lib.hid hI.out.bel
      have hlt' : (k : Int) < (l.length : Int) := by omega
      rw [hP.out] at hE mb tm1 tm2
      clear H HS p1 p2
      generalize hA : (t : Int) * Sm.pre (fn l) k = A at *
      have wm := wrap_in' ((t : Int) * fn l k) (by omega) (by omega)
      have wa := wrap_in' (A + (t : Int) * fn l k) (by omega) (by omega)
      generalize hX : fn l k = x at *
      have HA := Lib.hid hA
      have HX := Lib.hid hX
      clear hA hX
      go_wp2_with fail
      generalize hB' : A + (t : Int) * x = Bb at *
      have HBB := Lib.hid hB'
      clear hB' wm wa mx
      go_loop [13, 14, 15] (fun n j _ => ∃ q : Nat, q ≤ t ∧ j = .int .i64 q ∧ n = .int .i64 (Sm.cnt s M A Bb q)) (fun _ j _ => t - (intOf j).toNat)
      case atStart => exact ⟨0, Nat.zero_le _, rfl, rfl⟩
      case round =>
        obtain ⟨q, hq, rfl, rfl⟩ := hrel
        by_cases hqt : q < t
        · have cb := Sm.cnt_bd s M A Bb q
          have mq := mul_bd' (show (0 : Int) ≤ (q : Int) by omega) (show (q : Int) ≤ 5000 by omega) m1 m3
          have wq := wrap_in' ((q : Int) * M) (by omega) (by omega)
          have wq2 := wrap_in' (s + (q : Int) * M) (by omega) (by omega)
          have hqt' : (q : Int) < (t : Int) := by omega
          have hC : Hid (Sm.cnt s M A Bb (q + 1) = Sm.cnt s M A Bb q + if A ≤ s + (q : Int) * M ∧ s + (q : Int) * M < Bb then 1 else 0) := rfl
          generalize Sm.cnt s M A Bb q = n at *
          generalize hz : s + (q : Int) * M = z at *
          have HZ := Lib.hid hz
          clear hE hO hI
          by_cases c1 : A ≤ z
          · by_cases c2 : z < Bb
            · have d1 : decide (A ≤ z) = true := by simp; omega
              have d2 : decide (z < Bb) = true := by simp; omega
              have hC' : Hid (Sm.cnt s M A Bb (q + 1) = n + 1) := by show _ = _; rw [hC.out, if_pos ⟨c1, c2⟩]
              clear hC mq
              go_wp2
              go_round
              case rel => exact ⟨q + 1, by omega, by go_num, by rw [hC'.out]⟩
              case measure => simp [intOf]; omega
            · have d1 : decide (A ≤ z) = true := by simp; omega
              have d2 : decide (z < Bb) = false := by simp; omega
              have hC' : Hid (Sm.cnt s M A Bb (q + 1) = n) := by show _ = _; rw [hC.out, if_neg (fun h => c2 h.2)]; omega
              clear hC mq
              go_wp2
              go_round
              case rel => exact ⟨q + 1, by omega, by go_num, by rw [hC'.out]⟩
              case measure => simp [intOf]; omega
          · have d1 : decide (A ≤ z) = false := by simp; omega
            have hC' : Hid (Sm.cnt s M A Bb (q + 1) = n) := by show _ = _; rw [hC.out, if_neg (fun h => c1 h.1)]; omega
            clear hC mq
            go_wp2
            go_round
            case rel => exact ⟨q + 1, by omega, by go_num, by rw [hC'.out]⟩
            case measure => simp [intOf]; omega
        · obtain rfl : q = t := by omega
          have hG := Lib.hid hI.out
          rw [hE.out]
          clear hE hI
          generalize hy : Sm.hit (fn l) l.length q s k = y at *
          have HY := Lib.hid hy
          clear hy
          go_wp2_with (at_builtin; refine wpList_append_own _ rfl _ _ 22 rfl w.heap.size 3 i0 (.int .i64 0) 1 8 Try.underlying22 hi hz0 hz1 hz2 rfl (by decide) _ _ _ rfl (hO.out.alloc _) ⟨wr.heap.size, 0, none⟩ 1 1 [.int .i64 y] rfl rfl ?e1 ?e2 ?e3 ?e4 ?e5 ?_)
          case e2 => rfl
          case e3 => unfold maxLen; omega
          case e4 => omega
          case e5 => have := hB.out.size; simp; omega
          intro v' w1 hown' hgrow _
          have hG' := Lib.hid (hG.out.more (by rw [HY.out]; exact hown') hgrow)
          clear hown' hgrow hG hO
          go_wp2
          go_roundw
          case rel => exact ⟨k + 1, by omega, by go_num, by rw [hP.out], hG'.out⟩
          case measure => simp [intOf]; omega
    · obtain rfl : k = l.length := by omega
      obtain ⟨a1, c1, rfl, h1, f1⟩ := hI.out.made hn
      have F1 := Lib.hid f1
      have H1 := Lib.hid h1
      clear f1 h1
      go_wp2
      go_ret
      exact ⟨a1, c1, rfl, H1.out, hI.out.bel, F1.out⟩

set_option maxHeartbeats 1000000 in
theorem RHits_long (a : Option Addr) (c n : Nat) (t s : Int) (w : World) (hn : 5000 < n) (hm : n ≤ 9223372036854775807) :
    Calls Try.prog 12 #[.slice a n c, .int .i64 t, .int .i64 s] w (QFault 2 w) := by
  go_enter Try.func12, Try.ntmps12
  go_wp2
  go_ret2
  exact ⟨rfl, rfl⟩
set_option maxHeartbeats 1000000 in
theorem RHits_bad (a : Option Addr) (c : Nat) (l : List Int) (t s : Int) (w : World) (h : Rd w a l) (hn : l.length ≤ 5000) (hb : ¬ szs l) :
    Calls Try.prog 12 #[.slice a l.length c, .int .i64 t, .int .i64 s] w (QFault 1 w) := by
  have H := Lib.hid h
  have HB := Lib.hid hb
  clear h hb
  go_enter Try.func12, Try.ntmps12
  go_wp2
  go_loop [9, 15] (fun _ i => ∃ k : Nat, k ≤ l.length ∧ i = .int .i64 k ∧ Hid (∀ j, j < k → 1 ≤ fn l j ∧ fn l j ≤ 5000000000)) (fun _ i => l.length - (intOf i).toNat)
  case atStart => exact ⟨0, Nat.zero_le _, rfl, fun j hj => absurd hj (Nat.not_lt_zero _)⟩
  case round =>
    obtain ⟨k, hk, rfl, hG⟩ := hrel
    by_cases hlt : k < l.length
    · obtain ⟨b, off, rfl, hc⟩ := H.out.at_ hlt
      have hlt' : (k : Int) < (l.length : Int) := by omega
      have hN : Hid ((1 ≤ fn l k ∧ fn l k ≤ 5000000000) → ∀ j, j < k + 1 → 1 ≤ fn l j ∧ fn l j ≤ 5000000000) := fun g j hj => by
        by_cases e : j = k
        · subst e; exact g
        · exact hG.out j (by omega)
      clear hG
      generalize fn l k = x at hc hN
      by_cases g1 : x < 1
      · have d1 : decide (x < 1) = true := by simp; omega
        go_wp2
        go_ret2
        exact ⟨rfl, rfl⟩
      · have d1 : decide (x < 1) = false := by simp; omega
        by_cases g2 : 5000000000 < x
        · have d2 : decide (5000000000 < x) = true := by simp; omega
          go_wp2
          go_ret2
          exact ⟨rfl, rfl⟩
        · have d2 : decide (5000000000 < x) = false := by simp; omega
          have hN' := Lib.hid (hN.out (by omega))
          clear hN
          go_wp2
          go_round
          case rel => exact ⟨k + 1, by omega, by go_num, hN'.out⟩
          case measure => simp [intOf]; omega
    · obtain rfl : k = l.length := by omega
      exact absurd hG.out HB.out
set_option maxHeartbeats 1000000 in
theorem RHits_out (a : Option Addr) (c : Nat) (l : List Int) (t s : Int) (w : World) (h : Rd w a l) (hn : l.length ≤ 5000) (hl : szs l) (hb : t < 0 ∨ (0 ≤ t ∧ 5000 < t) ∨ (0 ≤ t ∧ t ≤ 5000 ∧ s < 0) ∨ (0 ≤ t ∧ t ≤ 5000 ∧ 0 ≤ s ∧ Sm.pre (fn l) l.length ≤ s)) :
    Calls Try.prog 12 #[.slice a l.length c, .int .i64 t, .int .i64 s] w (QFault 1 w) := by
  have H := Lib.hid h
  have HL := Lib.hid hl
  have HB := Lib.hid hb
  have HS := Lib.hid (szs_sums hl hn)
  clear h hb hl
  go_enter Try.func12, Try.ntmps12
  go_wp2
  go_loop [9, 15] (fun _ i => ∃ k : Nat, k ≤ l.length ∧ i = .int .i64 k) (fun _ i => l.length - (intOf i).toNat)
  case atStart => exact ⟨0, Nat.zero_le _, rfl⟩
  case round =>
    obtain ⟨k, hk, rfl⟩ := hrel
    by_cases hlt : k < l.length
    · obtain ⟨b, off, rfl, hc⟩ := H.out.at_ hlt
      have hlt' : (k : Int) < (l.length : Int) := by omega
      have g := HL.out k hlt
      generalize fn l k = x at hc g
      have d1 : decide (x < 1) = false := by simp; omega
      have d2 : decide (5000000000 < x) = false := by simp; omega
      go_wp2
      go_round
      case rel => exact ⟨k + 1, by omega, by go_num⟩
      case measure => simp [intOf]; omega
    · obtain rfl : k = l.length := by omega
      have hsum := Lib.hid (total_c a c l w H.out HS.out)
      have sb := HS.out l.length (Nat.le_refl _)
      have hb := HB.out
      clear HB HL HS H
      generalize Sm.pre (fn l) l.length = M at *
      rcases hb with g1 | ⟨g1, g2⟩ | ⟨g1, g2, g3⟩ | ⟨g1, g2, g3, g4⟩
      · have d1 : decide (t < 0) = true := by simp; omega
        go_wp2
        go_ret2
        exact ⟨rfl, rfl⟩
      · have d1 : decide (t < 0) = false := by simp; omega
        have d2 : decide (5000 < t) = true := by simp; omega
        go_wp2
        go_ret2
        exact ⟨rfl, rfl⟩
      · have d1 : decide (t < 0) = false := by simp; omega
        have d2 : decide (5000 < t) = false := by simp; omega
        have d3 : decide (s < 0) = true := by simp; omega
        go_wp2
        go_ret2
        exact ⟨rfl, rfl⟩
      · have d1 : decide (t < 0) = false := by simp; omega
        have d2 : decide (5000 < t) = false := by simp; omega
        have d3 : decide (s < 0) = false := by simp; omega
        have d4 : decide (M ≤ s) = true := by simp; omega
        go_wp2_with fail
        refine hsum.out.mono ?_
        rintro e w' ⟨rfl, rfl⟩
        go_wp2
        go_ret2
        exact ⟨rfl, rfl⟩
set_option maxHeartbeats 1000000 in
theorem RHits_yes (a : Option Addr) (c : Nat) (l : List Int) (t : Nat) (s : Int) (w : World) (h : Rd w a l) (hn : l.length ≤ 5000) (hl : szs l) (ht : t ≤ 5000) (hs : 0 ≤ s) (hsm : s < Sm.pre (fn l) l.length) :
    Calls Try.prog 12 #[.slice a l.length c, .int .i64 t, .int .i64 s] w (ListPost5 (tab (Sm.hit (fn l) l.length t s) l.length) w) := by
  have hcall := Lib.hid (hits_c a c l t s w h hn hl ht hs hsm)
  have H := Lib.hid h
  have HL := Lib.hid hl
  have HS := Lib.hid (szs_sums hl hn)
  clear h hl
  go_enter Try.func12, Try.ntmps12
  go_wp2
  go_loop [9, 15] (fun _ i => ∃ k : Nat, k ≤ l.length ∧ i = .int .i64 k) (fun _ i => l.length - (intOf i).toNat)
  case atStart => exact ⟨0, Nat.zero_le _, rfl⟩
  case round =>
    obtain ⟨k, hk, rfl⟩ := hrel
    by_cases hlt : k < l.length
    · obtain ⟨b, off, rfl, hc⟩ := H.out.at_ hlt
      have hlt' : (k : Int) < (l.length : Int) := by omega
      have g := HL.out k hlt
      generalize fn l k = x at hc g
      have d1 : decide (x < 1) = false := by simp; omega
      have d2 : decide (5000000000 < x) = false := by simp; omega
      clear hcall
      go_wp2
      go_round
      case rel => exact ⟨k + 1, by omega, by go_num⟩
      case measure => simp [intOf]; omega
    · obtain rfl : k = l.length := by omega
      have hsum := Lib.hid (total_c a c l w H.out HS.out)
      have sb := HS.out l.length (Nat.le_refl _)
      have d1 : decide ((t : Int) < 0) = false := by simp
      have d2 : decide (5000 < (t : Int)) = false := by simp; omega
      have d3 : decide (s < 0) = false := by simp; omega
      have d4 : decide (Sm.pre (fn l) l.length ≤ s) = false := by simp; omega
      clear HL HS H
      go_wp2_with fail
      refine hsum.out.mono ?_
      rintro e w' ⟨rfl, rfl⟩
      clear hsum
      go_wp2_with fail
      refine hcall.out.mono ?_
      rintro e w1 ⟨a1, c1, rfl, h1, b1, f1⟩
      have H1 := Lib.hid h1
      have B1 := Lib.hid b1
      have F1 := Lib.hid f1
      clear h1 b1 f1 hcall
      go_wp2
      go_ret2
      exact ⟨a1, c1, rfl, H1.out, B1.out, F1.out⟩
end Go.Proofs.Ytaiiobojlipbeaa
