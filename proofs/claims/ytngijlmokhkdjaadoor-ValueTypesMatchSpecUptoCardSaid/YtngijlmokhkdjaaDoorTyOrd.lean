/-
  How rows of cells and loops are ordered: by name, and then by the numbers of their rows, in package value and in the reference.
-/
import Derived.Test.YtngijlmokhkdjaaDoorTxtRefChk
import Derived.Test.YtngijlmokhkdjaaDoorOrdMath
import Derived.Test.YtngijlmokhkdjaaDoorTySpec
import Derived.Test.YtngijlmokhkdjaaDoorShelf
namespace Go.Proofs.YtngijlmokhkdjaaDoor
open Go.RowKit

theorem isNaN_c (a : Int) (w : World) : Calls Tryd.prog 91 #[.int .i64 a] w fun e w' => e = .returned (.bool false) ∧ w' = w := by
  go_enter Tryd.func91, Tryd.ntmps91
  go_wp2
  go_ret
  exact ⟨by simp, rfl⟩
theorem compare_c (a b : Int) (w : World) : Calls Tryd.prog 81 #[.int .i64 a, .int .i64 b] w fun e w' => e = .returned (.int .i64 (Ord.icmp a b)) ∧ w' = w := by
  by_cases h1 : a < b
  · have h : Hid (Ord.icmp a b = -1) := by unfold Hid Ord.icmp; rw [if_pos h1]
    go_enter Tryd.func81, Tryd.ntmps81
    go_wp2_with (go_at_call 91; refine (isNaN_c _ _).mono ?_; rintro e w' ⟨rfl, rfl⟩)
    go_ret
    exact ⟨by rw [h.out]; rfl, rfl⟩
  · by_cases h2 : b < a
    · have h : Hid (Ord.icmp a b = 1) := by unfold Hid Ord.icmp; rw [if_neg h1, if_pos h2]
      go_enter Tryd.func81, Tryd.ntmps81
      go_wp2_with (go_at_call 91; refine (isNaN_c _ _).mono ?_; rintro e w' ⟨rfl, rfl⟩)
      go_ret
      exact ⟨by rw [h.out]; rfl, rfl⟩
    · have h : Hid (Ord.icmp a b = 0) := by unfold Hid Ord.icmp; rw [if_neg h1, if_neg h2]
      go_enter Tryd.func81, Tryd.ntmps81
      go_wp2_with (go_at_call 91; refine (isNaN_c _ _).mono ?_; rintro e w' ⟨rfl, rfl⟩)
      go_ret
      exact ⟨by rw [h.out]; rfl, rfl⟩

theorem strings_c (a b : ByteArray) (w : World) :
    Calls Tryd.prog 59 #[.string a, .string b] w fun e w' => e = .returned (.int .i64 (Lib.compareBytes a.data.toList b.data.toList)) ∧ w' = w := Tryd.strings_Compare a b w
theorem slicesCompare_nil (a : Option Addr) (c : Nat) (v : Value) (l : List Int) (w : World) (h : IsL w v l) :
    Calls Tryd.prog 60 #[.slice a 0 c, v] w fun e w' => e = .returned (.int .i64 (Ord.lcmp Ord.icmp [] l)) ∧ w' = w := by
  rcases h with ⟨b, d, rfl, rfl⟩ | ⟨b, off, cap, rfl, h2, h3, h4, h5⟩
  · go_enter Tryd.func60, Tryd.ntmps60
    go_wp2
    go_loop [5, 6, 7, 8, 11] (fun _ _ _ _ i => i = .int .i64 0) (fun _ _ _ _ _ => 0)
    case atStart => rfl
    case round =>
      obtain rfl := hrel
      go_wp2
      go_ret
      exact ⟨rfl, rfl⟩
  · have e : Hid (Ord.lcmp Ord.icmp [] l = -1) := by
      cases l with
      | nil => simp at h2
      | cons x r => rfl
    clear h5
    go_enter Tryd.func60, Tryd.ntmps60
    go_wp2
    go_loop [5, 6, 7, 8, 11] (fun _ _ _ _ i => i = .int .i64 0) (fun _ _ _ _ _ => 0)
    case atStart => rfl
    case round =>
      obtain rfl := hrel
      have h0 : (0 : Int) < (l.length : Int) := by omega
      go_wp2
      go_ret
      exact ⟨by rw [e.out]; rfl, rfl⟩

set_option maxHeartbeats 2000000 in
theorem slicesCompare_c (v1 v2 : Value) (l1 l2 : List Int) (w : World) (h1 : IsL w v1 l1) (h2 : IsL w v2 l2) :
    Calls Tryd.prog 60 #[v1, v2] w fun e w' => e = .returned (.int .i64 (Ord.lcmp Ord.icmp l1 l2)) ∧ w' = w := by
  rcases h1 with ⟨a, c, rfl, rfl⟩ | ⟨b, off, cap, rfl, g2, g3, g4, g5⟩
  · exact slicesCompare_nil a c v2 l2 w h2
  · have G5 := Lib.hid g5; clear g5
    rcases h2 with ⟨a, c, rfl, rfl⟩ | ⟨b', off', cap', rfl, k2, k3, k4, k5⟩
    · have c0 : w.cell? ⟨b, off + 0, none⟩ = some (.int .i64 (l1.getD 0 0)) := G5.out 0 g2
      have c0' : w.cell? ⟨b, off, none⟩ = some (.int .i64 (l1.getD 0 0)) := by simpa using c0
      clear c0
      have e : Hid (Ord.lcmp Ord.icmp l1 [] = 1) := by
        cases l1 with
        | nil => simp at g2
        | cons x r => rfl
      have hp : (0 : Int) < (l1.length : Int) := by omega
      go_enter Tryd.func60, Tryd.ntmps60
      go_wp2
      go_loop [5, 6, 7, 8, 11] (fun _ _ _ _ i => i = .int .i64 0) (fun _ _ _ _ _ => 0)
      case atStart => rfl
      case round =>
        obtain rfl := hrel
        go_wp2
        go_ret
        exact ⟨by rw [e.out]; rfl, rfl⟩
    · have K5 := Lib.hid k5; clear k5
      go_enter Tryd.func60, Tryd.ntmps60
      go_wp2
      go_loop [5, 6, 7, 8, 11] (fun _ _ _ _ i => ∃ k : Nat, k ≤ l1.length ∧ k ≤ l2.length ∧ i = .int .i64 k ∧ Hid (Ord.lcmp Ord.icmp l1 l2 = Ord.lcmp Ord.icmp (l1.drop k) (l2.drop k))) (fun _ _ _ _ i => l1.length - (intOf i).toNat)
      case atStart => exact ⟨0, Nat.zero_le _, Nat.zero_le _, rfl, rfl⟩
      case round =>
        obtain ⟨k, hk1, hk2, rfl, hE⟩ := hrel
        by_cases hlt : k < l1.length
        · have c1 : w.cell? ⟨b, off + k, none⟩ = some (.int .i64 (l1.getD k 0)) := G5.out k hlt
          by_cases hlt2 : k < l2.length
          · have c2 : w.cell? ⟨b', off' + k, none⟩ = some (.int .i64 (l2.getD k 0)) := K5.out k hlt2
            have st := Lib.hid (Ord.lcmp_step l1 l2 k hlt hlt2)
            generalize l1.getD k 0 = x at c1 st
            generalize l2.getD k 0 = y at c2 st
            by_cases hz : Ord.icmp x y = 0
            · have hz' : (Ord.icmp x y != 0) = false := by simp [hz]
              have HZ := Lib.hid hz; clear hz
              go_wp2_with (go_at_call 81; refine (compare_c _ _ _).mono ?_; rintro e w' ⟨rfl, rfl⟩)
              go_round
              case rel => exact ⟨k + 1, by omega, by omega, by go_num, by unfold Hid; rw [hE.out, st.out, if_pos HZ.out]⟩
              case measure => simp [intOf]; omega
            · have hz' : (Ord.icmp x y != 0) = true := by simp [hz]
              have HZ := Lib.hid hz; clear hz
              go_wp2_with (go_at_call 81; refine (compare_c _ _ _).mono ?_; rintro e w' ⟨rfl, rfl⟩)
              go_ret
              exact ⟨ret_int (by rw [hE.out, st.out, if_neg HZ.out]), rfl⟩
          · have e : Hid (Ord.lcmp Ord.icmp l1 l2 = 1) := by unfold Hid; rw [hE.out]; exact Ord.lcmp_long _ _ _ hlt (by omega)
            go_wp2
            go_ret
            exact ⟨by rw [e.out]; rfl, rfl⟩
        · by_cases hlt2 : l1.length < l2.length
          · have e : Hid (Ord.lcmp Ord.icmp l1 l2 = -1) := by unfold Hid; rw [hE.out]; exact Ord.lcmp_short _ _ _ (by omega) (by omega)
            go_wp2
            go_ret
            exact ⟨by rw [e.out]; rfl, rfl⟩
          · have e : Hid (Ord.lcmp Ord.icmp l1 l2 = 0) := by unfold Hid; rw [hE.out]; exact Ord.lcmp_over _ _ _ (by omega) (by omega)
            go_wp2
            go_ret
            exact ⟨by rw [e.out]; rfl, rfl⟩

set_option maxHeartbeats 1000000 in
theorem or_c (b off cap : Nat) (l : List Int) (w : World) (h3 : l.length ≤ 9223372036854775807) (h : ∀ j, j < l.length → w.cell? ⟨b, off + j, none⟩ = some (.int .i64 (l.getD j 0))) :
    Calls Tryd.prog 58 #[.slice (some ⟨b, off, none⟩) l.length cap] w fun e w' => e = .returned (.int .i64 (Ord.orL l)) ∧ w' = w := by
  have H := Lib.hid h; clear h
  go_enter Tryd.func58, Tryd.ntmps58
  go_wp2
  go_loop [5, 8] (fun _ i => ∃ k : Nat, k ≤ l.length ∧ i = .int .i64 k ∧ Hid (Ord.orL l = Ord.orL (l.drop k))) (fun _ i => l.length - (intOf i).toNat)
  case atStart => exact ⟨0, Nat.zero_le _, rfl, rfl⟩
  case round =>
    obtain ⟨k, hk, rfl, hE⟩ := hrel
    by_cases hlt : k < l.length
    · have c1 : w.cell? ⟨b, off + k, none⟩ = some (.int .i64 (l.getD k 0)) := H.out k hlt
      have st := Lib.hid (Ord.orL_step l k hlt)
      generalize l.getD k 0 = x at c1 st
      by_cases hz : x = 0
      · have hz' : (x != 0) = false := by simp [hz]
        have HZ := Lib.hid hz; clear hz
        go_wp2
        go_round
        case rel => exact ⟨k + 1, by omega, by go_num, by unfold Hid; rw [hE.out, st.out, if_pos HZ.out]⟩
        case measure => simp [intOf]; omega
      · have hz' : (x != 0) = true := by simp [hz]
        have HZ := Lib.hid hz; clear hz
        go_wp2
        go_ret
        exact ⟨ret_int (by rw [hE.out, st.out, if_neg HZ.out]), rfl⟩
    · have e : Hid (Ord.orL l = 0) := by unfold Hid; rw [hE.out]; exact Ord.orL_end _ _ (by omega)
      go_wp2
      go_ret
      exact ⟨by rw [e.out]; rfl, rfl⟩

theorem IsL.drew {w : World} {v : Value} {l : List Int} (h : IsL w v l) : IsL w.drew v l := h.below (Below.refl _ _).drew

/-- A region whose first operations only read, and whose others follow one another; the world under one name. -/
theorem wp_tail {P : Program} {id : Nat} {Q : Exit → Act → World → Prop} {a : Act} {w : World} {l : List Oper} (n : Nat) (hm : P.follows .mixedOrders = true) (hB : Region.lexTailB .any l.toArray n = true)
    (h : ∀ W, W = w.drew → wpStill P l.toArray W (fun a' => wpList P l.toArray Q (l.drop n) a' W) (l.take n) a) : (Code.region id l.toArray true).wp P Q a w :=
  wp_region_still_tail n hm hB (h _ rfl)

theorem sign_c (a b : Int) (w : World) : Calls Tryd.prog 82 #[.int .i64 a, .int .i64 b] w fun e w' => e = .returned (.int .i64 (Ord.icmp a b)) ∧ w' = w := by
  by_cases h1 : a < b
  · have h : Hid (Ord.icmp a b = -1) := by unfold Hid Ord.icmp; rw [if_pos h1]
    go_enter Tryd.func82, Tryd.ntmps82
    go_wp2
    go_ret
    exact ⟨by rw [h.out]; rfl, rfl⟩
  · by_cases h2 : b < a
    · have h : Hid (Ord.icmp a b = 1) := by unfold Hid Ord.icmp; rw [if_neg h1, if_pos h2]
      go_enter Tryd.func82, Tryd.ntmps82
      go_wp2
      go_ret
      exact ⟨by rw [h.out]; rfl, rfl⟩
    · have h : Hid (Ord.icmp a b = 0) := by unfold Hid Ord.icmp; rw [if_neg h1, if_neg h2]
      go_enter Tryd.func82, Tryd.ntmps82
      go_wp2
      go_ret
      exact ⟨by rw [h.out]; rfl, rfl⟩
theorem lcmp_tail (a b : List Int) (k : Nat) (h1 : k ≤ a.length) (h2 : k ≤ b.length) (h : a.length ≤ k ∨ b.length ≤ k) :
    Ord.lcmp Ord.icmp (a.drop k) (b.drop k) = Ord.icmp a.length b.length := by
  by_cases ha : k < a.length
  · rw [Ord.lcmp_long a b k ha (by omega)]; unfold Ord.icmp; rw [if_neg (by omega), if_pos (by omega)]
  · by_cases hb : k < b.length
    · rw [Ord.lcmp_short a b k (by omega) hb]; unfold Ord.icmp; rw [if_pos (by omega)]
    · rw [Ord.lcmp_over a b k (by omega) (by omega)]; unfold Ord.icmp; rw [if_neg (by omega), if_neg (by omega)]

set_option maxHeartbeats 2000000 in
theorem lists_c (v1 v2 : Value) (l1 l2 : List Int) (w : World) (h1 : IsL w v1 l1) (h2 : IsL w v2 l2) :
    Calls Tryd.prog 62 #[v1, v2] w fun e w' => e = .returned (.int .i64 (Ord.lcmp Ord.icmp l1 l2)) ∧ Drawn w w' := by
  obtain ⟨a1, c1, rfl, m1⟩ := h1.len
  obtain ⟨a2, c2, rfl, m2⟩ := h2.len
  have H1 := Lib.hid h1; clear h1
  have H2 := Lib.hid h2; clear h2
  go_enter Tryd.func62, Tryd.ntmps62
  go_wp2
  go_loopw [5, 6] (fun i _ wr => ∃ k : Nat, k ≤ l1.length ∧ k ≤ l2.length ∧ i = .int .i64 k ∧ Hid (Ord.lcmp Ord.icmp l1 l2 = Ord.lcmp Ord.icmp (l1.drop k) (l2.drop k)) ∧ Hid (Drawn w wr)) (fun i _ _ => l1.length - (intOf i).toNat)
  case atStart => exact ⟨0, Nat.zero_le _, Nat.zero_le _, rfl, rfl, Drawn.refl _⟩
  case round =>
    obtain ⟨k, hk1, hk2, rfl, hE, hD⟩ := hrel
    by_cases hlt : k < l1.length
    · by_cases hlt2 : k < l2.length
      · obtain ⟨b, off, rfl, _, g5⟩ := H1.out.cells (by omega)
        obtain ⟨b', off', rfl, _, k5⟩ := H2.out.cells (by omega)
        have c1 : wr.cell? ⟨b, off + k, none⟩ = some (.int .i64 (l1.getD k 0)) := by rw [hD.out.cell]; exact g5 k hlt
        have c2 : wr.cell? ⟨b', off' + k, none⟩ = some (.int .i64 (l2.getD k 0)) := by rw [hD.out.cell]; exact k5 k hlt2
        clear g5 k5
        have st := Lib.hid (Ord.lcmp_step l1 l2 k hlt hlt2)
        generalize l1.getD k 0 = x at c1 st
        generalize l2.getD k 0 = y at c2 st
        have i1 : (k : Int) < (l1.length : Int) := by omega
        have i2 : (k : Int) < (l2.length : Int) := by omega
        by_cases hz : Ord.icmp x y = 0
        · have hz' : (Ord.icmp x y != 0) = false := by simp [hz]
          have HZ := Lib.hid hz; clear hz
          go_wp2_with fail
          go_quiet ((go_at_call 82; exact Calls.quiet_of_same (sign_c _ _ _)))
          go_wp2
          go_roundw
          case rel => exact ⟨k + 1, by omega, by omega, by go_num, by unfold Hid; rw [hE.out, st.out, if_pos HZ.out], hD.out.more _⟩
          case measure => simp [intOf]; omega
        · have hz' : (Ord.icmp x y != 0) = true := by simp [hz]
          have HZ := Lib.hid hz; clear hz
          go_wp2_with fail
          go_quiet ((go_at_call 82; exact Calls.quiet_of_same (sign_c _ _ _)))
          go_wp2
          go_ret
          exact ⟨ret_int (by rw [hE.out, st.out, if_neg HZ.out]), hD.out.more _⟩
      · have e : Hid (Ord.lcmp Ord.icmp l1 l2 = Ord.icmp l1.length l2.length) := by unfold Hid; rw [hE.out]; exact lcmp_tail _ _ _ hk1 hk2 (.inr (by omega))
        have i1 : decide ((k : Int) < (l2.length : Int)) = false := by simp; omega
        go_wp2_with (go_at_call 82; refine (sign_c _ _ _).mono ?_; rintro e w' ⟨rfl, rfl⟩)
        go_ret
        exact ⟨ret_int (by rw [e.out]), hD.out⟩
    · have e : Hid (Ord.lcmp Ord.icmp l1 l2 = Ord.icmp l1.length l2.length) := by unfold Hid; rw [hE.out]; exact lcmp_tail _ _ _ hk1 hk2 (.inl (by omega))
      have i1 : decide ((k : Int) < (l1.length : Int)) = false := by simp; omega
      go_wp2_with (go_at_call 82; refine (sign_c _ _ _).mono ?_; rintro e w' ⟨rfl, rfl⟩)
      go_ret
      exact ⟨ret_int (by rw [e.out]), hD.out⟩

set_option maxHeartbeats 4000000 in
/-- By name, and then by the numbers of the row. -/
def ordS (s : ByteArray) (l : List Int) (s' : ByteArray) (l' : List Int) : Int := if Lib.compareBytes s.data.toList s'.data.toList = 0 then Ord.lcmp Ord.icmp l l' else Lib.compareBytes s.data.toList s'.data.toList
theorem or2_c (b : Nat) (x y R : Int) (hR : R = if x = 0 then y else x) (w : World) (c0 : w.cell? ⟨b, 0, none⟩ = some (.int .i64 x)) (c1 : w.cell? ⟨b, 1, none⟩ = some (.int .i64 y)) :
    Calls Tryd.prog 58 #[.slice (some ⟨b, 0, none⟩) 2 2] w fun e w' => e = .returned (.int .i64 R) ∧ w' = w := by
  have e : Ord.orL [x, y] = if x = 0 then y else x := by
    simp only [Ord.orL]
    by_cases hx : x = 0
    · simp only [hx, if_true]
      by_cases hy : y = 0 <;> simp [hy]
    · simp [hx]
  rw [hR, ← e]
  refine or_c b 0 2 [x, y] w (by simp) (fun j hj => ?_)
  simp only [List.length_cons, List.length_nil] at hj
  have hj' : j = 0 ∨ j = 1 := by omega
  rcases hj' with rfl | rfl <;> simpa

set_option maxRecDepth 100000 in
set_option maxHeartbeats 4000000 in
theorem compareBounds_c (s s' : ByteArray) (v v' : Value) (l l' : List Int) (k n k' n' : Int) (t t' : ByteArray) (u u' : Value) (x x' : Bool) (w : World) (h : IsL w v l) (h' : IsL w v' l') :
    Calls Tryd.prog 37 #[.agg #[.string s, v, .int .i64 k, .int .i64 n, .string t, u, .bool x], .agg #[.string s', v', .int .i64 k', .int .i64 n', .string t', u', .bool x']] w fun e w' => e = .returned (.int .i64 (ordS s l s' l')) ∧ Below w.heap.size w w' := by
  have HI := Lib.hid h; clear h
  have HI' := Lib.hid h'; clear h'
  go_enter Tryd.func37, Tryd.ntmps37
  go_wp2
  refine wp_tail 10 (by kernel_rfl) (by kernel_rfl) ?_
  intro W hW
  have a0 : W.cell? ⟨w.heap.size, 0, none⟩ = some (.string s) := by rw [hW]; simp [go_sem]
  have a1 : W.cell? ⟨w.heap.size, 1, none⟩ = some v := by rw [hW]; simp [go_sem]
  have b0 : W.cell? ⟨w.heap.size + 1, 0, none⟩ = some (.string s') := by rw [hW]; simp [go_sem]
  have b1 : W.cell? ⟨w.heap.size + 1, 1, none⟩ = some v' := by rw [hW]; simp [go_sem]
  have HW := Lib.hid (show IsL W v l by rw [hW]; exact ((HI.out.alloc _).alloc _).drew)
  have HW' := Lib.hid (show IsL W v' l' by rw [hW]; exact ((HI'.out.alloc _).alloc _).drew)
  have HB := Lib.hid (show Below w.heap.size w W by rw [hW]; exact (((Below.refl _ _).alloc (Nat.le_refl _) _).alloc (by simp) _).drew)
  clear hW
  simp only [List.take_succ_cons, List.take_zero, List.drop_succ_cons, List.drop_zero]
  repeat still_step
  still_call (strings_c _ _ _)
  repeat still_step
  still_call (slicesCompare_c _ _ _ _ _ HW.out HW'.out)
  refine wpStill_nil ?_
  clear a0 a1 b0 b1
  go_wp2_with fail
  refine (or2_c _ (Lib.compareBytes s.data.toList s'.data.toList) (Ord.lcmp Ord.icmp l l') (ordS s l s' l') rfl _ ?c0 ?c1).mono ?_
  case c0 => simp [go_sem]
  case c1 => simp [go_sem]
  rintro e w' ⟨rfl, rfl⟩
  go_wp2
  go_ret
  exact ⟨rfl, HB.out.alloc HB.out.size _⟩

set_option maxRecDepth 100000 in
set_option maxHeartbeats 4000000 in
theorem compareRows_c (s s' : ByteArray) (v v' : Value) (l l' : List Int) (u u' : Value) (w : World) (h : IsL w v l) (h' : IsL w v' l') :
    Calls Tryd.prog 39 #[.agg #[.string s, v, u], .agg #[.string s', v', u']] w fun e w' => e = .returned (.int .i64 (ordS s l s' l')) ∧ Below w.heap.size w w' := by
  have HI := Lib.hid h; clear h
  have HI' := Lib.hid h'; clear h'
  go_enter Tryd.func39, Tryd.ntmps39
  go_wp2
  refine wp_tail 10 (by kernel_rfl) (by kernel_rfl) ?_
  intro W hW
  have a0 : W.cell? ⟨w.heap.size, 0, none⟩ = some (.string s) := by rw [hW]; simp [go_sem]
  have a1 : W.cell? ⟨w.heap.size, 1, none⟩ = some v := by rw [hW]; simp [go_sem]
  have b0 : W.cell? ⟨w.heap.size + 1, 0, none⟩ = some (.string s') := by rw [hW]; simp [go_sem]
  have b1 : W.cell? ⟨w.heap.size + 1, 1, none⟩ = some v' := by rw [hW]; simp [go_sem]
  have HW := Lib.hid (show IsL W v l by rw [hW]; exact ((HI.out.alloc _).alloc _).drew)
  have HW' := Lib.hid (show IsL W v' l' by rw [hW]; exact ((HI'.out.alloc _).alloc _).drew)
  have HB := Lib.hid (show Below w.heap.size w W by rw [hW]; exact (((Below.refl _ _).alloc (Nat.le_refl _) _).alloc (by simp) _).drew)
  clear hW
  simp only [List.take_succ_cons, List.take_zero, List.drop_succ_cons, List.drop_zero]
  repeat still_step
  still_call (strings_c _ _ _)
  repeat still_step
  still_call (slicesCompare_c _ _ _ _ _ HW.out HW'.out)
  refine wpStill_nil ?_
  clear a0 a1 b0 b1
  go_wp2_with fail
  refine (or2_c _ (Lib.compareBytes s.data.toList s'.data.toList) (Ord.lcmp Ord.icmp l l') (ordS s l s' l') rfl _ ?c0 ?c1).mono ?_
  case c0 => simp [go_sem]
  case c1 => simp [go_sem]
  rintro e w' ⟨rfl, rfl⟩
  go_wp2
  go_ret
  exact ⟨rfl, HB.out.alloc HB.out.size _⟩

/-- What an order between neighbours says. -/
def nextS (o : Int) : Int := if 0 < o then 7 else if o = 0 then 6 else 0
theorem checkOrder_c (o : Int) (w : World) : Calls Tryd.prog 36 #[.int .i64 o] w fun e w' => e = .returned (.int .i64 (nextS o)) ∧ w' = w := by
  by_cases h1 : 0 < o
  · have e : Hid (nextS o = 7) := by unfold Hid nextS; rw [if_pos h1]
    go_enter Tryd.func36, Tryd.ntmps36
    go_wp2
    go_ret
    exact ⟨by rw [e.out]; rfl, rfl⟩
  · by_cases h2 : o = 0
    · subst h2
      go_enter Tryd.func36, Tryd.ntmps36
      go_wp2
      go_ret
      exact ⟨rfl, rfl⟩
    · have e : Hid (nextS o = 0) := by unfold Hid nextS; rw [if_neg h1, if_neg h2]
      have n1 : decide (0 < o) = false := by simpa using h1
      have n2 : (o == 0) = false := by simpa using h2
      clear h1 h2
      go_enter Tryd.func36, Tryd.ntmps36
      go_wp2
      go_ret
      exact ⟨by rw [e.out]; rfl, rfl⟩
theorem behind_c (s s' : ByteArray) (v v' : Value) (l l' : List Int) (w : World) (h : IsL w v l) (h' : IsL w v' l') :
    Calls Tryd.prog 42 #[.string s, v, .string s', v'] w fun e w' => e = .returned (.int .i64 (nextS (ordS s' l' s l))) ∧ Below w.heap.size w w' := by
  obtain ⟨c, hc⟩ : ∃ c, c = Lib.compareBytes s'.data.toList s.data.toList := ⟨_, rfl⟩
  have HC := Lib.hid (fun w => by have := strings_c s' s w; rw [← hc] at this; exact this)
  have e0 : Hid (ordS s' l' s l = if c = 0 then Ord.lcmp Ord.icmp l' l else c) := by unfold Hid ordS; rw [hc]
  have HL := Lib.hid (lists_c v' v l' l w h' h)
  obtain ⟨a, q, rfl, _⟩ := h.len
  obtain ⟨a', q', rfl, _⟩ := h'.len
  clear h h' hc
  generalize Ord.lcmp Ord.icmp l' l = d at HL e0
  generalize ordS s' l' s l = R at e0 ⊢
  by_cases hc0 : c = 0
  · subst hc0
    have e1 : Hid (R = d) := e0.out.trans (if_pos rfl)
    clear e0
    by_cases h1 : 0 < d
    · have e : Hid (nextS R = 7) := by unfold Hid nextS; rw [e1.out, if_pos h1]
      clear e1
      go_enter Tryd.func42, Tryd.ntmps42
      go_wp2_with fail
      refine (HC.out _).mono ?_
      rintro e w1 ⟨rfl, rfl⟩
      go_wp2_with fail
      refine HL.out.mono ?_
      rintro e w1 ⟨rfl, hB⟩
      have HB := Lib.hid hB; clear hB
      go_wp2
      go_ret
      exact ⟨by rw [e.out]; rfl, HB.out.below (Below.refl _ _)⟩
    · by_cases h2 : d = 0
      · have e : Hid (nextS R = 6) := by unfold Hid nextS; rw [e1.out, if_neg h1, if_pos h2]
        have n1 : decide (0 < d) = false := by simpa using h1
        have n2 : (d == 0) = true := by simpa using h2
        clear e1 h1 h2
        go_enter Tryd.func42, Tryd.ntmps42
        go_wp2_with fail
        refine (HC.out _).mono ?_
        rintro e w1 ⟨rfl, rfl⟩
        go_wp2_with fail
        refine HL.out.mono ?_
        rintro e w1 ⟨rfl, hB⟩
        have HB := Lib.hid hB; clear hB
        go_wp2
        go_ret
        exact ⟨by rw [e.out]; rfl, HB.out.below (Below.refl _ _)⟩
      · have e : Hid (nextS R = 0) := by unfold Hid nextS; rw [e1.out, if_neg h1, if_neg h2]
        have n1 : decide (0 < d) = false := by simpa using h1
        have n2 : (d == 0) = false := by simpa using h2
        clear e1 h1 h2
        go_enter Tryd.func42, Tryd.ntmps42
        go_wp2_with fail
        refine (HC.out _).mono ?_
        rintro e w1 ⟨rfl, rfl⟩
        go_wp2_with fail
        refine HL.out.mono ?_
        rintro e w1 ⟨rfl, hB⟩
        have HB := Lib.hid hB; clear hB
        go_wp2
        go_ret
        exact ⟨by rw [e.out]; rfl, HB.out.below (Below.refl _ _)⟩
  · have e1 : Hid (R = c) := e0.out.trans (if_neg hc0)
    have q1 : (c == 0) = false := by simpa using hc0
    clear e0 hc0
    by_cases h1 : 0 < c
    · have e : Hid (nextS R = 7) := by unfold Hid nextS; rw [e1.out, if_pos h1]
      clear e1
      go_enter Tryd.func42, Tryd.ntmps42
      go_wp2_with fail
      refine (HC.out _).mono ?_
      rintro e w1 ⟨rfl, rfl⟩
      go_wp2
      go_ret
      exact ⟨by rw [e.out]; rfl, Below.refl _ _⟩
    · have e : Hid (nextS R = 0) := by
        unfold Hid nextS; rw [e1.out, if_neg h1, if_neg (by simpa using q1)]
      have n1 : decide (0 < c) = false := by simpa using h1
      clear e1 h1
      go_enter Tryd.func42, Tryd.ntmps42
      go_wp2_with fail
      refine (HC.out _).mono ?_
      rintro e w1 ⟨rfl, rfl⟩
      go_wp2
      go_ret
      exact ⟨by rw [e.out]; rfl, Below.refl _ _⟩
end Go.Proofs.YtngijlmokhkdjaaDoor
