/-
  How values are compared: the contracts of cmp.Compare, strings.Compare, slices.Compare, slices.Equal, cmp.Or and value.Compare.
-/
import Derived.Test.YtleiapoaoiapbaaRows
import Derived.Test.YtleiapoaoiapbaaOrdMath
import Derived.WalkKit
import Derived.WalkSpells
import Derived.Deep.QuietTactic
import Derived.BigQuiet
import Derived.StillTailTactics
import Derived.Lib.Hide
import Derived.Lib.Bytealg
import Derived.Lib.Walk
namespace Go.Proofs.Ytleiapoaoiapbaa
open Go.RowKit

theorem ret_int {k : IntKind} {a b : Int} (h : a = b) : Ending.returned (.int k a) = .returned (.int k b) := by rw [h]
theorem bcell {W w1 : World} (hb : Below W.heap.size W w1) : (∀ b o, b < W.heap.size → w1.cell? ⟨b, o, none⟩ = W.cell? ⟨b, o, none⟩) ∧ (∀ b o, b < W.heap.size → w1.frozen? ⟨b, o, none⟩ = W.frozen? ⟨b, o, none⟩) :=
  ⟨fun b o h => hb.cell (p := ⟨b, o, none⟩) h, fun b o h => hb.frozen (p := ⟨b, o, none⟩) h⟩

/-- A slice of ints that reads as a list. -/
def IsL (w : World) (v : Value) (l : List Int) : Prop :=
  (∃ a c, v = .slice a 0 c ∧ l = []) ∨ ∃ b off cap, v = .slice (some ⟨b, off, none⟩) l.length cap ∧ 0 < l.length ∧ l.length ≤ 9223372036854775807 ∧ b < w.heap.size ∧ ∀ j, j < l.length → w.cell? ⟨b, off + j, none⟩ = some (.int .i64 (l.getD j 0))
theorem IsL.below {w w' : World} {v : Value} {l : List Int} (h : IsL w v l) (hb : Below w.heap.size w w') : IsL w' v l := by
  rcases h with h | ⟨b, off, cap, h1, h2, h3, h4, h5⟩
  · exact .inl h
  · exact .inr ⟨b, off, cap, h1, h2, h3, Nat.lt_of_lt_of_le h4 hb.size, fun j hj => by rw [hb.cell (p := ⟨b, off + j, none⟩) h4]; exact h5 j hj⟩
theorem IsL.alloc {w : World} {v : Value} {l : List Int} (h : IsL w v l) (o : Obj) : IsL (w.alloc o) v l := h.below ((Below.refl _ _).alloc (Nat.le_refl _) o)

theorem isNaN_c (a : Int) (w : World) : Calls Try.prog 23 #[.int .i64 a] w fun e w' => e = .returned (.bool false) ∧ w' = w := by
  go_enter Try.func23, Try.ntmps23
  go_wp2
  go_ret
  exact ⟨by simp, rfl⟩
theorem compare_c (a b : Int) (w : World) : Calls Try.prog 16 #[.int .i64 a, .int .i64 b] w fun e w' => e = .returned (.int .i64 (Ord.icmp a b)) ∧ w' = w := by
  by_cases h1 : a < b
  · have h : Hid (Ord.icmp a b = -1) := by unfold Hid Ord.icmp; rw [if_pos h1]
    go_enter Try.func16, Try.ntmps16
    go_wp2_with (go_at_call 23; refine (isNaN_c _ _).mono ?_; rintro e w' ⟨rfl, rfl⟩)
    go_ret
    exact ⟨by rw [h.out]; rfl, rfl⟩
  · by_cases h2 : b < a
    · have h : Hid (Ord.icmp a b = 1) := by unfold Hid Ord.icmp; rw [if_neg h1, if_pos h2]
      go_enter Try.func16, Try.ntmps16
      go_wp2_with (go_at_call 23; refine (isNaN_c _ _).mono ?_; rintro e w' ⟨rfl, rfl⟩)
      go_ret
      exact ⟨by rw [h.out]; rfl, rfl⟩
    · have h : Hid (Ord.icmp a b = 0) := by unfold Hid Ord.icmp; rw [if_neg h1, if_neg h2]
      go_enter Try.func16, Try.ntmps16
      go_wp2_with (go_at_call 23; refine (isNaN_c _ _).mono ?_; rintro e w' ⟨rfl, rfl⟩)
      go_ret
      exact ⟨by rw [h.out]; rfl, rfl⟩

theorem compareString_c (a b : ByteArray) (w : World) :
    Calls Try.prog 24 #[.string a, .string b] w fun e w' => e = .returned (.int .i64 (Lib.compareBytes a.data.toList b.data.toList)) ∧ w' = w := by
  go_enter Try.func24, Try.ntmps24
  go_wp2
  rw [run_callFunc_extern Try.func25 (by kernel_rfl) (by kernel_rfl) (by kernel_rfl) (e := Extern.BytealgCompare.compare) (by kernel_rfl), Lib.run_compareString]
  simp only [Result.andThen]
  rw [Oper.upon_value]
  go_wp2
  go_ret
  exact ⟨rfl, rfl⟩
theorem strings_c (a b : ByteArray) (w : World) :
    Calls Try.prog 17 #[.string a, .string b] w fun e w' => e = .returned (.int .i64 (Lib.compareBytes a.data.toList b.data.toList)) ∧ w' = w := by
  go_enter Try.func17, Try.ntmps17
  go_wp2_with (go_at_call 24; refine (compareString_c _ _ _).mono ?_; rintro e w' ⟨rfl, rfl⟩)
  go_ret
  exact ⟨rfl, rfl⟩

set_option maxHeartbeats 1000000 in
/-- A loop over no element. -/
theorem slicesCompare_nil (a : Option Addr) (c : Nat) (v : Value) (l : List Int) (w : World) (h : IsL w v l) :
    Calls Try.prog 18 #[.slice a 0 c, v] w fun e w' => e = .returned (.int .i64 (Ord.lcmp Ord.icmp [] l)) ∧ w' = w := by
  rcases h with ⟨b, d, rfl, rfl⟩ | ⟨b, off, cap, rfl, h2, h3, h4, h5⟩
  · go_enter Try.func18, Try.ntmps18
    go_wp2
    go_loop [5, 6, 7, 8, 11] (fun _ _ _ _ i => i = .int .i64 0) (fun _ _ _ _ _ => 0)
    case atStart => rfl
    case round =>
      obtain rfl := hrel
      go_wp2
      go_ret
      exact ⟨rfl, rfl⟩
  · have e : Hid (Ord.lcmp Ord.icmp [] l = -1) := by
      cases l with
      | nil => simp at h2
      | cons x r => rfl
    clear h5
    go_enter Try.func18, Try.ntmps18
    go_wp2
    go_loop [5, 6, 7, 8, 11] (fun _ _ _ _ i => i = .int .i64 0) (fun _ _ _ _ _ => 0)
    case atStart => rfl
    case round =>
      obtain rfl := hrel
      have h0 : (0 : Int) < (l.length : Int) := by omega
      go_wp2
      go_ret
      exact ⟨by rw [e.out]; rfl, rfl⟩

set_option maxHeartbeats 2000000 in
theorem slicesCompare_c (v1 v2 : Value) (l1 l2 : List Int) (w : World) (h1 : IsL w v1 l1) (h2 : IsL w v2 l2) :
    Calls Try.prog 18 #[v1, v2] w fun e w' => e = .returned (.int .i64 (Ord.lcmp Ord.icmp l1 l2)) ∧ w' = w := by
  rcases h1 with ⟨a, c, rfl, rfl⟩ | ⟨b, off, cap, rfl, g2, g3, g4, g5⟩
  · exact slicesCompare_nil a c v2 l2 w h2
  · have G5 := Lib.hid g5; clear g5
    rcases h2 with ⟨a, c, rfl, rfl⟩ | ⟨b', off', cap', rfl, k2, k3, k4, k5⟩
    · have c0 : w.cell? ⟨b, off + 0, none⟩ = some (.int .i64 (l1.getD 0 0)) := G5.out 0 g2
      have c0' : w.cell? ⟨b, off, none⟩ = some (.int .i64 (l1.getD 0 0)) := by simpa using c0
      clear c0
      have e : Hid (Ord.lcmp Ord.icmp l1 [] = 1) := by
        cases l1 with
        | nil => simp at g2
        | cons x r => rfl
      have hp : (0 : Int) < (l1.length : Int) := by omega
      go_enter Try.func18, Try.ntmps18
      go_wp2
      go_loop [5, 6, 7, 8, 11] (fun _ _ _ _ i => i = .int .i64 0) (fun _ _ _ _ _ => 0)
      case atStart => rfl
      case round =>
        obtain rfl := hrel
        go_wp2
        go_ret
        exact ⟨by rw [e.out]; rfl, rfl⟩
    · have K5 := Lib.hid k5; clear k5
      go_enter Try.func18, Try.ntmps18
      go_wp2
      go_loop [5, 6, 7, 8, 11] (fun _ _ _ _ i => ∃ k : Nat, k ≤ l1.length ∧ k ≤ l2.length ∧ i = .int .i64 k ∧ Hid (Ord.lcmp Ord.icmp l1 l2 = Ord.lcmp Ord.icmp (l1.drop k) (l2.drop k))) (fun _ _ _ _ i => l1.length - (intOf i).toNat)
      case atStart => exact ⟨0, Nat.zero_le _, Nat.zero_le _, rfl, rfl⟩
      case round =>
        obtain ⟨k, hk1, hk2, rfl, hE⟩ := hrel
        by_cases hlt : k < l1.length
        · have c1 : w.cell? ⟨b, off + k, none⟩ = some (.int .i64 (l1.getD k 0)) := G5.out k hlt
          by_cases hlt2 : k < l2.length
          · have c2 : w.cell? ⟨b', off' + k, none⟩ = some (.int .i64 (l2.getD k 0)) := K5.out k hlt2
            have st := Lib.hid (Ord.lcmp_step l1 l2 k hlt hlt2)
            generalize l1.getD k 0 = x at c1 st
            generalize l2.getD k 0 = y at c2 st
            by_cases hz : Ord.icmp x y = 0
            · have hz' : (Ord.icmp x y != 0) = false := by simp [hz]
              have HZ := Lib.hid hz; clear hz
              go_wp2_with (go_at_call 16; refine (compare_c _ _ _).mono ?_; rintro e w' ⟨rfl, rfl⟩)
              go_round
              case rel => exact ⟨k + 1, by omega, by omega, by go_num, by unfold Hid; rw [hE.out, st.out, if_pos HZ.out]⟩
              case measure => simp [intOf]; omega
            · have hz' : (Ord.icmp x y != 0) = true := by simp [hz]
              have HZ := Lib.hid hz; clear hz
              go_wp2_with (go_at_call 16; refine (compare_c _ _ _).mono ?_; rintro e w' ⟨rfl, rfl⟩)
              go_ret
              exact ⟨ret_int (by rw [hE.out, st.out, if_neg HZ.out]), rfl⟩
          · have e : Hid (Ord.lcmp Ord.icmp l1 l2 = 1) := by unfold Hid; rw [hE.out]; exact Ord.lcmp_long _ _ _ hlt (by omega)
            go_wp2
            go_ret
            exact ⟨by rw [e.out]; rfl, rfl⟩
        · by_cases hlt2 : l1.length < l2.length
          · have e : Hid (Ord.lcmp Ord.icmp l1 l2 = -1) := by unfold Hid; rw [hE.out]; exact Ord.lcmp_short _ _ _ (by omega) (by omega)
            go_wp2
            go_ret
            exact ⟨by rw [e.out]; rfl, rfl⟩
          · have e : Hid (Ord.lcmp Ord.icmp l1 l2 = 0) := by unfold Hid; rw [hE.out]; exact Ord.lcmp_over _ _ _ (by omega) (by omega)
            go_wp2
            go_ret
            exact ⟨by rw [e.out]; rfl, rfl⟩

set_option maxHeartbeats 1000000 in
theorem or_c (b off cap : Nat) (l : List Int) (w : World) (h3 : l.length ≤ 9223372036854775807) (h : ∀ j, j < l.length → w.cell? ⟨b, off + j, none⟩ = some (.int .i64 (l.getD j 0))) :
    Calls Try.prog 15 #[.slice (some ⟨b, off, none⟩) l.length cap] w fun e w' => e = .returned (.int .i64 (Ord.orL l)) ∧ w' = w := by
  have H := Lib.hid h; clear h
  go_enter Try.func15, Try.ntmps15
  go_wp2
  go_loop [5, 8] (fun _ i => ∃ k : Nat, k ≤ l.length ∧ i = .int .i64 k ∧ Hid (Ord.orL l = Ord.orL (l.drop k))) (fun _ i => l.length - (intOf i).toNat)
  case atStart => exact ⟨0, Nat.zero_le _, rfl, rfl⟩
  case round =>
    obtain ⟨k, hk, rfl, hE⟩ := hrel
    by_cases hlt : k < l.length
    · have c1 : w.cell? ⟨b, off + k, none⟩ = some (.int .i64 (l.getD k 0)) := H.out k hlt
      have st := Lib.hid (Ord.orL_step l k hlt)
      generalize l.getD k 0 = x at c1 st
      by_cases hz : x = 0
      · have hz' : (x != 0) = false := by simp [hz]
        have HZ := Lib.hid hz; clear hz
        go_wp2
        go_round
        case rel => exact ⟨k + 1, by omega, by go_num, by unfold Hid; rw [hE.out, st.out, if_pos HZ.out]⟩
        case measure => simp [intOf]; omega
      · have hz' : (x != 0) = true := by simp [hz]
        have HZ := Lib.hid hz; clear hz
        go_wp2
        go_ret
        exact ⟨ret_int (by rw [hE.out, st.out, if_neg HZ.out]), rfl⟩
    · have e : Hid (Ord.orL l = 0) := by unfold Hid; rw [hE.out]; exact Ord.orL_end _ _ (by omega)
      go_wp2
      go_ret
      exact ⟨by rw [e.out]; rfl, rfl⟩

theorem or4_c (b : Nat) (x y z u : Int) (w : World) (c0 : w.cell? ⟨b, 0, none⟩ = some (.int .i64 x)) (c1 : w.cell? ⟨b, 1, none⟩ = some (.int .i64 y)) (c2 : w.cell? ⟨b, 2, none⟩ = some (.int .i64 z)) (c3 : w.cell? ⟨b, 3, none⟩ = some (.int .i64 u)) :
    Calls Try.prog 15 #[.slice (some ⟨b, 0, none⟩) 4 4] w fun e w' => e = .returned (.int .i64 (Ord.or4 x y z u)) ∧ w' = w := by
  rw [← Ord.orL_four]
  refine or_c b 0 4 [x, y, z, u] w (by simp) (fun j hj => ?_)
  simp only [List.length_cons, List.length_nil] at hj
  have hj' : j = 0 ∨ j = 1 ∨ j = 2 ∨ j = 3 := by omega
  rcases hj' with rfl | rfl | rfl | rfl <;> simpa
theorem IsL.drew {w : World} {v : Value} {l : List Int} (h : IsL w v l) : IsL w.drew v l := h.below (Below.refl _ _).drew

/-- A region whose first operations only read, and whose others follow one another; the world under one name. -/
theorem wp_tail {P : Program} {id : Nat} {Q : Exit → Act → World → Prop} {a : Act} {w : World} {l : List Oper} (n : Nat) (hm : P.follows .mixedOrders = true) (hB : Region.lexTailB .any l.toArray n = true)
    (h : ∀ W, W = w.drew → wpStill P l.toArray W (fun a' => wpList P l.toArray Q (l.drop n) a' W) (l.take n) a) : (Code.region id l.toArray true).wp P Q a w :=
  wp_region_still_tail n hm hB (h _ rfl)

/-- A value by its parts, as it is passed. -/
abbrev valV (k n : Int) (s : ByteArray) (v : Value) : Value := .agg #[.int .i64 k, .int .i64 n, .string s, v]
set_option maxHeartbeats 4000000 in
theorem compareV_c (k n k' n' : Int) (s s' : ByteArray) (v v' : Value) (l l' : List Int) (w : World) (h : IsL w v l) (h' : IsL w v' l') :
    Calls Try.prog 7 #[valV k n s v, valV k' n' s' v'] w fun e w' => e = .returned (.int .i64 (Ord.vcmp (k, n, s.data.toList, l) (k', n', s'.data.toList, l'))) ∧ Below w.heap.size w w' := by
  have HI := Lib.hid h; clear h
  have HI' := Lib.hid h'; clear h'
  go_enter Try.func7, Try.ntmps7
  go_wp2
  refine wp_tail 20 (by kernel_rfl) (by kernel_rfl) ?_
  intro W hW
  have a0 : W.cell? ⟨w.heap.size, 0, none⟩ = some (.int .i64 k) := by rw [hW]; simp [go_sem]
  have a1 : W.cell? ⟨w.heap.size, 1, none⟩ = some (.int .i64 n) := by rw [hW]; simp [go_sem]
  have a2 : W.cell? ⟨w.heap.size, 2, none⟩ = some (.string s) := by rw [hW]; simp [go_sem]
  have a3 : W.cell? ⟨w.heap.size, 3, none⟩ = some v := by rw [hW]; simp [go_sem]
  have b0 : W.cell? ⟨w.heap.size + 1, 0, none⟩ = some (.int .i64 k') := by rw [hW]; simp [go_sem]
  have b1 : W.cell? ⟨w.heap.size + 1, 1, none⟩ = some (.int .i64 n') := by rw [hW]; simp [go_sem]
  have b2 : W.cell? ⟨w.heap.size + 1, 2, none⟩ = some (.string s') := by rw [hW]; simp [go_sem]
  have b3 : W.cell? ⟨w.heap.size + 1, 3, none⟩ = some v' := by rw [hW]; simp [go_sem]
  have HW := Lib.hid (show IsL W v l by rw [hW]; exact ((HI.out.alloc _).alloc _).drew)
  have HW' := Lib.hid (show IsL W v' l' by rw [hW]; exact ((HI'.out.alloc _).alloc _).drew)
  have HB := Lib.hid (show Below w.heap.size w W by rw [hW]; exact (((Below.refl _ _).alloc (Nat.le_refl _) _).alloc (by simp) _).drew)
  clear hW
  simp only [List.take_succ_cons, List.take_zero, List.drop_succ_cons, List.drop_zero]
  repeat still_step
  still_call (compare_c _ _ _)
  repeat still_step
  still_call (compare_c _ _ _)
  repeat still_step
  still_call (strings_c _ _ _)
  repeat still_step
  still_call (slicesCompare_c _ _ _ _ _ HW.out HW'.out)
  refine wpStill_nil ?_
  clear a0 a1 a2 a3 b0 b1 b2 b3
  go_wp2_with fail
  refine (or4_c _ (Ord.icmp k k') (Ord.icmp n n') (Lib.compareBytes s.data.toList s'.data.toList) (Ord.lcmp Ord.icmp l l') _ ?c0 ?c1 ?c2 ?c3).mono ?_
  case c0 => simp [go_sem]
  case c1 => simp [go_sem]
  case c2 => simp [go_sem]
  case c3 => simp [go_sem]
  rintro e w' ⟨rfl, rfl⟩
  go_wp2
  go_ret
  rw [Ord.vcmp_or]
  exact ⟨rfl, HB.out.alloc HB.out.size _⟩

/-! ### Equal lists. -/
theorem drewN_drewN (w : World) (a b : Nat) : (w.drewN a).drewN b = w.drewN (a + b) := by simp [World.drewN, Nat.add_assoc]
set_option maxHeartbeats 1000000 in
/-- A list is equal to itself; the order in which the two elements are read is drawn. -/
theorem equal_self (v : Value) (v' : Value) (l : List Int) (w : World) (h : IsL w v l) (h' : IsL w v' l) :
    Calls Try.prog 21 #[v, v'] w fun e w' => e = .returned (.bool true) ∧ ∃ n, w' = w.drewN n := by
  rcases h with ⟨a, c, rfl, rfl⟩ | ⟨b, off, cap, rfl, g2, g3, g4, g5⟩
  · rcases h' with ⟨a', c', rfl, _⟩ | ⟨b', off', cap', rfl, k2, _⟩
    · go_enter Try.func21, Try.ntmps21
      go_wp2
      go_loop [5, 13] (fun _ i => i = .int .i64 0) (fun _ _ => 0)
      case atStart => rfl
      case round =>
        obtain rfl := hrel
        go_wp2
        go_ret
        exact ⟨rfl, 0, rfl⟩
    · simp at k2
  · rcases h' with ⟨a', c', rfl, e⟩ | ⟨b', off', cap', rfl, k2, k3, k4, k5⟩
    · subst e; simp at g2
    · have G5 := Lib.hid g5; clear g5
      have K5 := Lib.hid k5; clear k5
      go_enter Try.func21, Try.ntmps21
      go_wp2
      go_loopw [5, 13] (fun _ i wr => ∃ k : Nat, k ≤ l.length ∧ i = .int .i64 k ∧ Hid (∃ n, wr = w.drewN n)) (fun _ i _ => l.length - (intOf i).toNat)
      case atStart => exact ⟨0, Nat.zero_le _, rfl, 0, rfl⟩
      case round =>
        obtain ⟨k, hk, rfl, hE⟩ := hrel
        by_cases hlt : k < l.length
        · have c1 : wr.cell? ⟨b, off + k, none⟩ = some (.int .i64 (l.getD k 0)) := by obtain ⟨n, e⟩ := hE.out; rw [e]; exact G5.out k hlt
          have c2 : wr.cell? ⟨b', off' + k, none⟩ = some (.int .i64 (l.getD k 0)) := by obtain ⟨n, e⟩ := hE.out; rw [e]; exact K5.out k hlt
          generalize l.getD k 0 = x at c1 c2
          have hlt' : (k : Int) < (l.length : Int) := by omega
          go_wp2
          go_quiet (fail)
          go_wp2
          go_roundw
          case rel => exact ⟨k + 1, by omega, by go_num, by obtain ⟨n, e⟩ := hE.out; exact ⟨_, by rw [e, drewN_drewN]⟩⟩
          case measure => simp [intOf]; omega
        · go_wp2
          go_ret
          exact ⟨rfl, hE.out⟩
end Go.Proofs.Ytleiapoaoiapbaa
