/-
  Equal rows; and the law that Stream and Shuffle are as specified.
-/
import Derived.Test.YtleiapoaoiapbabChRShuf
namespace Go.Proofs.Ytleiapoaoiapbab
open Go.RowKit

theorem drewN_drewN (w : World) (a b : Nat) : (w.drewN a).drewN b = w.drewN (a + b) := by simp [World.drewN, Nat.add_assoc]
theorem IsK.alloc {k : IntKind} {w : World} {v : Value} {l : List Int} (h : IsK k w v l) (o : Obj) : IsK k (w.alloc o) v l := h.below ((Below.refl _ _).alloc (Nat.le_refl _) o)

set_option maxHeartbeats 1000000 in
/-- A list is equal to itself; the order in which the two elements are read is drawn. -/
theorem equalU (v : Value) (v' : Value) (l : List Int) (w : World) (h : IsK .u64 w v l) (h' : IsK .u64 w v' l) :
    Calls Try.prog 9 #[v, v'] w fun e w' => e = .returned (.bool true) ∧ ∃ n, w' = w.drewN n := by
  rcases h with ⟨a, c, rfl, rfl⟩ | ⟨b, off, cap, rfl, g2, g3, g4, g5⟩
  · rcases h' with ⟨a', c', rfl, _⟩ | ⟨b', off', cap', rfl, k2, _⟩
    · go_enter Try.func9, Try.ntmps9
      go_wp2
      go_loop [5, 13] (fun _ i => i = .int .i64 0) (fun _ _ => 0)
      case atStart => rfl
      case round =>
        obtain rfl := hrel
        go_wp2
        go_ret
        exact ⟨rfl, 0, rfl⟩
    · simp at k2
  · rcases h' with ⟨a', c', rfl, e⟩ | ⟨b', off', cap', rfl, k2, k3, k4, k5⟩
    · subst e; simp at g2
    · have G5 := Lib.hid g5; clear g5
      have K5 := Lib.hid k5; clear k5
      go_enter Try.func9, Try.ntmps9
      go_wp2
      go_loopw [5, 13] (fun _ i wr => ∃ k : Nat, k ≤ l.length ∧ i = .int .i64 k ∧ Hid (∃ n, wr = w.drewN n)) (fun _ i _ => l.length - (intOf i).toNat)
      case atStart => exact ⟨0, Nat.zero_le _, rfl, 0, rfl⟩
      case round =>
        obtain ⟨k, hk, rfl, hE⟩ := hrel
        by_cases hlt : k < l.length
        · have c1 : wr.cell? ⟨b, off + k, none⟩ = some (.int .u64 (l.getD k 0)) := by obtain ⟨n, e⟩ := hE.out; rw [e]; exact G5.out k hlt
          have c2 : wr.cell? ⟨b', off' + k, none⟩ = some (.int .u64 (l.getD k 0)) := by obtain ⟨n, e⟩ := hE.out; rw [e]; exact K5.out k hlt
          generalize l.getD k 0 = x at c1 c2
          have hlt' : (k : Int) < (l.length : Int) := by omega
          go_wp2
          go_quiet (fail)
          go_wp2
          go_roundw
          case rel => exact ⟨k + 1, by omega, by go_num, by obtain ⟨n, e⟩ := hE.out; exact ⟨_, by rw [e, drewN_drewN]⟩⟩
          case measure => simp [intOf]; omega
        · go_wp2
          go_ret
          exact ⟨rfl, hE.out⟩

set_option maxHeartbeats 1000000 in
/-- A list is equal to itself; the order in which the two elements are read is drawn. -/
theorem equalI (v : Value) (v' : Value) (l : List Int) (w : World) (h : IsK .i64 w v l) (h' : IsK .i64 w v' l) :
    Calls Try.prog 10 #[v, v'] w fun e w' => e = .returned (.bool true) ∧ ∃ n, w' = w.drewN n := by
  rcases h with ⟨a, c, rfl, rfl⟩ | ⟨b, off, cap, rfl, g2, g3, g4, g5⟩
  · rcases h' with ⟨a', c', rfl, _⟩ | ⟨b', off', cap', rfl, k2, _⟩
    · go_enter Try.func10, Try.ntmps10
      go_wp2
      go_loop [5, 13] (fun _ i => i = .int .i64 0) (fun _ _ => 0)
      case atStart => rfl
      case round =>
        obtain rfl := hrel
        go_wp2
        go_ret
        exact ⟨rfl, 0, rfl⟩
    · simp at k2
  · rcases h' with ⟨a', c', rfl, e⟩ | ⟨b', off', cap', rfl, k2, k3, k4, k5⟩
    · subst e; simp at g2
    · have G5 := Lib.hid g5; clear g5
      have K5 := Lib.hid k5; clear k5
      go_enter Try.func10, Try.ntmps10
      go_wp2
      go_loopw [5, 13] (fun _ i wr => ∃ k : Nat, k ≤ l.length ∧ i = .int .i64 k ∧ Hid (∃ n, wr = w.drewN n)) (fun _ i _ => l.length - (intOf i).toNat)
      case atStart => exact ⟨0, Nat.zero_le _, rfl, 0, rfl⟩
      case round =>
        obtain ⟨k, hk, rfl, hE⟩ := hrel
        by_cases hlt : k < l.length
        · have c1 : wr.cell? ⟨b, off + k, none⟩ = some (.int .i64 (l.getD k 0)) := by obtain ⟨n, e⟩ := hE.out; rw [e]; exact G5.out k hlt
          have c2 : wr.cell? ⟨b', off' + k, none⟩ = some (.int .i64 (l.getD k 0)) := by obtain ⟨n, e⟩ := hE.out; rw [e]; exact K5.out k hlt
          generalize l.getD k 0 = x at c1 c2
          have hlt' : (k : Int) < (l.length : Int) := by omega
          go_wp2
          go_quiet (fail)
          go_wp2
          go_roundw
          case rel => exact ⟨k + 1, by omega, by go_num, by obtain ⟨n, e⟩ := hE.out; exact ⟨_, by rw [e, drewN_drewN]⟩⟩
          case measure => simp [intOf]; omega
        · go_wp2
          go_ret
          exact ⟨rfl, hE.out⟩

/-- The order that Shuffle returns. -/
def order (s0 : Int) (n : Nat) : List Int := (List.range n).map (Ch.pm s0 n (n - 1))
theorem order_len (s0 : Int) (n : Nat) : (order s0 n).length = n := by simp [order]
theorem order_at (s0 : Int) (n j : Nat) (h : j < n) : (order s0 n).getD j 0 = Ch.pm s0 n (n - 1) j := by simp [order, h]
theorem RowF.isK {w : World} {b n c : Nat} {k : IntKind} {l : List Int} (h : RowF w b n k (fun j => l.getD j 0)) (hl : l.length = n) (hn : n ≤ 10000) (hb : b < w.heap.size) : IsK k w (.slice (some ⟨b, 0, none⟩) n c) l := by
  by_cases h0 : n = 0
  · subst h0
    exact .inl ⟨_, c, rfl, List.eq_nil_of_length_eq_zero hl⟩
  · refine .inr ⟨b, 0, c, by rw [hl], by omega, by omega, hb, fun j hj => ?_⟩
    rw [Nat.zero_add]
    exact (h j (by omega)).1

def ListPost (k : IntKind) (l : List Int) (w : World) (e : Ending) (w' : World) : Prop := ∃ v, e = .returned (.tuple #[v, .int .i64 0]) ∧ IsK k w' v l ∧ Below w.heap.size w w'
theorem Stream_l (s : ByteArray) (n : Nat) (w : World) (hs : s.size ≤ 9223372036854775807) (hn : n ≤ 10000) :
    Calls Try.prog 5 #[.string s, .int .i64 n] w (ListPost .u64 (Ch.outs (Ch.seed s) n) w) := by
  refine (Stream_yes s n w hs hn).mono ?_
  rintro e w' ⟨rfl, h⟩
  refine ⟨_, rfl, RowF.isK (h.row.congr fun j hj => ?_) (Ch.outs_len _ _) hn (by rw [h.size]; omega), h.bel⟩
  rw [if_pos hj, Ch.outs_at _ _ _ hj]
theorem RStream_l (s : ByteArray) (n : Nat) (w : World) (hs : s.size ≤ 9223372036854775807) (hn : n ≤ 10000) :
    Calls Try.prog 6 #[.string s, .int .i64 n] w (ListPost .u64 (Ch.outs (Ch.seed s) n) w) := by
  refine (RStream_yes s n w hs hn).mono ?_
  rintro e w' ⟨v, rfl, h⟩
  exact ⟨v, rfl, h.isK hn, h.bel⟩

set_option maxHeartbeats 1000000 in
theorem Shuffle_zero (s : ByteArray) (w : World) (hs : s.size ≤ 9223372036854775807) :
    Calls Try.prog 7 #[.string s, .int .i64 0] w (ListPost .i64 [] w) := by
  have hmk := run_make_row' (P := Try.prog) 26 3 (.int .i64 0) 8 Try.underlying26 infoI rfl .i64 .i64 0 (by omega) (by omega)
  have hmk' : ∀ w : World, (Instr.makeSlice 26 (.int .i64 0) (.int .i64 0)).run Try.prog w = .ok (.slice (some ⟨w.heap.size, 0, none⟩) 0 0) (w.alloc (.cells (madeCells #[.int .i64 0] 0) 3)) := fun w => by simpa using hmk w
  clear hmk
  go_enter Try.func7, Try.ntmps7
  go_wp2_with fail
  have hS := Lib.hid (Laying.start w 0)
  generalize w.alloc (.cells (madeCells #[.int .i64 0] 0) 3) = w2 at hS
  clear hmk'
  go_loop [7, 21] (fun _ i => i = .int .i64 0) (fun _ _ => 0)
  case atStart => rfl
  case round =>
    obtain rfl := hrel
    go_wp2_with fail
    refine (stream_c _ _ hs).mono ?_
    rintro e w3 ⟨rfl, hO⟩
    have HO := Lib.hid hO; clear hO
    go_wp2_with fail
    go_loop [9, 10] (fun i _ => i = .int .i64 (-1)) (fun _ _ => 0)
    case atStart => rfl
    case round =>
      obtain rfl := hrel
      go_wp2
      go_ret2
      exact ⟨_, rfl, .inl ⟨_, 0, rfl, rfl⟩, hS.out.bel.trans (HO.out.2.1.mono (by rw [hS.out.size]; omega))⟩
set_option maxHeartbeats 1000000 in
theorem RShuffle_zero (s : ByteArray) (w : World) (hs : s.size ≤ 9223372036854775807) :
    Calls Try.prog 8 #[.string s, .int .i64 0] w (ListPost .i64 [] w) := by
  go_enter Try.func8, Try.ntmps8
  go_wp2_with fail
  refine (RStream_yes s 0 _ hs (by omega)).mono ?_
  rintro e w1 ⟨l, rfl, hG⟩
  have hB := Lib.hid hG.bel
  clear hG
  go_wp2_with fail
  go_loop [8, 9, 22] (fun v _ i => v = .slice none 0 0 ∧ i = .int .i64 0) (fun _ _ _ => 0)
  case atStart => exact ⟨rfl, rfl⟩
  case round =>
    obtain ⟨rfl, rfl⟩ := hrel
    go_wp2_with fail
    go_loop [10, 11] (fun i _ => i = .int .i64 (-1)) (fun _ _ => 0)
    case atStart => rfl
    case round =>
      obtain rfl := hrel
      go_wp2
      go_ret2
      exact ⟨_, rfl, .inl ⟨_, 0, rfl, rfl⟩, hB.out⟩
theorem Shuffle_l (s : ByteArray) (n : Nat) (w : World) (hs : s.size ≤ 9223372036854775807) (hn : n ≤ 10000) :
    Calls Try.prog 7 #[.string s, .int .i64 n] w (ListPost .i64 (order (Ch.seed s) n) w) := by
  by_cases h0 : n = 0
  · subst h0; exact Shuffle_zero s w hs
  · refine (Shuffle_yes s n w hs hn (by omega)).mono ?_
    rintro e w' ⟨rfl, h⟩
    exact ⟨_, rfl, RowF.isK (h.row.congr fun j hj => (order_at _ _ _ hj).symm) (order_len _ _) hn (by rw [h.size]; omega), h.bel⟩
theorem block_lt {W : World} {b o : Nat} {v : Value} (h : W.cell? ⟨b, o, none⟩ = some v) : b < W.heap.size := by
  rcases Nat.lt_or_ge b W.heap.size with l | l
  · exact l
  · simp [World.cell?, Array.getElem?_eq_none l] at h
theorem RShuffle_l (s : ByteArray) (n : Nat) (w : World) (hs : s.size ≤ 9223372036854775807) (hn : n ≤ 10000) :
    Calls Try.prog 8 #[.string s, .int .i64 n] w (ListPost .i64 (order (Ch.seed s) n) w) := by
  by_cases h0 : n = 0
  · subst h0; exact RShuffle_zero s w hs
  · refine (RShuffle_yes s n w hs hn (by omega)).mono ?_
    rintro e w' ⟨g, cap, rfl, h, hb⟩
    exact ⟨_, rfl, RowF.isK (h.congr fun j hj => (order_at _ _ _ hj).symm) (order_len _ _) hn (block_lt (h 0 (by omega)).1), hb⟩

set_option maxHeartbeats 4000000 in
theorem law_chance_in (s : ByteArray) (n : Nat) (w : World) (hs : s.size ≤ 9223372036854775807) (hn : n ≤ 10000) :
    Calls Try.prog 3 #[.string s, .int .i64 n] w fun e w' => e = .returned (.bool true) ∧ Below w.heap.size w w' := by
  go_enter Try.func3, Try.ntmps3
  go_wp2_with fail
  refine (Stream_l s n _ hs hn).mono ?_
  rintro e w1 ⟨v1, rfl, k1, b1⟩
  have K1 := Lib.hid k1; clear k1
  have B1 := Lib.hid b1; clear b1
  go_wp2_with fail
  refine (RStream_l s n _ hs hn).mono ?_
  rintro e w2 ⟨v2, rfl, k2, b2⟩
  have K1' := Lib.hid (K1.out.below b2)
  have K2 := Lib.hid k2; clear k2 K1
  have B2 := Lib.hid (B1.out.trans (b2.mono B1.out.size)); clear b2
  go_wp2_with fail
  refine (Shuffle_l s n _ hs hn).mono ?_
  rintro e w3 ⟨v3, rfl, k3, b3⟩
  have K1 := Lib.hid (K1'.out.below b3); clear K1'
  have K2' := Lib.hid (K2.out.below b3); clear K2
  have K3 := Lib.hid k3; clear k3
  have B3 := Lib.hid (B2.out.trans (b3.mono B2.out.size)); clear b3
  go_wp2_with fail
  refine (RShuffle_l s n _ hs hn).mono ?_
  rintro e w4 ⟨v4, rfl, k4, b4⟩
  have K1' := Lib.hid (K1.out.below b4); clear K1
  have K2 := Lib.hid (K2'.out.below b4); clear K2'
  have K3' := Lib.hid (K3.out.below b4); clear K3
  have K4 := Lib.hid k4; clear k4
  have B4 := Lib.hid (B3.out.trans (b4.mono B3.out.size)); clear b4
  go_wp2_with fail
  refine (equalU _ _ _ _ K1'.out K2.out).mono ?_
  rintro e w5 ⟨rfl, m, rfl⟩
  go_wp2_with fail
  refine (equalI _ _ _ _ (K3'.out.below (below_drewN (Below.refl _ _) _)) (K4.out.below (below_drewN (Below.refl _ _) _))).mono ?_
  rintro e w6 ⟨rfl, m', rfl⟩
  go_wp2
  go_ret
  exact ⟨rfl, below_drewN B4.out _⟩

set_option maxHeartbeats 4000000 in
theorem law_chance_out (s : ByteArray) (n : Int) (w : World) (h : n < 0 ∨ 10000 < n) :
    Calls Try.prog 3 #[.string s, .int .i64 n] w fun e w' => e = .returned (.bool true) ∧ Below w.heap.size w w' := by
  have H := Lib.hid h; clear h
  have EU := Lib.hid (fun w : World => equalU (.slice none 0 0) (.slice none 0 0) [] w (.inl ⟨_, _, rfl, rfl⟩) (.inl ⟨_, _, rfl, rfl⟩))
  have EI := Lib.hid (fun w : World => equalI (.slice none 0 0) (.slice none 0 0) [] w (.inl ⟨_, _, rfl, rfl⟩) (.inl ⟨_, _, rfl, rfl⟩))
  go_enter Try.func3, Try.ntmps3
  go_wp2_with fail
  refine (Stream_no s n w H.out).mono ?_; rintro e w1 ⟨rfl, hw1⟩; subst hw1
  go_wp2_with fail
  refine (RStream_no s n _ H.out).mono ?_; rintro e w2 ⟨rfl, hw2⟩; subst hw2
  go_wp2_with fail
  refine (Shuffle_no s n _ H.out).mono ?_; rintro e w3 ⟨rfl, hw3⟩; subst hw3
  go_wp2_with fail
  refine (RShuffle_no s n _ H.out).mono ?_; rintro e w4 ⟨rfl, hw4⟩; subst hw4
  go_wp2_with fail
  refine (EU.out _).mono ?_
  rintro e w5 ⟨rfl, m, rfl⟩
  go_wp2_with fail
  refine (EI.out _).mono ?_
  rintro e w6 ⟨rfl, m', rfl⟩
  go_wp2
  go_ret
  exact ⟨rfl, below_drewN (Below.refl _ _) _⟩
end Go.Proofs.Ytleiapoaoiapbab
