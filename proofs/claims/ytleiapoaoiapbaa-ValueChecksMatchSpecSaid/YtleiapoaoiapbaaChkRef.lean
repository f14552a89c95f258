/-
  The reference's Compare and Check, for values of any parts.
-/
import Derived.Test.YtleiapoaoiapbaaChkValue
namespace Go.Proofs.Ytleiapoaoiapbaa
open Go.RowKit

theorem sign_c (a b : Int) (w : World) : Calls Try.prog 19 #[.int .i64 a, .int .i64 b] w fun e w' => e = .returned (.int .i64 (Ord.icmp a b)) ∧ w' = w := by
  by_cases h1 : a < b
  · have h : Hid (Ord.icmp a b = -1) := by unfold Hid Ord.icmp; rw [if_pos h1]
    go_enter Try.func19, Try.ntmps19
    go_wp2
    go_ret
    exact ⟨by rw [h.out]; rfl, rfl⟩
  · by_cases h2 : b < a
    · have h : Hid (Ord.icmp a b = 1) := by unfold Hid Ord.icmp; rw [if_neg h1, if_pos h2]
      go_enter Try.func19, Try.ntmps19
      go_wp2
      go_ret
      exact ⟨by rw [h.out]; rfl, rfl⟩
    · have h : Hid (Ord.icmp a b = 0) := by unfold Hid Ord.icmp; rw [if_neg h1, if_neg h2]
      go_enter Try.func19, Try.ntmps19
      go_wp2
      go_ret
      exact ⟨by rw [h.out]; rfl, rfl⟩
theorem lcmp_tail (a b : List Int) (k : Nat) (h1 : k ≤ a.length) (h2 : k ≤ b.length) (h : a.length ≤ k ∨ b.length ≤ k) :
    Ord.lcmp Ord.icmp (a.drop k) (b.drop k) = Ord.icmp a.length b.length := by
  by_cases ha : k < a.length
  · rw [Ord.lcmp_long a b k ha (by omega)]; unfold Ord.icmp; rw [if_neg (by omega), if_pos (by omega)]
  · by_cases hb : k < b.length
    · rw [Ord.lcmp_short a b k (by omega) hb]; unfold Ord.icmp; rw [if_pos (by omega)]
    · rw [Ord.lcmp_over a b k (by omega) (by omega)]; unfold Ord.icmp; rw [if_neg (by omega), if_neg (by omega)]

/-- A slice with the length of its list, and its cells. -/
theorem IsL.len {w : World} {v : Value} {l : List Int} (h : IsL w v l) : ∃ a c, v = .slice a l.length c ∧ l.length ≤ 9223372036854775807 := by
  rcases h with ⟨a, c, rfl, rfl⟩ | ⟨b, off, cap, rfl, _, h3, _⟩
  · exact ⟨a, c, rfl, by simp⟩
  · exact ⟨_, cap, rfl, h3⟩
theorem IsL.cells {w : World} {a : Option Addr} {n c : Nat} {l : List Int} (h : IsL w (.slice a n c) l) (h0 : 0 < l.length) :
    ∃ b off, a = some ⟨b, off, none⟩ ∧ n = l.length ∧ ∀ j, j < l.length → w.cell? ⟨b, off + j, none⟩ = some (.int .i64 (l.getD j 0)) := by
  rcases h with ⟨a', c', e, rfl⟩ | ⟨b, off, cap, e, _, _, _, h5⟩
  · simp at h0
  · simp only [Value.slice.injEq] at e
    exact ⟨b, off, e.1, e.2.1, h5⟩

set_option maxHeartbeats 2000000 in
theorem lists_c (v1 v2 : Value) (l1 l2 : List Int) (w : World) (h1 : IsL w v1 l1) (h2 : IsL w v2 l2) :
    Calls Try.prog 20 #[v1, v2] w fun e w' => e = .returned (.int .i64 (Ord.lcmp Ord.icmp l1 l2)) ∧ Drawn w w' := by
  obtain ⟨a1, c1, rfl, m1⟩ := h1.len
  obtain ⟨a2, c2, rfl, m2⟩ := h2.len
  have H1 := Lib.hid h1; clear h1
  have H2 := Lib.hid h2; clear h2
  go_enter Try.func20, Try.ntmps20
  go_wp2
  go_loopw [5, 6] (fun i _ wr => ∃ k : Nat, k ≤ l1.length ∧ k ≤ l2.length ∧ i = .int .i64 k ∧ Hid (Ord.lcmp Ord.icmp l1 l2 = Ord.lcmp Ord.icmp (l1.drop k) (l2.drop k)) ∧ Hid (Drawn w wr)) (fun i _ _ => l1.length - (intOf i).toNat)
  case atStart => exact ⟨0, Nat.zero_le _, Nat.zero_le _, rfl, rfl, Drawn.refl _⟩
  case round =>
    obtain ⟨k, hk1, hk2, rfl, hE, hD⟩ := hrel
    by_cases hlt : k < l1.length
    · by_cases hlt2 : k < l2.length
      · obtain ⟨b, off, rfl, _, g5⟩ := H1.out.cells (by omega)
        obtain ⟨b', off', rfl, _, k5⟩ := H2.out.cells (by omega)
        have c1 : wr.cell? ⟨b, off + k, none⟩ = some (.int .i64 (l1.getD k 0)) := by rw [hD.out.cell]; exact g5 k hlt
        have c2 : wr.cell? ⟨b', off' + k, none⟩ = some (.int .i64 (l2.getD k 0)) := by rw [hD.out.cell]; exact k5 k hlt2
        clear g5 k5
        have st := Lib.hid (Ord.lcmp_step l1 l2 k hlt hlt2)
        generalize l1.getD k 0 = x at c1 st
        generalize l2.getD k 0 = y at c2 st
        have i1 : (k : Int) < (l1.length : Int) := by omega
        have i2 : (k : Int) < (l2.length : Int) := by omega
        by_cases hz : Ord.icmp x y = 0
        · have hz' : (Ord.icmp x y != 0) = false := by simp [hz]
          have HZ := Lib.hid hz; clear hz
          go_wp2_with fail
          go_quiet ((go_at_call 19; exact Calls.quiet_of_same (sign_c _ _ _)))
          go_wp2
          go_roundw
          case rel => exact ⟨k + 1, by omega, by omega, by go_num, by unfold Hid; rw [hE.out, st.out, if_pos HZ.out], hD.out.more _⟩
          case measure => simp [intOf]; omega
        · have hz' : (Ord.icmp x y != 0) = true := by simp [hz]
          have HZ := Lib.hid hz; clear hz
          go_wp2_with fail
          go_quiet ((go_at_call 19; exact Calls.quiet_of_same (sign_c _ _ _)))
          go_wp2
          go_ret
          exact ⟨ret_int (by rw [hE.out, st.out, if_neg HZ.out]), hD.out.more _⟩
      · have e : Hid (Ord.lcmp Ord.icmp l1 l2 = Ord.icmp l1.length l2.length) := by unfold Hid; rw [hE.out]; exact lcmp_tail _ _ _ hk1 hk2 (.inr (by omega))
        have i1 : decide ((k : Int) < (l2.length : Int)) = false := by simp; omega
        go_wp2_with (go_at_call 19; refine (sign_c _ _ _).mono ?_; rintro e w' ⟨rfl, rfl⟩)
        go_ret
        exact ⟨ret_int (by rw [e.out]), hD.out⟩
    · have e : Hid (Ord.lcmp Ord.icmp l1 l2 = Ord.icmp l1.length l2.length) := by unfold Hid; rw [hE.out]; exact lcmp_tail _ _ _ hk1 hk2 (.inl (by omega))
      have i1 : decide ((k : Int) < (l1.length : Int)) = false := by simp; omega
      go_wp2_with (go_at_call 19; refine (sign_c _ _ _).mono ?_; rintro e w' ⟨rfl, rfl⟩)
      go_ret
      exact ⟨ret_int (by rw [e.out]), hD.out⟩

set_option maxHeartbeats 4000000 in
theorem refCompare_c (k n k' n' : Int) (s s' : ByteArray) (v v' : Value) (l l' : List Int) (w : World) (h : IsL w v l) (h' : IsL w v' l') :
    Calls Try.prog 8 #[.agg #[.int .i64 k, .int .i64 n, .string s, v], .agg #[.int .i64 k', .int .i64 n', .string s', v']] w fun e w' => e = .returned (.int .i64 (Ord.vcmp (k, n, s.data.toList, l) (k', n', s'.data.toList, l'))) ∧ Below w.heap.size w w' := by
  have HI := Lib.hid h; clear h
  have HI' := Lib.hid h'; clear h'
  have B2 : ∀ a b, Hid (Below w.heap.size w ((w.alloc a).alloc b)) := fun a b => ((Below.refl _ _).alloc (Nat.le_refl _) _).alloc (by simp) _
  have BB := Lib.hid B2; clear B2
  have hv := Lib.hid (Ord.vcmp_or k n s.data.toList l k' n' s'.data.toList l')
  generalize hx : Ord.icmp k k' = x at hv
  generalize hy : Ord.icmp n n' = y at hv
  have HX := Lib.hid hx; clear hx
  have HY := Lib.hid hy; clear hy
  by_cases z1 : x = 0
  · subst z1
    by_cases z2 : y = 0
    · subst z2
      generalize hz : Lib.compareBytes s.data.toList s'.data.toList = z at hv
      have HZ := Lib.hid hz; clear hz
      by_cases z3 : z = 0
      · subst z3
        go_enter Try.func8, Try.ntmps8
        go_wp2_with fail
        refine (sign_c _ _ _).mono ?_; rw [HX.out]; rintro e w' ⟨rfl, rfl⟩
        go_wp2_with fail
        refine (sign_c _ _ _).mono ?_; rw [HY.out]; rintro e w' ⟨rfl, rfl⟩
        go_wp2_with fail
        refine (strings_c _ _ _).mono ?_; rw [HZ.out]; rintro e w' ⟨rfl, rfl⟩
        go_wp2_with fail
        refine (lists_c _ _ l l' _ ((HI.out.alloc _).alloc _) ((HI'.out.alloc _).alloc _)).mono ?_
        rintro e w' ⟨rfl, hD⟩
        have HD := Lib.hid hD; clear hD
        go_wp2
        go_ret
        exact ⟨ret_int (by rw [hv.out]; simp [Ord.or4]), HD.out.below (BB.out _ _).out⟩
      · have z3' : (z != 0) = true := by simp [z3]
        have Z3 := Lib.hid z3; clear z3
        go_enter Try.func8, Try.ntmps8
        go_wp2_with fail
        refine (sign_c _ _ _).mono ?_; rw [HX.out]; rintro e w' ⟨rfl, rfl⟩
        go_wp2_with fail
        refine (sign_c _ _ _).mono ?_; rw [HY.out]; rintro e w' ⟨rfl, rfl⟩
        go_wp2_with fail
        refine (strings_c _ _ _).mono ?_; rw [HZ.out]; rintro e w' ⟨rfl, rfl⟩
        go_wp2
        go_ret
        exact ⟨ret_int (by rw [hv.out]; simp [Ord.or4, Z3.out]), (BB.out _ _).out⟩
    · have z2' : (y != 0) = true := by simp [z2]
      have Z2 := Lib.hid z2; clear z2
      go_enter Try.func8, Try.ntmps8
      go_wp2_with fail
      refine (sign_c _ _ _).mono ?_; rw [HX.out]; rintro e w' ⟨rfl, rfl⟩
      go_wp2_with fail
      refine (sign_c _ _ _).mono ?_; rw [HY.out]; rintro e w' ⟨rfl, rfl⟩
      go_wp2
      go_ret
      exact ⟨ret_int (by rw [hv.out]; simp [Ord.or4, Z2.out]), (BB.out _ _).out⟩
  · have z1' : (x != 0) = true := by simp [z1]
    have Z1 := Lib.hid z1; clear z1
    go_enter Try.func8, Try.ntmps8
    go_wp2_with fail
    refine (sign_c _ _ _).mono ?_; rw [HX.out]; rintro e w' ⟨rfl, rfl⟩
    go_wp2
    go_ret
    exact ⟨ret_int (by rw [hv.out]; simp [Ord.or4, Z1.out]), (BB.out _ _).out⟩
end Go.Proofs.Ytleiapoaoiapbaa
