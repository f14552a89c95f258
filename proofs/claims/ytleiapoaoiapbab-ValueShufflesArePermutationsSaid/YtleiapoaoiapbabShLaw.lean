/-
  ValueShufflesArePermutations: the law's walk.
-/
import Derived.Test.YtleiapoaoiapbabShMath
import Derived.Maps.OwnOps
import Derived.Maps.OwnSet
import Derived.Maps.Views
import Derived.Maps.Keyed
namespace Go.Proofs.Ytleiapoaoiapbab
open Go.RowKit Go.Maps

theorem order_range (s0 : Int) (n j : Nat) (h : j < n) : 0 ≤ (order s0 n).getD j 0 ∧ (order s0 n).getD j 0 < n := by
  rw [order_at _ _ _ h]; exact (Ch.pm_ok s0 n (by omega) (n - 1)).1 j h
theorem order_once (s0 : Int) (n i j : Nat) (hi : i < n) (hj : j < n) (h : (order s0 n).getD i 0 = (order s0 n).getD j 0) : i = j := by
  rw [order_at _ _ _ hi, order_at _ _ _ hj] at h; exact (Ch.pm_ok s0 n (by omega) (n - 1)).2 i j hi hj h

theorem keyed : Keyed Try.prog 3 := int_keyed Try.underlying3
theorem zeroBool (w : World) : (zeroValue 4).run Try.prog w = .ok (.bool false) w := by kernel_rfl

theorem plainElem_bool_inv {H : Type} {P : Program} {e : TypeId} (he : P.underlying e = some .bool) {v : Value} {z : DataW H × List MemPlace} (h : plainElem P e v = some z) : ∃ x, v = .bool x ∧ z = (.lit (.bool x), []) := by
  unfold plainElem at h
  rw [he] at h
  cases v <;> simp at h
  exact ⟨_, rfl, h.symm⟩
/-- The numbers that stand in the map are the first k of the list. -/
def Seen (l : List Int) (b k : Nat) (w : World) : Prop :=
  ∃ D : DataW Unit, w.ownsMap Try.prog 3 (plainElem Try.prog 4) b k D ∧ ∀ y : Int, (∀ j, j < k → l.getD j 0 ≠ y) → D.atKey (.int .i64 y) (.lit (.bool false)) = .lit (.bool false)
theorem Seen.start (l : List Int) (w : World) : Seen l w.heap.size 0 (w.alloc (.map #[] 0)) :=
  ⟨.map [], World.ownsMap_made _ _ _ _, fun _ _ => rfl⟩
/-- A number that is not among them is not there. -/
theorem Seen.look {l : List Int} {b k : Nat} {w : World} (h : Seen l b k w) (x : Int) (hx : (Lit.int .i64 x).wf = true) (hn : ∀ j, j < k → l.getD j 0 ≠ x) :
    (Instr.lookup 33 (.map (some b)) (.int .i64 x) false).run Try.prog w = .ok (.bool false) w := by
  obtain ⟨D, hD, hy⟩ := h
  obtain ⟨v, ps, hrun, hv⟩ := hD.lookup keyed Try.underlying33 (zeroBool w) (plainElem_bool Try.underlying4 false) (keyOf_int_mk Try.underlying3 hx)
  rw [hy x hn] at hv
  rw [hrun]
  obtain ⟨c, rfl, hc⟩ := plainElem_bool_inv Try.underlying4 hv
  simp only [Prod.mk.injEq, DataW.lit.injEq, Lit.bool.injEq] at hc
  rw [← hc.1]
theorem Seen.put {l : List Int} {b k : Nat} {w : World} (h : Seen l b k w) (hk : k < 10000) (hx : (Lit.int .i64 (l.getD k 0)).wf = true) :
    ∃ w', (Instr.mapUpdate 33 (.map (some b)) (.int .i64 (l.getD k 0)) (.bool true)).run Try.prog w = .ok () w' ∧ Seen l b (k + 1) w' ∧ w.grownBy w' (some b) := by
  obtain ⟨D, hD, hy⟩ := h
  obtain ⟨w', hrun, hD', hg⟩ := hD.update keyed Try.underlying33 (by unfold maxLen; omega) (keyOf_int_mk Try.underlying3 hx) (plainElem_bool Try.underlying4 true)
  refine ⟨w', hrun, ⟨_, hD', fun y hn => ?_⟩, hg⟩
  rw [atKey_put_other (by intro e; exact hn k (by omega) (by injection e with _ e2; exact e2.symm))]
  exact hy y fun j hj => hn j (by omega)

theorem wf_small {x : Int} (h1 : 0 ≤ x) (h2 : x < 10001) : (Lit.int .i64 x).wf = true := by
  simp [Lit.wf, IntKind.min, IntKind.max, IntKind.bits, IntKind.signed]
  omega
set_option maxRecDepth 100000 in
set_option maxHeartbeats 4000000 in
theorem law_shuf_in (s : ByteArray) (n : Nat) (w : World) (hs : s.size ≤ 9223372036854775807) (hn : n ≤ 10000) :
    Calls Try.prog 4 #[.string s, .int .i64 n] w fun e w' => e = .returned (.bool true) ∧ Below w.heap.size w w' := by
  have hmm := @run_makeMap Try.prog
  go_enter Try.func4, Try.ntmps4
  go_wp2_with fail
  refine (Shuffle_l s n _ hs hn).mono ?_
  rintro e w1 ⟨v1, rfl, k1, b1⟩
  have K1 := Lib.hid k1; clear k1
  have B1 := Lib.hid b1; clear b1
  obtain ⟨a1, c1, rfl⟩ : ∃ a c, v1 = .slice a n c := by
    rcases K1.out with ⟨a, c, rfl, e⟩ | ⟨b, off, cap, rfl, _⟩
    · have h0 := congrArg List.length e
      rw [order_len] at h0
      exact ⟨a, c, by rw [h0]; rfl⟩
    · exact ⟨_, cap, by rw [order_len]⟩
  go_wp2_with fail
  clear hmm
  have hS := Lib.hid (Seen.start (order (Ch.seed s) n) w1)
  have hb0 := Lib.hid (show Below w1.heap.size w1 (w1.alloc (.map #[] 0)) from (Below.refl _ _).alloc (Nat.le_refl _) _)
  generalize w1.alloc (.map #[] 0) = w2 at hS hb0
  go_loopw [9, 30] (fun _ i wr => ∃ k : Nat, k ≤ n ∧ i = .int .i64 k ∧ Hid (Seen (order (Ch.seed s) n) w1.heap.size k wr) ∧ Hid (Below w1.heap.size w1 wr)) (fun _ i _ => n - (intOf i).toNat)
  case atStart => exact ⟨0, Nat.zero_le _, rfl, hS.out, hb0.out⟩
  case round =>
    obtain ⟨k, hk, rfl, hR, hB⟩ := hrel
    clear hS hb0
    by_cases hlt : k < n
    · rcases K1.out with ⟨_, _, _, e⟩ | ⟨b, off, cap, e, _, _, hb, hcells⟩
      · have h0 := congrArg List.length e
        rw [order_len] at h0
        exact absurd h0 (by simp; omega)
      · simp only [Value.slice.injEq] at e
        obtain ⟨rfl, hnn, rfl⟩ := e
        clear hnn
        rw [order_len] at hcells
        have cx : wr.cell? ⟨b, off + k, none⟩ = some (.int .i64 ((order (Ch.seed s) n).getD k 0)) := by
          rw [hB.out.cell (p := ⟨b, off + k, none⟩) hb]; exact hcells k hlt
        clear hcells
        obtain ⟨x1, x2⟩ := order_range (Ch.seed s) n k hlt
        have hwf := wf_small x1 (by omega)
        have hlook := hR.out.look _ hwf (fun j hj e => by have := order_once (Ch.seed s) n j k (by omega) hlt e; omega)
        obtain ⟨w3, hput, hR', hg⟩ := hR.out.put (by omega) hwf
        have HR := Lib.hid hR'
        have HB := Lib.hid (hB.out.grown hg hB.out.size (fun q hq => by simp only [Option.some.injEq] at hq; omega))
        clear hR hB hR' hg hwf
        generalize (order (Ch.seed s) n).getD k 0 = x at cx x1 x2 hlook hput
        have d1 : decide (x < 0) = false := by simp; omega
        have d2 : decide ((n : Int) ≤ x) = false := by simp; omega
        have hlt' : (k : Int) < (n : Int) := by omega
        go_wp2
        go_roundw
        case rel => exact ⟨k + 1, by omega, by go_num, HR.out, HB.out⟩
        case measure => simp [intOf]; omega
    · obtain rfl : k = n := by omega
      go_wp2_with fail
      have HB1 := Lib.hid (B1.out.trans (hB.out.mono B1.out.size))
      clear hR hB K1 B1
      refine (Stream_yes s k _ hs hn).mono ?_
      rintro e w3 ⟨rfl, hI⟩
      have HI := Lib.hid hI; clear hI
      have hk2 : (k : Int) / 2 = ((k / 2 : Nat) : Int) := by omega
      have HK2 := Lib.hid hk2; clear hk2
      go_wp2_with fail
      rw [HK2.out]
      refine (Stream_l s (k / 2) _ hs (by omega)).mono ?_
      rintro e w4 ⟨v2, rfl, k4, b4⟩
      have K4 := Lib.hid k4; clear k4
      have B4 := Lib.hid b4; clear b4
      have h5 : k / 2 ≤ k := by omega
      have h6 : ((k / 2 : Nat) : Int) ≤ (k : Int) := by omega
      go_wp2_with fail
      have hrow : IsK .u64 w3 (.slice (some ⟨wr.heap.size + 1, 0, none⟩) (k / 2) k) (Ch.outs (Ch.seed s) (k / 2)) := by
        refine RowF.isK (fun j hj => ?_) (Ch.outs_len _ _) (by omega) (by rw [HI.out.size]; omega)
        have h := HI.out.row j (by omega)
        simp only [if_pos (show j < k by omega)] at h
        have e := Ch.outs_at (Ch.seed s) (k / 2) j hj
        simp only [e]
        exact h
      refine (equalU _ _ _ _ (hrow.below B4.out) K4.out).mono ?_
      rintro e w5 ⟨rfl, m, rfl⟩
      clear hrow
      go_wp2
      go_ret
      exact ⟨rfl, below_drewN (((HB1.out.trans (HI.out.bel.mono HB1.out.size))).trans (B4.out.mono (by have h1 := HB1.out.size; have h2 := HI.out.size; omega))) _⟩

set_option maxHeartbeats 1000000 in
theorem law_shuf_out (s : ByteArray) (n : Int) (w : World) (h : n < 0 ∨ 10000 < n) :
    Calls Try.prog 4 #[.string s, .int .i64 n] w fun e w' => e = .returned (.bool true) ∧ Below w.heap.size w w' := by
  have H := Lib.hid h
  rcases h with h | h
  · go_enter Try.func4, Try.ntmps4
    go_wp2_with fail
    refine (Shuffle_no s n w H.out).mono ?_; rintro e w1 ⟨rfl, hw1⟩; subst hw1
    go_wp2
    go_ret
    exact ⟨rfl, Below.refl _ _⟩
  · have h1 : decide (n < 0) = false := by simp; omega
    go_enter Try.func4, Try.ntmps4
    go_wp2_with fail
    refine (Shuffle_no s n w H.out).mono ?_; rintro e w1 ⟨rfl, hw1⟩; subst hw1
    go_wp2
    go_ret
    exact ⟨rfl, Below.refl _ _⟩
end Go.Proofs.Ytleiapoaoiapbab
