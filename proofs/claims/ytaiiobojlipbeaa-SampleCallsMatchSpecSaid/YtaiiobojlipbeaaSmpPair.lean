/-
  Slices of pairs of ints; Outcome of package sample and of the reference.
-/
import Derived.Test.YtaiiobojlipbeaaSmpCMath
import Derived.Test.YtaiiobojlipbeaaSmpBase
import Derived.RegionTactic
import Derived.ChangeAlike
import Derived.BigRegion
import Derived.Outline
namespace Go.Proofs.Ytaiiobojlipbeaa
open Go.RowKit

/-- A slice that reads as a list of pairs of ints. -/
def RdP (w : World) (a : Option Addr) (l : List (Int × Int)) : Prop :=
  l.length ≤ 9223372036854775807 ∧ (0 < l.length → ∃ b off, a = some ⟨b, off, none⟩ ∧ b < w.heap.size ∧ ∀ (j : Nat) (m o : Int), l[j]? = some (m, o) → w.cell? ⟨b, off + j * 2, none⟩ = some (.int .i64 m) ∧ w.cell? ⟨b, off + j * 2 + 1, none⟩ = some (.int .i64 o))
theorem RdP.below {w w' : World} {a : Option Addr} {l : List (Int × Int)} (h : RdP w a l) (hb : Below w.heap.size w w') : RdP w' a l :=
  ⟨h.1, fun h0 => by
    obtain ⟨b, off, e, hl, hc⟩ := h.2 h0
    exact ⟨b, off, e, Nat.lt_of_lt_of_le hl hb.size, fun j m o hj => by rw [hb.cell (p := ⟨b, off + j * 2, none⟩) hl, hb.cell (p := ⟨b, off + j * 2 + 1, none⟩) hl]; exact hc j m o hj⟩⟩
theorem RdP.at_ {w : World} {a : Option Addr} {l : List (Int × Int)} (h : RdP w a l) {k : Nat} {m o : Int} (hk : l[k]? = some (m, o)) :
    ∃ b off, a = some ⟨b, off, none⟩ ∧ b < w.heap.size ∧ w.cell? ⟨b, off + k * 2, none⟩ = some (.int .i64 m) ∧ w.cell? ⟨b, off + k * 2 + 1, none⟩ = some (.int .i64 o) := by
  have hl := (List.getElem?_eq_some_iff.1 hk).1
  obtain ⟨b, off, e, hb, hc⟩ := h.2 (by omega)
  exact ⟨b, off, e, hb, hc k m o hk⟩
theorem pair_at {l : List (Int × Int)} {k : Nat} (h : k < l.length) : ∃ m o, l[k]? = some (m, o) := ⟨l[k].1, l[k].2, List.getElem?_eq_getElem h⟩

theorem isMinute_c (m : Int) (w : World) (h1 : 0 ≤ m) (h2 : m ≤ 1099511627776) : Calls Try.prog 26 #[.int .i64 m] w fun e w' => e = .returned (.bool true) ∧ w = w' := by
  go_enter Try.func26, Try.ntmps26
  go_wp2
  go_ret
  exact ⟨rfl, rfl⟩
theorem isMinute_n (m : Int) (w : World) (h : m < 0 ∨ 1099511627776 < m) : Calls Try.prog 26 #[.int .i64 m] w fun e w' => e = .returned (.bool false) ∧ w = w' := by
  by_cases h1 : 0 ≤ m
  · have h2 : decide (m ≤ 1099511627776) = false := by simp; omega
    clear h
    go_enter Try.func26, Try.ntmps26
    go_wp2
    go_ret
    exact ⟨rfl, rfl⟩
  · have h2 : decide (0 ≤ m) = false := by simp; omega
    clear h h1
    go_enter Try.func26, Try.ntmps26
    go_wp2
    go_ret
    exact ⟨rfl, rfl⟩
theorem isOutcome_c (m : Int) (w : World) (h1 : 1 ≤ m) (h2 : m ≤ 7) : Calls Try.prog 27 #[.int .i64 m] w fun e w' => e = .returned (.bool true) ∧ w = w' := by
  go_enter Try.func27, Try.ntmps27
  go_wp2
  go_ret
  exact ⟨rfl, rfl⟩
theorem isOutcome_n (m : Int) (w : World) (h : m < 1 ∨ 7 < m) : Calls Try.prog 27 #[.int .i64 m] w fun e w' => e = .returned (.bool false) ∧ w = w' := by
  by_cases h1 : 1 ≤ m
  · have h2 : decide (m ≤ 7) = false := by simp; omega
    clear h
    go_enter Try.func27, Try.ntmps27
    go_wp2
    go_ret
    exact ⟨rfl, rfl⟩
  · have h2 : decide (1 ≤ m) = false := by simp; omega
    clear h h1
    go_enter Try.func27, Try.ntmps27
    go_wp2
    go_ret
    exact ⟨rfl, rfl⟩
theorem within_y (n a b : Int) (w : World) (h1 : a ≤ n) (h2 : n ≤ b) :
    Calls Try.prog 32 #[.int .i64 n, .int .i64 a, .int .i64 b] w fun e w' => e = .returned (.bool true) ∧ w = w' := by
  go_enter Try.func32, Try.ntmps32
  go_wp2
  go_ret
  exact ⟨rfl, rfl⟩
theorem within_n (n a b : Int) (w : World) (h : n < a ∨ b < n) :
    Calls Try.prog 32 #[.int .i64 n, .int .i64 a, .int .i64 b] w fun e w' => e = .returned (.bool false) ∧ w = w' := by
  by_cases h1 : a ≤ n
  · have h2 : decide (n ≤ b) = false := by simp; omega
    clear h
    go_enter Try.func32, Try.ntmps32
    go_wp2
    go_ret
    exact ⟨rfl, rfl⟩
  · have h2 : decide (a ≤ n) = false := by simp; omega
    clear h h1
    go_enter Try.func32, Try.ntmps32
    go_wp2
    go_ret
    exact ⟨rfl, rfl⟩

/-- Two ints come back. -/
def TwoPost (p : Int × Int) (w : World) (e : Ending) (w' : World) : Prop := e = .returned (.tuple #[.int .i64 p.1, .int .i64 p.2]) ∧ Below w.heap.size w w'
theorem Outcome_long (a : Option Addr) (c : Nat) (l : List (Int × Int)) (w : World) (hl : l.length ≤ 9223372036854775807) (h : 100 < l.length) :
    Calls Try.prog 13 #[.slice a l.length c] w (TwoPost (Sm.outcF l) w) := by
  have hE : Hid (Sm.outcF l = (0, 2)) := by unfold Hid Sm.outcF; rw [if_pos h]
  rw [hE.out]
  go_enter Try.func13, Try.ntmps13
  go_wp2
  go_ret2
  exact ⟨rfl, Below.refl _ _⟩
set_option maxHeartbeats 2000000 in
theorem Outcome_c (a : Option Addr) (c : Nat) (l : List (Int × Int)) (w : World) (h : RdP w a l) (hn : l.length ≤ 100) :
    Calls Try.prog 13 #[.slice a l.length c] w (TwoPost (Sm.outcF l) w) := by
  have H := Lib.hid h
  have hE : Hid (∀ z, Sm.attF 0 l = z → z ≠ 0 → Sm.outcF l = (0, z)) := fun z h1 h2 => by
    unfold Sm.outcF; rw [if_neg (by omega), if_pos (by omega), h1]
  have hE0 : Hid (∀ z, Sm.attF 0 l = 0 → Sm.outF 7 l = z → Sm.outcF l = (z, 0)) := fun z h1 h2 => by
    unfold Sm.outcF; rw [if_neg (by omega), if_neg (by omega), h2]
  clear h
  go_enter Try.func13, Try.ntmps13
  go_wp2
  go_loopw [4, 5, 7, 13] (fun o p _ i wr => ∃ (k : Nat) (x y : Int), k ≤ l.length ∧ i = .int .i64 k ∧ o = .int .i64 x ∧ p = .int .i64 y ∧ Hid (Sm.attF 0 l = Sm.attF y (l.drop k)) ∧ Hid (Sm.outF 7 l = Sm.outF x (l.drop k)) ∧ Hid (Below w.heap.size w wr)) (fun _ _ _ i _ => l.length - (intOf i).toNat)
  case atStart => exact ⟨0, 7, 0, Nat.zero_le _, rfl, rfl, rfl, rfl, rfl, Below.refl _ _⟩
  case round =>
    obtain ⟨k, x, y, hk, rfl, rfl, rfl, hA, hO, hB⟩ := hrel
    by_cases hlt : k < l.length
    · obtain ⟨m, o, hkk⟩ := pair_at hlt
      obtain ⟨b, off, rfl, hb, q1, q2⟩ := (H.out.below hB.out).at_ hkk
      have hlt' : (k : Int) < (l.length : Int) := by omega
      have hA' := Lib.hid (hA.out.trans (Sm.attF_drop hkk y))
      have hO' := Lib.hid (hO.out.trans (Sm.outF_drop hkk x))
      have hB' := Lib.hid (hB.out.alloc hB.out.size (.cells #[.int .i64 m, .int .i64 o] 47))
      clear hA hO hB H hkk
      by_cases c1 : m < 0 ∨ 1099511627776 < m
      · have hZ := Lib.hid (hE.out 1 (by rw [hA'.out, if_pos c1]) (by omega))
        have C1 := Lib.hid c1
        clear hE hE0 hA' hO' c1
        go_wp2_with (go_at_call 26; refine (isMinute_n _ _ C1.out).mono ?_; rintro e w' ⟨rfl, rfl⟩)
        go_ret2
        exact ⟨by rw [hZ.out]; rfl, hB'.out⟩
      · by_cases c2 : o < 1 ∨ 7 < o
        · have hZ := Lib.hid (hE.out 4 (by rw [hA'.out, if_neg c1, if_pos c2]) (by omega))
          have C2 := Lib.hid c2
          have C1 := Lib.hid (fun w => isMinute_c m w (by omega) (by omega))
          clear hE hE0 hA' hO' c1 c2
          go_wp2_with (first | (go_at_call 26; refine (C1.out _).mono ?_; rintro e w' ⟨rfl, rfl⟩) | (go_at_call 27; refine (isOutcome_n _ _ C2.out).mono ?_; rintro e w' ⟨rfl, rfl⟩))
          go_ret2
          exact ⟨by rw [hZ.out]; rfl, hB'.out⟩
        · have C1 := Lib.hid (fun w => isMinute_c m w (by omega) (by omega))
          have C2 := Lib.hid (fun w => isOutcome_c o w (by omega) (by omega))
          by_cases c3 : m < y
          · have hZ := Lib.hid (hE.out 7 (by rw [hA'.out, if_neg c1, if_neg c2, if_pos c3]) (by omega))
            have d3 : decide (m < y) = true := by simp; omega
            clear hE hE0 hA' hO' c1 c2
            go_wp2_with (first | (go_at_call 26; refine (C1.out _).mono ?_; rintro e w' ⟨rfl, rfl⟩) | (go_at_call 27; refine (C2.out _).mono ?_; rintro e w' ⟨rfl, rfl⟩))
            go_ret2
            exact ⟨by rw [hZ.out]; rfl, hB'.out⟩
          · have hZ := Lib.hid (hA'.out.trans (by rw [if_neg c1, if_neg c2, if_neg c3]))
            have d3 : decide (m < y) = false := by simp; omega
            obtain ⟨z, hz⟩ : ∃ z, min x o = z := ⟨_, rfl⟩
            rw [hz] at hO'
            clear hE hE0 hA' c1 c2 c3
            go_wp2_with (first | (go_at_call 26; refine (C1.out _).mono ?_; rintro e w' ⟨rfl, rfl⟩) | (go_at_call 27; refine (C2.out _).mono ?_; rintro e w' ⟨rfl, rfl⟩))
            go_region
            go_wp2
            go_roundw
            case rel => exact ⟨k + 1, z, m, by omega, by go_num, rfl, rfl, hZ.out, hO'.out, hB'.out.drew⟩
            case measure => simp [intOf]; omega
    · obtain rfl : k = l.length := by omega
      have hZ := Lib.hid (hE0.out x (by rw [hA.out, List.drop_length]; rfl) (by rw [hO.out, List.drop_length]; rfl))
      clear hA hO hE hE0
      go_wp2
      go_ret2
      exact ⟨by rw [hZ.out]; rfl, hB.out⟩
end Go.Proofs.Ytaiiobojlipbeaa
