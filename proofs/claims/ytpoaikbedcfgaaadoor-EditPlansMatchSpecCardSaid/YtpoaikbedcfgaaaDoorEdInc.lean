/-
  EditPlansMatchSpec: the rows of numbers of package edit.
-/
import Derived.Test.YtpoaikbedcfgaaaDoorEdMap
import Derived.Test.YtpoaikbedcfgaaaDoorShelf
namespace Go.Proofs.YtpoaikbedcfgaaaDoor
open Go.RowKit Go.WideMaps Go.Maps

theorem codes1_c (c : Int) (w : World) : Calls Tryd.prog 34 #[.int .i64 c] w fun e w' => e = .returned (.bool (okC c)) ∧ w' = w := by
  by_cases h1 : 1 ≤ c
  · by_cases h2 : c ≤ 999
    · have e : Hid (okC c = true) := by unfold Hid okC; simp; omega
      go_enter Tryd.func34, Tryd.ntmps34
      go_wp2
      go_ret
      exact ⟨by rw [e.out]; rfl, rfl⟩
    · have e : Hid (okC c = false) := by unfold Hid okC; simp; omega
      have h2' : decide (c ≤ 999) = false := by simp; omega
      clear h2
      go_enter Tryd.func34, Tryd.ntmps34
      go_wp2
      go_ret
      exact ⟨by rw [e.out]; rfl, rfl⟩
  · have e : Hid (okC c = false) := by unfold Hid okC; simp; omega
    have h1' : decide (1 ≤ c) = false := by simp; omega
    clear h1
    go_enter Tryd.func34, Tryd.ntmps34
    go_wp2
    go_ret
    exact ⟨by rw [e.out]; rfl, rfl⟩
set_option maxHeartbeats 1000000 in
theorem inc1_c (a : Option Addr) (c : Nat) (l : List Int) (w : World) (hl : Rd w a l) (ok : Int → Bool) (hok : ∀ c, Calls Tryd.prog 34 #[.int .i64 c] w fun e w' => e = .returned (.bool (ok c)) ∧ w' = w) :
    Calls Tryd.prog 25 #[.slice a l.length c, .func (.func 34) #[] #[]] w fun e w' => e = .returned (.int .i64 (incS ok l)) ∧ w' = w := by
  have H := Lib.hid hl
  have hn := hl.1
  have HO := Lib.hid hok
  clear hl hok
  go_enter Tryd.func25, Tryd.ntmps25
  go_wp2
  go_loop [5, 6, 9] (fun _ _ i => ∃ k : Nat, k ≤ l.length ∧ i = .int .i64 k ∧ Hid (fe (stepE ok l) k = 0)) (fun _ _ i => l.length - (intOf i).toNat)
  case atStart => exact ⟨0, Nat.zero_le _, rfl, rfl⟩
  case round =>
    obtain ⟨k, hk, rfl, hE⟩ := hrel
    by_cases hlt : k < l.length
    · obtain ⟨b, off, rfl, hc⟩ := H.out.at_ hlt
      have hlt' : (k : Int) < (l.length : Int) := by omega
      have HC := Lib.hid (HO.out (fn l k))
      have hF : Hid (stepE ok l k ≠ 0 → incS ok l = stepE ok l k) := fun h => fe_at hlt hE.out h
      have hN : Hid (fe (stepE ok l) (k + 1) = stepE ok l k) := fe_next hE.out
      by_cases h1 : ok (fn l k) = false
      · have hS : stepE ok l k = 1 := by unfold stepE; rw [if_pos h1]
        have hR : Hid (incS ok l = 1) := by unfold Hid; rw [hF.out (by rw [hS]; decide), hS]
        rw [h1] at HC
        clear h1 hS hF hN
        go_wp2_with fail
        refine HC.out.mono ?_
        rintro e w' ⟨rfl, rfl⟩
        go_wp2
        go_ret
        exact ⟨by rw [hR.out]; rfl, rfl⟩
      · have h1' : ok (fn l k) = true := by simpa using h1
        rw [h1'] at HC
        by_cases h2 : k = 0
        · have hS : stepE ok l k = 0 := by unfold stepE; rw [if_neg h1, if_neg (by omega)]
          have hZ : Hid (fe (stepE ok l) (k + 1) = 0) := by unfold Hid; rw [hN.out, hS]
          clear h1 h1' hS hF hN
          subst h2
          rw [Nat.add_zero] at hc
          go_wp2_with fail
          refine HC.out.mono ?_
          rintro e w' ⟨rfl, rfl⟩
          go_wp2
          go_roundw
          case rel => exact ⟨1, by omega, by go_num, hZ.out⟩
          case measure => simp [intOf]; omega
        · obtain ⟨m, rfl⟩ : ∃ m, k = m + 1 := ⟨k - 1, by omega⟩
          have hc0 : w.cell? ⟨b, off + m, none⟩ = some (.int .i64 (fn l m)) := by
            obtain ⟨b', off', e, hc'⟩ := H.out.at_ (k := m) (by omega)
            injection e with e; injection e with e1 e2; subst e1; subst e2; exact hc'
          have hpos : (0 : Int) < ((m + 1 : Nat) : Int) := by omega
          have hm1 : ((m + 1 : Nat) : Int) - 1 = (m : Int) := by omega
          have hm2 : (m : Int) < (l.length : Int) := by omega
          by_cases h3 : fn l (m + 1) ≤ fn l m
          · have hS : stepE ok l (m + 1) = 7 := by unfold stepE; rw [if_neg h1, if_pos ⟨by omega, h3⟩]
            have hR : Hid (incS ok l = 7) := by unfold Hid; rw [hF.out (by rw [hS]; decide), hS]
            clear h1 h1' hS hF hN h2
            go_wp2_with fail
            refine HC.out.mono ?_
            rintro e w' ⟨rfl, rfl⟩
            go_wp2
            go_ret
            exact ⟨by rw [hR.out]; rfl, rfl⟩
          · have hS : stepE ok l (m + 1) = 0 := by unfold stepE; rw [if_neg h1, if_neg (fun h => h3 h.2)]
            have hZ : Hid (fe (stepE ok l) (m + 1 + 1) = 0) := by unfold Hid; rw [hN.out, hS]
            clear h1 h1' hS hF hN h2
            go_wp2_with fail
            refine HC.out.mono ?_
            rintro e w' ⟨rfl, rfl⟩
            go_wp2
            go_roundw
            case rel => exact ⟨m + 1 + 1, by omega, by go_num, hZ.out⟩
            case measure => simp [intOf]; omega
    · obtain rfl : k = l.length := by omega
      clear hlt
      have hR : Hid (incS ok l = 0) := hE
      go_wp2
      go_ret
      exact ⟨by rw [hR.out]; rfl, rfl⟩
set_option maxHeartbeats 1000000 in
theorem inc2_c (a : Option Addr) (c : Nat) (l : List Int) (p q : Addr) (w : World) (hl : Rd w a l) (ok : Int → Bool) (hok : ∀ c, Calls Tryd.prog 26 #[.int .i64 c, .pointer (some p), .pointer (some q)] w fun e w' => e = .returned (.bool (ok c)) ∧ w' = w) :
    Calls Tryd.prog 25 #[.slice a l.length c, .func (.func 26) #[] #[.pointer (some p), .pointer (some q)]] w fun e w' => e = .returned (.int .i64 (incS ok l)) ∧ w' = w := by
  have H := Lib.hid hl
  have hn := hl.1
  have HO := Lib.hid hok
  clear hl hok
  go_enter Tryd.func25, Tryd.ntmps25
  go_wp2
  go_loop [5, 6, 9] (fun _ _ i => ∃ k : Nat, k ≤ l.length ∧ i = .int .i64 k ∧ Hid (fe (stepE ok l) k = 0)) (fun _ _ i => l.length - (intOf i).toNat)
  case atStart => exact ⟨0, Nat.zero_le _, rfl, rfl⟩
  case round =>
    obtain ⟨k, hk, rfl, hE⟩ := hrel
    by_cases hlt : k < l.length
    · obtain ⟨b, off, rfl, hc⟩ := H.out.at_ hlt
      have hlt' : (k : Int) < (l.length : Int) := by omega
      have HC := Lib.hid (HO.out (fn l k))
      have hF : Hid (stepE ok l k ≠ 0 → incS ok l = stepE ok l k) := fun h => fe_at hlt hE.out h
      have hN : Hid (fe (stepE ok l) (k + 1) = stepE ok l k) := fe_next hE.out
      by_cases h1 : ok (fn l k) = false
      · have hS : stepE ok l k = 1 := by unfold stepE; rw [if_pos h1]
        have hR : Hid (incS ok l = 1) := by unfold Hid; rw [hF.out (by rw [hS]; decide), hS]
        rw [h1] at HC
        clear h1 hS hF hN
        go_wp2_with fail
        refine HC.out.mono ?_
        rintro e w' ⟨rfl, rfl⟩
        go_wp2
        go_ret
        exact ⟨by rw [hR.out]; rfl, rfl⟩
      · have h1' : ok (fn l k) = true := by simpa using h1
        rw [h1'] at HC
        by_cases h2 : k = 0
        · have hS : stepE ok l k = 0 := by unfold stepE; rw [if_neg h1, if_neg (by omega)]
          have hZ : Hid (fe (stepE ok l) (k + 1) = 0) := by unfold Hid; rw [hN.out, hS]
          clear h1 h1' hS hF hN
          subst h2
          rw [Nat.add_zero] at hc
          go_wp2_with fail
          refine HC.out.mono ?_
          rintro e w' ⟨rfl, rfl⟩
          go_wp2
          go_roundw
          case rel => exact ⟨1, by omega, by go_num, hZ.out⟩
          case measure => simp [intOf]; omega
        · obtain ⟨m, rfl⟩ : ∃ m, k = m + 1 := ⟨k - 1, by omega⟩
          have hc0 : w.cell? ⟨b, off + m, none⟩ = some (.int .i64 (fn l m)) := by
            obtain ⟨b', off', e, hc'⟩ := H.out.at_ (k := m) (by omega)
            injection e with e; injection e with e1 e2; subst e1; subst e2; exact hc'
          have hpos : (0 : Int) < ((m + 1 : Nat) : Int) := by omega
          have hm1 : ((m + 1 : Nat) : Int) - 1 = (m : Int) := by omega
          have hm2 : (m : Int) < (l.length : Int) := by omega
          by_cases h3 : fn l (m + 1) ≤ fn l m
          · have hS : stepE ok l (m + 1) = 7 := by unfold stepE; rw [if_neg h1, if_pos ⟨by omega, h3⟩]
            have hR : Hid (incS ok l = 7) := by unfold Hid; rw [hF.out (by rw [hS]; decide), hS]
            clear h1 h1' hS hF hN h2
            go_wp2_with fail
            refine HC.out.mono ?_
            rintro e w' ⟨rfl, rfl⟩
            go_wp2
            go_ret
            exact ⟨by rw [hR.out]; rfl, rfl⟩
          · have hS : stepE ok l (m + 1) = 0 := by unfold stepE; rw [if_neg h1, if_neg (fun h => h3 h.2)]
            have hZ : Hid (fe (stepE ok l) (m + 1 + 1) = 0) := by unfold Hid; rw [hN.out, hS]
            clear h1 h1' hS hF hN h2
            go_wp2_with fail
            refine HC.out.mono ?_
            rintro e w' ⟨rfl, rfl⟩
            go_wp2
            go_roundw
            case rel => exact ⟨m + 1 + 1, by omega, by go_num, hZ.out⟩
            case measure => simp [intOf]; omega
    · obtain rfl : k = l.length := by omega
      clear hlt
      have hR : Hid (incS ok l = 0) := hE
      go_wp2
      go_ret
      exact ⟨by rw [hR.out]; rfl, rfl⟩
end Go.Proofs.YtpoaikbedcfgaaaDoor
