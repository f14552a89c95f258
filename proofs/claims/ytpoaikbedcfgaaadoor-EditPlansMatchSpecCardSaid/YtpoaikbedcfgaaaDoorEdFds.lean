/-
  EditPlansMatchSpec: the fields of a plan, package edit.
-/
import Derived.Test.YtpoaikbedcfgaaaDoorEdBase
namespace Go.Proofs.YtpoaikbedcfgaaaDoor
open Go.RowKit Go.WideMaps Go.Maps

theorem fdE_1 {l : List Fd} {k : Nat} (h : nmE (fun i => (fd l i).nm) (fd l k).nm k ≠ 0) : fdE l k = nmE (fun i => (fd l i).nm) (fd l k).nm k := by unfold fdE; rw [if_pos h]
theorem fdE_2 {l : List Fd} {k : Nat} (h : nmE (fun i => (fd l i).nm) (fd l k).nm k = 0) (h2 : codesS (fd l k).cs ≠ 0) : fdE l k = codesS (fd l k).cs := by unfold fdE; rw [if_neg (by simpa using h), if_pos h2]
theorem fdE_3 {l : List Fd} {k : Nat} (h : nmE (fun i => (fd l i).nm) (fd l k).nm k = 0) (h2 : codesS (fd l k).cs = 0) : fdE l k = wtE (fd l k).wt := by unfold fdE; rw [if_neg (by simpa using h), if_neg (by simpa using h2)]
theorem fdsS_at {l : List Fd} {k : Nat} (h1 : l.length ≠ 0) (h2 : ¬ 12 < l.length) (hk : k < l.length) (h0 : fe (fdE l) k = 0) (h : fdE l k ≠ 0) : fdsS l = fdE l k := by
  unfold fdsS
  rw [if_neg h1, if_neg h2, fe_at hk h0 h]
set_option maxHeartbeats 2000000 in
theorem checkFields_c (a : Option Addr) (c : Nat) (l : List Fd) (w : World) (hl : RdF w a l) (hst : ∀ u, u ∈ l → u.nm.size ≤ 9223372036854775807) :
    Calls Tryd.prog 16 #[.slice a l.length c] w (IntP (fdsS l) w) := by
  have h9 := hl.1
  by_cases h1 : l.length = 0
  · have e : Hid (fdsS l = 9) := by unfold Hid fdsS; rw [if_pos h1]
    clear hl hst
    have h1' : (l.length : Int) = 0 := by omega
    go_enter Tryd.func16, Tryd.ntmps16
    go_wp2
    go_ret
    exact ⟨by rw [e.out]; rfl, Below.refl _ _⟩
  have h1' : ((l.length : Int) == 0) = false := by rw [beq_eq_false_iff_ne]; omega
  by_cases h2 : 12 < l.length
  · have e : Hid (fdsS l = 2) := by unfold Hid fdsS; rw [if_neg h1, if_pos h2]
    have h2' : (12 : Int) < (l.length : Int) := by omega
    clear hl hst h1 h2
    go_enter Tryd.func16, Tryd.ntmps16
    go_wp2
    go_ret
    exact ⟨by rw [e.out]; rfl, Below.refl _ _⟩
  have h2' : ¬ (12 : Int) < (l.length : Int) := by omega
  have hmm := @run_makeMap Tryd.prog
  have HL := Lib.hid hl
  have HST := Lib.hid hst
  have HAT : Hid (∀ k, k < l.length → fe (fdE l) k = 0 → fdE l k ≠ 0 → fdsS l = fdE l k) := fun k hk h0 h => fdsS_at h1 h2 hk h0 h
  have HEND : Hid (fe (fdE l) l.length = 0 → fdsS l = 0) := fun h => by unfold fdsS; rw [if_neg h1, if_neg h2, h]
  have hle : Hid (l.length ≤ 12) := by unfold Hid; omega
  clear hl hst h1 h2
  go_enter Tryd.func16, Tryd.ntmps16
  go_wp2
  go_loopw [19] (fun i wr => ∃ k : Nat, k ≤ l.length ∧ i = .int .i64 k ∧ Hid (NmIs wr w.heap.size (fun i => (fd l i).nm) k ∧ Below w.heap.size w wr ∧ w.heap.size + 1 ≤ wr.heap.size ∧ fe (fdE l) k = 0)) (fun i _ => l.length - (intOf i).toNat)
  case atStart => exact ⟨0, Nat.zero_le _, rfl, NmIs.made _ _, (Below.refl _ _).alloc (Nat.le_refl _) _, by simp, rfl⟩
  case round =>
    obtain ⟨k, hk, rfl, hS⟩ := hrel
    by_cases hlt : k < l.length
    · obtain ⟨b, off, rfl, u0, ⟨a', c', u1, hcs⟩, u2⟩ := (HL.out.below hS.out.2.1).at_ hlt
      have HCS : Hid (Rd w a' (fd l k).cs) := by
        obtain ⟨b', off', e, v0, ⟨a2, c2, v1, v2⟩, v3⟩ := HL.out.at_ hlt
        injection e with e; injection e with e1 e2; subst e1; subst e2
        have := hS.out.2.1.cell (p := ⟨b, off + k * 3 + 1, none⟩) (by obtain ⟨b', off', e, hb, _⟩ := HL.out.2 (by omega); injection e with e; injection e with e1 e2; subst e1; exact hb)
        rw [this, v1] at u1
        injection u1 with u1; injection u1 with u1 _ _; subst u1
        exact v2
      clear hcs
      have hlt' : (k : Int) < (l.length : Int) := by omega
      have hsz : Hid ((fd l k).nm.size ≤ 9223372036854775807) := HST.out _ (by unfold fd; rw [List.getD, List.getElem?_eq_getElem hlt]; simp)
      have hF : Hid (fdE l k ≠ 0 → fdsS l = fdE l k) := fun h => HAT.out k hlt hS.out.2.2.2 h
      have hN : Hid (fe (fdE l) (k + 1) = fdE l k) := fe_next hS.out.2.2.2
      obtain ⟨W1, hW1⟩ : ∃ W1, wr.alloc (.cells #[.string (fd l k).nm, .slice a' (fd l k).cs.length c', .int .i64 (fd l k).wt] 37) = W1 := ⟨_, rfl⟩
      have B1 : Hid (Below wr.heap.size wr W1 ∧ W1.heap.size = wr.heap.size + 1 ∧ W1.cell? ⟨wr.heap.size, 0, none⟩ = some (.string (fd l k).nm) ∧ W1.cell? ⟨wr.heap.size, 1, none⟩ = some (.slice a' (fd l k).cs.length c') ∧ W1.cell? ⟨wr.heap.size, 2, none⟩ = some (.int .i64 (fd l k).wt)) := by
        unfold Hid
        rw [← hW1]
        exact ⟨bel_one _ _, by simp, by rw [World.cell?_alloc_at _ _ _ _ rfl]; rfl, by rw [World.cell?_alloc_at _ _ _ _ rfl]; rfl, by rw [World.cell?_alloc_at _ _ _ _ rfl]; rfl⟩
      have BW1 : Hid (Below w.heap.size w W1) := hS.out.2.1.trans (B1.out.1.mono hS.out.2.1.size)
      have HNm : Hid (Calls Tryd.prog 23 #[.string (fd l k).nm, .map (some w.heap.size)] W1 (NameP (fun i => (fd l i).nm) k w.heap.size W1)) := checkName_c (fun i => (fd l i).nm) k w.heap.size W1 (hS.out.1.below B1.out.1 (by have := hS.out.2.2.1; omega)) (by have := hle.out; unfold maxLen; omega) hsz.out
      have v0 := B1.out.2.2.1
      go_wp2_with fail
      clear hW1 v0 u0 u1 u2
      refine HNm.out.mono ?_
      rintro e W2 ⟨rfl, hnx, hg⟩
      dsimp only at hnx
      have BW2 : Hid (Below w.heap.size w W2) := BW1.out.grown hg BW1.out.size (fun j hj => by cases hj; exact Nat.le_refl _)
      have hne : wr.heap.size ≠ w.heap.size := by have := hS.out.2.2.1; omega
      have x1 : W2.cell? ⟨wr.heap.size, 1, none⟩ = some (.slice a' (fd l k).cs.length c') := (grown_cell (p := ⟨wr.heap.size, 1, none⟩) hg (by have := B1.out.2.1; show wr.heap.size < _; omega) hne).trans B1.out.2.2.2.1
      have x2 : W2.cell? ⟨wr.heap.size, 2, none⟩ = some (.int .i64 (fd l k).wt) := (grown_cell (p := ⟨wr.heap.size, 2, none⟩) hg (by have := B1.out.2.1; show wr.heap.size < _; omega) hne).trans B1.out.2.2.2.2
      have hsz2 : Hid (w.heap.size + 1 ≤ W2.heap.size) := by
        have := hg.size; have := B1.out.2.1; have := hS.out.2.2.1
        unfold Hid; omega
      clear hg hne
      by_cases hc1 : nmE (fun i => (fd l i).nm) (fd l k).nm k = 0
      · have hNM := Lib.hid (hnx hc1)
        rw [hc1]
        clear hnx
        have HC : Hid (Calls Tryd.prog 24 #[.slice a' (fd l k).cs.length c'] W2 fun e w' => e = .returned (.int .i64 (codesS (fd l k).cs)) ∧ w' = W2) := checkCodes_c a' c' (fd l k).cs W2 (HCS.out.below BW2.out)
        by_cases hc2 : codesS (fd l k).cs = 0
        · have hE3 : Hid (fdE l k = wtE (fd l k).wt) := fdE_3 hc1 hc2
          rw [hc2] at HC
          clear hc1 hc2
          by_cases hw1 : (fd l k).wt < 1
          · have e : fdE l k = 1 := by rw [hE3.out]; unfold wtE; rw [if_pos hw1]
            have hR : Hid (fdsS l = 1) := by unfold Hid; rw [hF.out (by rw [e]; decide), e]
            clear e
            go_wp2_with fail
            refine HC.out.mono ?_
            rintro e W3 ⟨rfl, rfl⟩
            go_wp2
            go_ret
            exact ⟨by rw [hR.out]; rfl, BW2.out⟩
          by_cases hw2 : 1000 < (fd l k).wt
          · have e : fdE l k = 1 := by rw [hE3.out]; unfold wtE; rw [if_neg hw1, if_pos hw2]
            have hR : Hid (fdsS l = 1) := by unfold Hid; rw [hF.out (by rw [e]; decide), e]
            clear e
            go_wp2_with fail
            refine HC.out.mono ?_
            rintro e W3 ⟨rfl, rfl⟩
            go_wp2
            go_ret
            exact ⟨by rw [hR.out]; rfl, BW2.out⟩
          · have NX : Hid (NmIs W2 w.heap.size (fun i => (fd l i).nm) (k + 1) ∧ Below w.heap.size w W2 ∧ w.heap.size + 1 ≤ W2.heap.size ∧ fe (fdE l) (k + 1) = 0) :=
              ⟨hNM.out, BW2.out, hsz2.out, by rw [hN.out, hE3.out]; unfold wtE; rw [if_neg hw1, if_neg hw2]⟩
            go_wp2_with fail
            refine HC.out.mono ?_
            rintro e W3 ⟨rfl, rfl⟩
            go_wp2
            go_roundw
            case rel => exact ⟨k + 1, by omega, by go_num, NX.out⟩
            case measure => simp [intOf]; omega
        · have e : fdE l k = codesS (fd l k).cs := fdE_2 hc1 hc2
          have hR : Hid (fdsS l = codesS (fd l k).cs) := by unfold Hid; rw [hF.out (by rw [e]; exact hc2), e]
          have hc' : (codesS (fd l k).cs == 0) = false := by rw [beq_eq_false_iff_ne]; exact hc2
          clear e hc1 hc2
          go_wp2_with fail
          refine HC.out.mono ?_
          rintro e W3 ⟨rfl, rfl⟩
          go_wp2
          go_ret
          exact ⟨by rw [hR.out]; rfl, BW2.out⟩
      · have e : fdE l k = nmE (fun i => (fd l i).nm) (fd l k).nm k := fdE_1 hc1
        have hR : Hid (fdsS l = nmE (fun i => (fd l i).nm) (fd l k).nm k) := by unfold Hid; rw [hF.out (by rw [e]; exact hc1), e]
        have hc' : (nmE (fun i => (fd l i).nm) (fd l k).nm k == 0) = false := by rw [beq_eq_false_iff_ne]; exact hc1
        clear e hc1 hnx
        generalize nmE (fun i => (fd l i).nm) (fd l k).nm k = ch at *
        go_wp2
        go_ret
        exact ⟨by rw [hR.out]; rfl, BW2.out⟩
    · obtain rfl : k = l.length := by omega
      clear hlt
      have hR := Lib.hid (HEND.out hS.out.2.2.2)
      go_wp2
      go_ret
      exact ⟨by rw [hR.out]; rfl, hS.out.2.1⟩
end Go.Proofs.YtpoaikbedcfgaaaDoor
