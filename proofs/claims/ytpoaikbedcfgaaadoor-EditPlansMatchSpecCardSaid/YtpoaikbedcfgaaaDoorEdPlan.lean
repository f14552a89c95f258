/-
  EditPlansMatchSpec: CheckPlan of package edit.
-/
import Derived.Test.YtpoaikbedcfgaaaDoorEdEd
namespace Go.Proofs.YtpoaikbedcfgaaaDoor
open Go.RowKit Go.WideMaps Go.Maps

theorem edE_is (l : List Fd) (E : List Ed) (m : Nat) : edE l E m = edS l (fun i => (ed E i).nm) m (ed E m).ss := rfl
theorem RdL.anew {w w' : World} {b o : Nat} {f : Ed} {a2 : Option Addr} {c2 : Nat} (h : EdAt w b o f) (hb : Below w.heap.size w w') (hl : b < w.heap.size) (hc : w'.cell? ⟨b, o + 1, none⟩ = some (.slice a2 f.ss.length c2)) : RdL w a2 f.ss := by
  obtain ⟨_, a', c', h1, h2⟩ := h
  rw [hb.cell (p := ⟨b, o + 1, none⟩) hl, h1] at hc
  injection hc with hc; injection hc with hc _ _; subst hc
  exact h2
theorem mix_wrap {l : List Fd} (h : l.length ≤ 12) (hc : ∀ i, i < l.length → (fd l i).cs.length ≤ 20) {k : Nat} (hk : k ≤ l.length) : (mix l k : Int) ≤ 4096000000000000 := by
  have h1 := mix_le (l := l) (k := k) fun i hi => hc i (by omega)
  have h2 : 20 ^ k ≤ 20 ^ 12 := Nat.pow_le_pow_right (by decide) (by omega)
  have h3 : (20 : Nat) ^ 12 = 4096000000000000 := by decide
  omega
set_option maxHeartbeats 4000000 in
theorem CheckPlan_c (a : Option Addr) (c : Nat) (l : List Fd) (a2 : Option Addr) (c2 : Nat) (E : List Ed) (w : World) (hl : RdF w a l) (hE : RdE w a2 E) (hst : ∀ u, u ∈ l → u.nm.size ≤ 9223372036854775807) (hst2 : ∀ u, u ∈ E → u.nm.size ≤ 9223372036854775807) :
    Calls Tryd.prog 6 #[.agg #[.slice a l.length c, .slice a2 E.length c2]] w (IntP (planS l E) w) := by
  have h9 := hl.1
  have h9' := hE.1
  obtain ⟨W1, hW1⟩ : ∃ W1, w.alloc (.cells #[.slice a l.length c, .slice a2 E.length c2] 25) = W1 := ⟨_, rfl⟩
  have B1 : Hid (Below w.heap.size w W1 ∧ W1.heap.size = w.heap.size + 1 ∧ W1.cell? ⟨w.heap.size, 0, none⟩ = some (.slice a l.length c) ∧ W1.cell? ⟨w.heap.size, 1, none⟩ = some (.slice a2 E.length c2)) := by
    unfold Hid
    rw [← hW1]
    exact ⟨bel_one _ _, by simp, by rw [World.cell?_alloc_at _ _ _ _ rfl]; rfl, by rw [World.cell?_alloc_at _ _ _ _ rfl]; rfl⟩
  have HC := Lib.hid (checkFields_c a c l W1 (hl.below B1.out.1) hst)
  have hmm := @run_makeMap Tryd.prog
  have HL := Lib.hid hl
  have HE := Lib.hid hE
  have HST := Lib.hid hst2
  have v0 := B1.out.2.2.1
  clear hl hE hst hst2
  by_cases h1 : fdsS l = 0
  · rw [h1] at HC
    have HF := Lib.hid (fds_codes h1)
    have HP : Hid (planS l E = if 20000 < mix l l.length then 2 else if 60 < E.length then 2 else fe (edE l E) E.length) := by unfold Hid planS; rw [if_neg (by simpa using h1)]
    clear h1
    go_enter Tryd.func6, Tryd.ntmps6
    go_wp2_with fail
    clear v0
    refine HC.out.mono ?_
    rintro e W2 ⟨rfl, b2⟩
    have BW2 : Hid (Below w.heap.size w W2) := B1.out.1.trans (b2.mono B1.out.1.size)
    have x0 : W2.cell? ⟨w.heap.size, 0, none⟩ = some (.slice a l.length c) := (b2.cell (p := ⟨w.heap.size, 0, none⟩) (by have := B1.out.2.1; show w.heap.size < _; omega)).trans B1.out.2.2.1
    have X1 : Hid (W2.cell? ⟨w.heap.size, 0, none⟩ = some (.slice a l.length c) ∧ W2.cell? ⟨w.heap.size, 1, none⟩ = some (.slice a2 E.length c2) ∧ w.heap.size + 1 ≤ W2.heap.size) := ⟨x0, (b2.cell (p := ⟨w.heap.size, 1, none⟩) (by have := B1.out.2.1; show w.heap.size < _; omega)).trans B1.out.2.2.2, by have := B1.out.2.1; have := b2.size; omega⟩
    clear b2 hW1
    go_wp2
    clear x0
    go_loopw [4, 20] (fun m i wr => ∃ k : Nat, k ≤ l.length ∧ i = .int .i64 k ∧ m = .int .i64 (mix l k) ∧ Hid (Below W2.heap.size W2 wr)) (fun _ i _ => l.length - (intOf i).toNat)
    case atStart => exact ⟨0, Nat.zero_le _, rfl, rfl, Below.refl _ _⟩
    case round =>
      obtain ⟨k, hk, rfl, rfl, hS⟩ := hrel
      have BWr : Hid (Below w.heap.size w wr) := BW2.out.trans (hS.out.mono BW2.out.size)
      by_cases hlt : k < l.length
      · obtain ⟨b, off, rfl, u0, ⟨a', c', u1, hcs⟩, u2⟩ := (HL.out.below BWr.out).at_ hlt
        have hlt' : (k : Int) < (l.length : Int) := by omega
        have hmx : Hid (mix l (k + 1) = mix l k * (fd l k).cs.length) := rfl
        have hb1 := mix_wrap HF.out.1 (fun i hi => (HF.out.2.2 i hi).2) (k := k + 1) (by omega)
        have hmul : (mix l k : Int) * ((fd l k).cs.length : Int) = (mix l (k + 1) : Int) := by rw [hmx.out]; simp
        have h8 := hcs.1
        clear hcs
        obtain ⟨M, hM⟩ : ∃ M, mix l (k + 1) = M := ⟨_, rfl⟩
        have HM := Lib.hid hM
        rw [hM] at hb1 hmul
        clear hM hmx
        have NX : Hid (Below W2.heap.size W2 (wr.alloc (.cells #[.string (fd l k).nm, .slice a' (fd l k).cs.length c', .int .i64 (fd l k).wt] 37))) := hS.out.trans ((bel_one _ _).mono hS.out.size)
        go_wp2
        go_roundw
        case rel => exact ⟨k + 1, by omega, by go_num, by rw [HM.out], NX.out⟩
        case measure => simp [intOf]; omega
      · obtain rfl : k = l.length := by omega
        clear hlt
        obtain ⟨wA, hwA⟩ : ∃ x : World, x = wr := ⟨wr, rfl⟩
        subst hwA
        have y0 : wA.cell? ⟨w.heap.size, 0, none⟩ = some (.slice a l.length c) := (hS.out.cell (p := ⟨w.heap.size, 0, none⟩) (by have := X1.out.2.2; show w.heap.size < _; omega)).trans X1.out.1
        have y1 : wA.cell? ⟨w.heap.size, 1, none⟩ = some (.slice a2 E.length c2) := (hS.out.cell (p := ⟨w.heap.size, 1, none⟩) (by have := X1.out.2.2; show w.heap.size < _; omega)).trans X1.out.2.1
        have hsz : Hid (w.heap.size + 1 ≤ wA.heap.size) := Nat.le_trans X1.out.2.2 hS.out.size
        by_cases hm : 20000 < mix l l.length
        · have hR : Hid (planS l E = 2) := by unfold Hid; rw [HP.out, if_pos hm]
          have hm' : (20000 : Int) < (mix l l.length : Int) := by omega
          clear hm
          go_wp2
          go_ret
          exact ⟨by rw [hR.out]; rfl, BWr.out⟩
        have hm' : ¬ (20000 : Int) < (mix l l.length : Int) := by omega
        by_cases h60 : 60 < E.length
        · have hR : Hid (planS l E = 2) := by unfold Hid; rw [HP.out, if_neg hm, if_pos h60]
          have h60' : (60 : Int) < (E.length : Int) := by omega
          clear hm h60
          go_wp2
          go_ret
          exact ⟨by rw [hR.out]; rfl, BWr.out⟩
        have hP2 : Hid (planS l E = fe (edE l E) E.length) := by unfold Hid; rw [HP.out, if_neg hm, if_neg h60]
        have hle : Hid (E.length ≤ 60) := by unfold Hid; omega
        have h60' : ¬ (60 : Int) < (E.length : Int) := by omega
        have Y := Lib.hid (And.intro y0 y1)
        obtain ⟨Wm, hWm⟩ : ∃ Wm, wA.alloc (.map #[] 0) = Wm := ⟨_, rfl⟩
        have HWm := Lib.hid hWm
        have hb : Below wA.heap.size wA Wm := by rw [← hWm]; exact bel_one _ _
        have z1 : Wm.cell? ⟨w.heap.size, 1, none⟩ = some (.slice a2 E.length c2) := (hb.cell (p := ⟨w.heap.size, 1, none⟩) (by have := hsz.out; show w.heap.size < _; omega)).trans y1
        clear hm h60 hb
        go_wp2
        clear y0 y1 z1
        go_loopw [42] (fun i wr => ∃ m : Nat, m ≤ E.length ∧ i = .int .i64 m ∧ Hid (NmIs wr wA.heap.size (fun i => (ed E i).nm) m ∧ Below w.heap.size w wr ∧ wA.heap.size + 1 ≤ wr.heap.size ∧ wr.cell? ⟨w.heap.size, 0, none⟩ = some (.slice a l.length c) ∧ fe (edE l E) m = 0)) (fun i _ => E.length - (intOf i).toNat)
        case atStart =>
          have hb := bel_one wA (.map #[] 0)
          have hW := HWm.out
          subst hW
          exact ⟨0, Nat.zero_le _, rfl, NmIs.made _ _, BWr.out.trans (hb.mono BWr.out.size), by simp, (hb.cell (p := ⟨w.heap.size, 0, none⟩) (by have := hsz.out; show w.heap.size < _; omega)).trans Y.out.1, rfl⟩
        case round =>
          obtain ⟨m, hm, rfl, hQ⟩ := hrel
          by_cases hlt : m < E.length
          · obtain ⟨b, off, rfl, hAt⟩ := HE.out.at_ hlt
            have hbl : Hid (b < w.heap.size) := by
              obtain ⟨b', off', e, hb, _⟩ := HE.out.2 (by omega)
              injection e with e; injection e with e1 e2; subst e1; exact hb
            obtain ⟨u0, a', c', u1, hLL⟩ := hAt.below hQ.out.2.1 hbl.out
            have HLL := Lib.hid (RdL.anew hAt hQ.out.2.1 hbl.out u1)
            clear hLL hAt
            have hlt' : (m : Int) < (E.length : Int) := by omega
            have hsn : Hid ((ed E m).nm.size ≤ 9223372036854775807) := HST.out _ (by unfold ed; rw [List.getD, List.getElem?_eq_getElem hlt]; simp)
            have hF : Hid (edE l E m ≠ 0 → planS l E = edE l E m) := fun h => by rw [hP2.out]; exact fe_at hlt hQ.out.2.2.2.2 h
            have hN : Hid (fe (edE l E) (m + 1) = edE l E m) := fe_next hQ.out.2.2.2.2
            obtain ⟨W3, hW3⟩ : ∃ W3, wr.alloc (.cells #[.string (ed E m).nm, .slice a' (ed E m).ss.length c'] 46) = W3 := ⟨_, rfl⟩
            have B3 : Hid (Below wr.heap.size wr W3 ∧ W3.heap.size = wr.heap.size + 1) := by
              unfold Hid
              rw [← hW3]
              exact ⟨bel_one _ _, by simp⟩
            have v0 : W3.cell? ⟨wr.heap.size, 0, none⟩ = some (.string (ed E m).nm) := by rw [← hW3, World.cell?_alloc_at _ _ _ _ rfl]; rfl
            have v1 : W3.cell? ⟨wr.heap.size, 1, none⟩ = some (.slice a' (ed E m).ss.length c') := by rw [← hW3, World.cell?_alloc_at _ _ _ _ rfl]; rfl
            have v2 : W3.cell? ⟨w.heap.size, 0, none⟩ = some (.slice a l.length c) := (B3.out.1.cell (p := ⟨w.heap.size, 0, none⟩) (by have := hsz.out; have := hQ.out.2.2.1; show w.heap.size < _; omega)).trans hQ.out.2.2.2.1
            have V2 := Lib.hid v2
            have BW3 : Hid (Below w.heap.size w W3) := hQ.out.2.1.trans (B3.out.1.mono hQ.out.2.1.size)
            have HK : Hid (Calls Tryd.prog 17 #[.slice a l.length c, .agg #[.string (ed E m).nm, .slice a' (ed E m).ss.length c'], .map (some wA.heap.size)] W3 (EditP l (fun i => (ed E i).nm) m wA.heap.size (ed E m).ss W3)) :=
              checkEdit_c a c l (fun i => (ed E i).nm) m wA.heap.size a' c' (ed E m).ss w W3 HL.out HLL.out BW3.out (by have := hsz.out; omega) (hQ.out.1.below B3.out.1 (by have := hQ.out.2.2.1; omega)) (by have := hle.out; unfold maxLen; omega) hsn.out
            go_wp2_with fail
            clear hW3 v0 v1 v2 u0 u1
            refine HK.out.mono ?_
            rintro e W4 ⟨rfl, hnx, hg⟩
            rw [← edE_is] at hnx
            rw [← edE_is]
            have BW4 : Hid (Below w.heap.size w W4) := BW3.out.grown hg BW3.out.size (fun j hj => by cases hj; have := hsz.out; omega)
            have hc4 : Hid (W4.cell? ⟨w.heap.size, 0, none⟩ = some (.slice a l.length c)) := (grown_cell (p := ⟨w.heap.size, 0, none⟩) hg (by have := hsz.out; have := hQ.out.2.2.1; have := B3.out.2; show w.heap.size < _; omega) (by have := hsz.out; show w.heap.size ≠ wA.heap.size; omega)).trans V2.out
            have hs4 : Hid (wA.heap.size + 1 ≤ W4.heap.size) := by have := hg.size; have := B3.out.2; have := hQ.out.2.2.1; unfold Hid; omega
            clear hg
            by_cases hc : edE l E m = 0
            · have NX : Hid (NmIs W4 wA.heap.size (fun i => (ed E i).nm) (m + 1) ∧ Below w.heap.size w W4 ∧ wA.heap.size + 1 ≤ W4.heap.size ∧ W4.cell? ⟨w.heap.size, 0, none⟩ = some (.slice a l.length c) ∧ fe (edE l E) (m + 1) = 0) :=
                ⟨hnx hc, BW4.out, hs4.out, hc4.out, by rw [hN.out, hc]⟩
              rw [hc]
              clear hnx hc
              go_wp2
              go_roundw
              case rel => exact ⟨m + 1, by omega, by go_num, NX.out⟩
              case measure => simp [intOf]; omega
            · have hR := Lib.hid (hF.out hc)
              have hc' : (edE l E m == 0) = false := by rw [beq_eq_false_iff_ne]; exact hc
              clear hnx hc
              generalize edE l E m = ch at *
              go_wp2
              go_ret
              exact ⟨by rw [hR.out]; rfl, BW4.out⟩
          · obtain rfl : m = E.length := by omega
            clear hlt
            have hR : Hid (planS l E = 0) := by unfold Hid; rw [hP2.out]; exact hQ.out.2.2.2.2
            go_wp2
            go_ret
            exact ⟨by rw [hR.out]; rfl, hQ.out.2.1⟩
  · have hR : Hid (planS l E = fdsS l) := by unfold Hid planS; rw [if_pos h1]
    have hc' : (fdsS l == 0) = false := by rw [beq_eq_false_iff_ne]; exact h1
    clear h1
    go_enter Tryd.func6, Tryd.ntmps6
    go_wp2_with fail
    refine HC.out.mono ?_
    rintro e W2 ⟨rfl, b2⟩
    go_wp2
    go_ret
    exact ⟨by rw [hR.out]; rfl, B1.out.1.trans (b2.mono B1.out.1.size)⟩
end Go.Proofs.YtpoaikbedcfgaaaDoor
