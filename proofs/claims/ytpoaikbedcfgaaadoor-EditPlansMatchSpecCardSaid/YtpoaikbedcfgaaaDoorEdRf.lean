/-
  EditPlansMatchSpec: a field of a plan, the reference.
-/
import Derived.Test.YtpoaikbedcfgaaaDoorEdPlan
import Derived.Lib.SmallJoins
namespace Go.Proofs.YtpoaikbedcfgaaaDoor
open Go.RowKit Go.WideMaps Go.Maps

theorem Env.below {w w' : World} (h : Env w) (hb : Below w.heap.size w w') : Env w' := ⟨Go.Joins.tab_stays gSpace h.asp hb (Nat.le_refl _)⟩
theorem neqB {a b : ByteArray} (h : a ≠ b) : (a.toList == b.toList) = false := by
  rw [beq_eq_false_iff_ne]
  intro e
  rw [Lib.toList_data, Lib.toList_data] at e
  apply h
  cases a; cases b
  simpa using e
theorem within_c (n lo hi : Int) (w : World) : Calls Tryd.prog 29 #[.int .i64 n, .int .i64 lo, .int .i64 hi] w fun e w' => e = .returned (.bool (decide (lo ≤ n ∧ n ≤ hi))) ∧ w' = w := by
  by_cases h1 : lo ≤ n
  · by_cases h2 : n ≤ hi
    · have e : Hid (decide (lo ≤ n ∧ n ≤ hi) = true) := by unfold Hid; simp; omega
      go_enter Tryd.func29, Tryd.ntmps29
      go_wp2
      go_ret
      exact ⟨by rw [e.out]; rfl, rfl⟩
    · have e : Hid (decide (lo ≤ n ∧ n ≤ hi) = false) := by unfold Hid; simp; omega
      have h2' : decide (n ≤ hi) = false := by simp; omega
      clear h2
      go_enter Tryd.func29, Tryd.ntmps29
      go_wp2
      go_ret
      exact ⟨by rw [e.out]; rfl, rfl⟩
  · have e : Hid (decide (lo ≤ n ∧ n ≤ hi) = false) := by unfold Hid; simp; omega
    have h1' : decide (lo ≤ n) = false := by simp; omega
    clear h1
    go_enter Tryd.func29, Tryd.ntmps29
    go_wp2
    go_ret
    exact ⟨by rw [e.out]; rfl, rfl⟩
def fdG (ns : Nat → ByteArray) (k : Nat) (nm : ByteArray) (cs : List Int) (wt : Int) : Int :=
  if nmE ns nm k ≠ 0 then nmE ns nm k else if codesS cs ≠ 0 then codesS cs else wtE wt
theorem fdE_is (l : List Fd) (k : Nat) : fdE l k = fdG (fun i => (fd l i).nm) k (fd l k).nm (fd l k).cs (fd l k).wt := rfl
set_option maxHeartbeats 4000000 in
theorem rcheckField_c (a : Option Addr) (ce : Nat) (l : List Fd) (k : Nat) (nm : ByteArray) (cs : List Int) (wt : Int) (a' : Option Addr) (c' : Nat) (w0 w : World) (hl : RdF w0 a l) (hk : k ≤ l.length) (hcs : Rd w0 a' cs) (hb : Below w0.heap.size w0 w) (hE : Env w0) :
    Calls Tryd.prog 18 #[.agg #[.string nm, .slice a' cs.length c', .int .i64 wt], .slice a k ce] w (IntP (fdG (fun i => (fd l i).nm) k nm cs wt) w) := by
  have h9 := hl.1
  have h8 := hcs.1
  obtain ⟨W1, hW1⟩ : ∃ W1, w.alloc (.cells #[.string nm, .slice a' cs.length c', .int .i64 wt] 37) = W1 := ⟨_, rfl⟩
  have B1 : Hid (Below w.heap.size w W1 ∧ W1.heap.size = w.heap.size + 1 ∧ W1.cell? ⟨w.heap.size, 0, none⟩ = some (.string nm) ∧ W1.cell? ⟨w.heap.size, 1, none⟩ = some (.slice a' cs.length c') ∧ W1.cell? ⟨w.heap.size, 2, none⟩ = some (.int .i64 wt)) := by
    unfold Hid
    rw [← hW1]
    exact ⟨bel_one _ _, by simp, by rw [World.cell?_alloc_at _ _ _ _ rfl]; rfl, by rw [World.cell?_alloc_at _ _ _ _ rfl]; rfl, by rw [World.cell?_alloc_at _ _ _ _ rfl]; rfl⟩
  have BW1 : Hid (Below w0.heap.size w0 W1) := hb.trans (B1.out.1.mono hb.size)
  have HB := Lib.hid hb
  have HNm := Lib.hid (rIsName_c nm W1 (hE.below BW1.out))
  have HL := Lib.hid hl
  have HCS := Lib.hid hcs
  have v0 := B1.out.2.2.1
  clear hl hcs hE hb
  by_cases h1 : nameS nm = false
  · have e : Hid (fdG (fun i => (fd l i).nm) k nm cs wt = 5) := by unfold Hid fdG nmE; simp [h1]
    rw [h1] at HNm
    clear h1
    go_enter Tryd.func18, Tryd.ntmps18
    go_wp2_with fail
    refine HNm.out.mono ?_
    rintro e W2 ⟨rfl, b2⟩
    have R := Lib.hid (B1.out.1.trans (b2.mono (by have := B1.out.2.1; omega)))
    clear b2 v0 hW1
    go_wp2
    go_ret
    exact ⟨by rw [e.out]; rfl, R.out⟩
  have h1' : nameS nm = true := by simpa using h1
  have HG : Hid (fdG (fun i => (fd l i).nm) k nm cs wt = if old (fun i => (fd l i).nm) nm k = true then 6 else if codesS cs ≠ 0 then codesS cs else wtE wt) := by
    unfold Hid fdG nmE
    rw [if_neg h1]
    by_cases ho : old (fun i => (fd l i).nm) nm k = true
    · simp [ho]
    · simp [ho]
  rw [h1'] at HNm
  clear h1 h1'
  go_enter Tryd.func18, Tryd.ntmps18
  go_wp2_with fail
  refine HNm.out.mono ?_
  rintro e W2 ⟨rfl, b2⟩
  have R : Hid (Below w.heap.size w W2) := B1.out.1.trans (b2.mono (by have := B1.out.2.1; omega))
  have X : Hid (W2.cell? ⟨w.heap.size, 0, none⟩ = some (.string nm) ∧ W2.cell? ⟨w.heap.size, 1, none⟩ = some (.slice a' cs.length c') ∧ W2.cell? ⟨w.heap.size, 2, none⟩ = some (.int .i64 wt) ∧ w.heap.size < W2.heap.size) :=
    ⟨(b2.cell (p := ⟨w.heap.size, 0, none⟩) (by have := B1.out.2.1; show w.heap.size < _; omega)).trans B1.out.2.2.1, (b2.cell (p := ⟨w.heap.size, 1, none⟩) (by have := B1.out.2.1; show w.heap.size < _; omega)).trans B1.out.2.2.2.1, (b2.cell (p := ⟨w.heap.size, 2, none⟩) (by have := B1.out.2.1; show w.heap.size < _; omega)).trans B1.out.2.2.2.2, by have := b2.size; have := B1.out.2.1; omega⟩
  clear b2 v0 hW1
  go_wp2
  go_loopw [15] (fun i wr => ∃ j : Nat, j ≤ k ∧ i = .int .i64 j ∧ Hid (Below W2.heap.size W2 wr ∧ old (fun i => (fd l i).nm) nm j = false)) (fun i _ => k - (intOf i).toNat)
  case atStart => exact ⟨0, Nat.zero_le _, rfl, Below.refl _ _, rfl⟩
  case round =>
    obtain ⟨j, hj, rfl, hS⟩ := hrel
    have BWr : Hid (Below w0.heap.size w0 wr) := (HB.out.trans (R.out.mono HB.out.size)).trans (hS.out.1.mono (Nat.le_trans HB.out.size R.out.size))
    have RW : Hid (Below w.heap.size w wr) := R.out.trans (hS.out.1.mono R.out.size)
    by_cases hlt : j < k
    · obtain ⟨b, off, rfl, u0, ⟨a3, c3, u1, _⟩, u2⟩ := (HL.out.below BWr.out).at_ (k := j) (by omega)
      have hlt' : (j : Int) < (k : Int) := by omega
      obtain ⟨W3, hW3⟩ : ∃ W3, wr.alloc (.cells #[.string (fd l j).nm, .slice a3 (fd l j).cs.length c3, .int .i64 (fd l j).wt] 37) = W3 := ⟨_, rfl⟩
      have B3 : Hid (Below wr.heap.size wr W3) := by
        unfold Hid
        rw [← hW3]
        exact bel_one _ _
      have z0 : W3.cell? ⟨wr.heap.size, 0, none⟩ = some (.string (fd l j).nm) := by rw [← hW3, World.cell?_alloc_at _ _ _ _ rfl]; rfl
      have z1 : W3.cell? ⟨w.heap.size, 0, none⟩ = some (.string nm) := (B3.out.cell (p := ⟨w.heap.size, 0, none⟩) (by have := X.out.2.2.2; have := hS.out.1.size; show w.heap.size < _; omega)).trans ((hS.out.1.cell (p := ⟨w.heap.size, 0, none⟩) X.out.2.2.2).trans X.out.1)
      have RW3 : Hid (Below w.heap.size w W3) := RW.out.trans (B3.out.mono RW.out.size)
      by_cases he : (fd l j).nm = nm
      · have hR : Hid (fdG (fun i => (fd l i).nm) k nm cs wt = 6) := by unfold Hid; rw [HG.out, if_pos (old_mem.2 ⟨j, hlt, he⟩)]
        rw [he] at z0 u0 hW3
        clear he
        go_wp2
        go_ret
        exact ⟨by rw [hR.out]; rfl, RW3.out⟩
      · have NX : Hid (Below W2.heap.size W2 W3 ∧ old (fun i => (fd l i).nm) nm (j + 1) = false) := ⟨hS.out.1.trans (B3.out.mono hS.out.1.size), by unfold old; rw [hS.out.2]; simpa using he⟩
        have he' := neqB he
        go_wp2
        go_roundw
        case rel => exact ⟨j + 1, by omega, by go_num, NX.out⟩
        case measure => simp [intOf]; omega
    · obtain rfl : j = k := by omega
      clear hlt
      have hG2 : Hid (fdG (fun i => (fd l i).nm) j nm cs wt = if codesS cs ≠ 0 then codesS cs else wtE wt) := by unfold Hid; rw [HG.out, if_neg (by rw [hS.out.2]; simp)]
      obtain ⟨wA, hwA⟩ : ∃ x : World, x = wr := ⟨wr, rfl⟩
      subst hwA
      have y1 : wA.cell? ⟨w.heap.size, 1, none⟩ = some (.slice a' cs.length c') := (hS.out.1.cell (p := ⟨w.heap.size, 1, none⟩) X.out.2.2.2).trans X.out.2.1
      have y2 : wA.cell? ⟨w.heap.size, 2, none⟩ = some (.int .i64 wt) := (hS.out.1.cell (p := ⟨w.heap.size, 2, none⟩) X.out.2.2.2).trans X.out.2.2.1
      have HA := Lib.hid (HCS.out.below BWr.out)
      obtain ⟨G, HGG⟩ : ∃ G, Hid (fdG (fun i => (fd l i).nm) j nm cs wt = G) := ⟨_, rfl⟩
      have hG2 : Hid (G = if codesS cs ≠ 0 then codesS cs else wtE wt) := by unfold Hid; rw [← HGG.out]; exact hG2.out
      by_cases c1 : cs.length = 0
      · have hR : Hid (G = 9) := by unfold Hid; rw [hG2.out]; unfold codesS; simp [c1]
        have c1' : (cs.length : Int) = 0 := by omega
        clear c1
        go_wp2
        go_ret
        exact ⟨by rw [HGG.out, hR.out]; rfl, RW.out⟩
      have c1' : ((cs.length : Int) == 0) = false := by rw [beq_eq_false_iff_ne]; omega
      by_cases c2 : 20 < cs.length
      · have hR : Hid (G = 2) := by unfold Hid; rw [hG2.out]; unfold codesS; rw [if_neg c1, if_pos c2]; rfl
        have c2' : (20 : Int) < (cs.length : Int) := by omega
        clear c1 c2
        go_wp2
        go_ret
        exact ⟨by rw [HGG.out, hR.out]; rfl, RW.out⟩
      have c2' : ¬ (20 : Int) < (cs.length : Int) := by omega
      have hG3 : Hid (G = if incS okC cs ≠ 0 then incS okC cs else wtE wt) := by unfold Hid; rw [hG2.out]; unfold codesS; rw [if_neg c1, if_neg c2]
      clear c1 c2
      have HW := Lib.hid (fun n lo hi => within_c n lo hi wA)
      go_wp2
      go_loop [7, 8, 38] (fun _ _ i => ∃ q : Nat, q ≤ cs.length ∧ i = .int .i64 q ∧ Hid (fe (stepE okC cs) q = 0)) (fun _ _ i => cs.length - (intOf i).toNat)
      case atStart => exact ⟨0, Nat.zero_le _, rfl, rfl⟩
      case round =>
        obtain ⟨q, hq, rfl, hE⟩ := hrel
        by_cases hlt : q < cs.length
        · obtain ⟨b, off, rfl, hc⟩ := HA.out.at_ hlt
          have hlt' : (q : Int) < (cs.length : Int) := by omega
          have HC : Hid (Calls Tryd.prog 29 #[.int .i64 (fn cs q), .int .i64 1, .int .i64 999] wA fun e w' => e = .returned (.bool (okC (fn cs q))) ∧ w' = wA) := within_c _ _ _ _
          have hF : Hid (stepE okC cs q ≠ 0 → G = stepE okC cs q) := fun h => by
            have e : incS okC cs = stepE okC cs q := fe_at hlt hE.out h
            rw [hG3.out, e, if_pos h]
          have hN : Hid (fe (stepE okC cs) (q + 1) = stepE okC cs q) := fe_next hE.out
          by_cases h1 : okC (fn cs q) = false
          · have hSt : stepE okC cs q = 1 := by unfold stepE; rw [if_pos h1]
            have hR : Hid (G = 1) := by unfold Hid; rw [hF.out (by rw [hSt]; decide), hSt]
            rw [h1] at HC
            clear h1 hSt hF hN
            go_wp2_with fail
            refine HC.out.mono ?_
            rintro e w' ⟨rfl, rfl⟩
            go_wp2
            go_ret
            exact ⟨by rw [HGG.out, hR.out]; rfl, RW.out⟩
          · have h1' : okC (fn cs q) = true := by simpa using h1
            rw [h1'] at HC
            by_cases h2 : q = 0
            · have hSt : stepE okC cs q = 0 := by unfold stepE; rw [if_neg h1, if_neg (by omega)]
              have hZ : Hid (fe (stepE okC cs) (q + 1) = 0) := by unfold Hid; rw [hN.out, hSt]
              clear h1 h1' hSt hF hN
              subst h2
              rw [Nat.add_zero] at hc
              go_wp2_with fail
              refine HC.out.mono ?_
              rintro e w' ⟨rfl, rfl⟩
              go_wp2
              go_roundw
              case rel => exact ⟨1, by omega, by go_num, hZ.out⟩
              case measure => simp [intOf]; omega
            · obtain ⟨m, rfl⟩ : ∃ m, q = m + 1 := ⟨q - 1, by omega⟩
              have hc0 : wA.cell? ⟨b, off + m, none⟩ = some (.int .i64 (fn cs m)) := by
                obtain ⟨b', off', e, hc'⟩ := HA.out.at_ (k := m) (by omega)
                injection e with e; injection e with e1 e2; subst e1; subst e2; exact hc'
              have hpos : (0 : Int) < ((m + 1 : Nat) : Int) := by omega
              have hm1 : ((m + 1 : Nat) : Int) - 1 = (m : Int) := by omega
              have hm2 : (m : Int) < (cs.length : Int) := by omega
              by_cases h3 : fn cs (m + 1) ≤ fn cs m
              · have hSt : stepE okC cs (m + 1) = 7 := by unfold stepE; rw [if_neg h1, if_pos ⟨by omega, h3⟩]
                have hR : Hid (G = 7) := by unfold Hid; rw [hF.out (by rw [hSt]; decide), hSt]
                clear h1 h1' hSt hF hN h2
                go_wp2_with fail
                refine HC.out.mono ?_
                rintro e w' ⟨rfl, rfl⟩
                go_wp2
                go_ret
                exact ⟨by rw [HGG.out, hR.out]; rfl, RW.out⟩
              · have hSt : stepE okC cs (m + 1) = 0 := by unfold stepE; rw [if_neg h1, if_neg (fun h => h3 h.2)]
                have hZ : Hid (fe (stepE okC cs) (m + 1 + 1) = 0) := by unfold Hid; rw [hN.out, hSt]
                clear h1 h1' hSt hF hN h2
                go_wp2_with fail
                refine HC.out.mono ?_
                rintro e w' ⟨rfl, rfl⟩
                go_wp2
                go_roundw
                case rel => exact ⟨m + 1 + 1, by omega, by go_num, hZ.out⟩
                case measure => simp [intOf]; omega
        · obtain rfl : q = cs.length := by omega
          clear hlt
          have hG4 : Hid (G = wtE wt) := by
            have e : incS okC cs = 0 := hE.out
            unfold Hid; rw [hG3.out, e]; simp
          have HC : Hid (Calls Tryd.prog 29 #[.int .i64 wt, .int .i64 1, .int .i64 1000] wA fun e w' => e = .returned (.bool (decide (1 ≤ wt ∧ wt ≤ 1000))) ∧ w' = wA) := within_c _ _ _ _
          by_cases hw : 1 ≤ wt ∧ wt ≤ 1000
          · have hR : Hid (G = 0) := by unfold Hid; rw [hG4.out]; unfold wtE; rw [if_neg (by omega), if_neg (by omega)]
            rw [decide_eq_true hw] at HC
            clear hw
            go_wp2_with fail
            refine HC.out.mono ?_
            rintro e w' ⟨rfl, rfl⟩
            go_wp2
            go_ret
            exact ⟨by rw [HGG.out, hR.out]; rfl, RW.out⟩
          · have hR : Hid (G = 1) := by
              unfold Hid; rw [hG4.out]; unfold wtE
              by_cases h1 : wt < 1
              · rw [if_pos h1]
              · rw [if_neg h1, if_pos (by omega)]
            rw [decide_eq_false hw] at HC
            clear hw
            go_wp2_with fail
            refine HC.out.mono ?_
            rintro e w' ⟨rfl, rfl⟩
            go_wp2
            go_ret
            exact ⟨by rw [HGG.out, hR.out]; rfl, RW.out⟩
end Go.Proofs.YtpoaikbedcfgaaaDoor
