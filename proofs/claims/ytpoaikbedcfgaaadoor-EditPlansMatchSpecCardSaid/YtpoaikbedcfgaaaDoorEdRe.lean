/-
  EditPlansMatchSpec: an edit of a plan, the reference.
-/
import Derived.Test.YtpoaikbedcfgaaaDoorEdRf
namespace Go.Proofs.YtpoaikbedcfgaaaDoor
open Go.RowKit Go.WideMaps Go.Maps

def edG (l : List Fd) (ns : Nat → ByteArray) (k : Nat) (nm : ByteArray) (L : List (List Int)) : Int := if nmE ns nm k ≠ 0 then nmE ns nm k else if L.length ≠ l.length then 3 else fe (setE l L) L.length
theorem edE_isG (l : List Fd) (E : List Ed) (k : Nat) : edE l E k = edG l (fun i => (ed E i).nm) k (ed E k).nm (ed E k).ss := rfl
set_option maxHeartbeats 4000000 in
theorem rcheckEdit_c (a : Option Addr) (ce : Nat) (E : List Ed) (af : Option Addr) (cf : Nat) (l : List Fd) (k : Nat) (nm : ByteArray) (L : List (List Int)) (a' : Option Addr) (c' : Nat) (w0 w : World) (hl : RdE w0 a E) (hf : RdF w0 af l) (hk : k ≤ E.length) (hcs : RdL w0 a' L) (hb : Below w0.heap.size w0 w) (hE : Env w0) :
    Calls Tryd.prog 19 #[.agg #[.string nm, .slice a' L.length c'], .slice a k ce, .slice af l.length cf] w (IntP (edG l (fun i => (ed E i).nm) k nm L) w) := by
  have h7 := hf.1
  have HF := Lib.hid hf
  clear hf
  have h9 := hl.1
  have h8 := hcs.1
  obtain ⟨W1, hW1⟩ : ∃ W1, w.alloc (.cells #[.string nm, .slice a' L.length c'] 46) = W1 := ⟨_, rfl⟩
  have B1 : Hid (Below w.heap.size w W1 ∧ W1.heap.size = w.heap.size + 1 ∧ W1.cell? ⟨w.heap.size, 0, none⟩ = some (.string nm) ∧ W1.cell? ⟨w.heap.size, 1, none⟩ = some (.slice a' L.length c')) := by
    unfold Hid
    rw [← hW1]
    exact ⟨bel_one _ _, by simp, by rw [World.cell?_alloc_at _ _ _ _ rfl]; rfl, by rw [World.cell?_alloc_at _ _ _ _ rfl]; rfl⟩
  have BW1 : Hid (Below w0.heap.size w0 W1) := hb.trans (B1.out.1.mono hb.size)
  have HB := Lib.hid hb
  have HNm := Lib.hid (rIsName_c nm W1 (hE.below BW1.out))
  have HL := Lib.hid hl
  have HCS := Lib.hid hcs
  have v0 := B1.out.2.2.1
  clear hl hcs hE hb
  by_cases h1 : nameS nm = false
  · have e : Hid (edG l (fun i => (ed E i).nm) k nm L = 5) := by unfold Hid edG nmE; simp [h1]
    rw [h1] at HNm
    clear h1
    go_enter Tryd.func19, Tryd.ntmps19
    go_wp2_with fail
    refine HNm.out.mono ?_
    rintro e W2 ⟨rfl, b2⟩
    have R := Lib.hid (B1.out.1.trans (b2.mono (by have := B1.out.2.1; omega)))
    clear b2 v0 hW1
    go_wp2
    go_ret
    exact ⟨by rw [e.out]; rfl, R.out⟩
  have h1' : nameS nm = true := by simpa using h1
  have HG : Hid (edG l (fun i => (ed E i).nm) k nm L = if old (fun i => (ed E i).nm) nm k = true then 6 else if L.length ≠ l.length then 3 else fe (setE l L) L.length) := by
    unfold Hid edG nmE
    rw [if_neg h1]
    by_cases ho : old (fun i => (ed E i).nm) nm k = true
    · simp [ho]
    · simp [ho]
  rw [h1'] at HNm
  clear h1 h1'
  go_enter Tryd.func19, Tryd.ntmps19
  go_wp2_with fail
  refine HNm.out.mono ?_
  rintro e W2 ⟨rfl, b2⟩
  have R : Hid (Below w.heap.size w W2) := B1.out.1.trans (b2.mono (by have := B1.out.2.1; omega))
  have X : Hid (W2.cell? ⟨w.heap.size, 0, none⟩ = some (.string nm) ∧ W2.cell? ⟨w.heap.size, 1, none⟩ = some (.slice a' L.length c') ∧ w.heap.size < W2.heap.size) :=
    ⟨(b2.cell (p := ⟨w.heap.size, 0, none⟩) (by have := B1.out.2.1; show w.heap.size < _; omega)).trans B1.out.2.2.1, (b2.cell (p := ⟨w.heap.size, 1, none⟩) (by have := B1.out.2.1; show w.heap.size < _; omega)).trans B1.out.2.2.2, by have := b2.size; have := B1.out.2.1; omega⟩
  clear b2 v0 hW1
  go_wp2
  go_loopw [19] (fun i wr => ∃ j : Nat, j ≤ k ∧ i = .int .i64 j ∧ Hid (Below W2.heap.size W2 wr ∧ old (fun i => (ed E i).nm) nm j = false)) (fun i _ => k - (intOf i).toNat)
  case atStart => exact ⟨0, Nat.zero_le _, rfl, Below.refl _ _, rfl⟩
  case round =>
    obtain ⟨j, hj, rfl, hS⟩ := hrel
    have BWr : Hid (Below w0.heap.size w0 wr) := (HB.out.trans (R.out.mono HB.out.size)).trans (hS.out.1.mono (Nat.le_trans HB.out.size R.out.size))
    have RW : Hid (Below w.heap.size w wr) := R.out.trans (hS.out.1.mono R.out.size)
    by_cases hlt : j < k
    · obtain ⟨b, off, rfl, u0, a3, c3, u1, _⟩ := (HL.out.below BWr.out).at_ (k := j) (by omega)
      have hlt' : (j : Int) < (k : Int) := by omega
      obtain ⟨W3, hW3⟩ : ∃ W3, wr.alloc (.cells #[.string (ed E j).nm, .slice a3 (ed E j).ss.length c3] 46) = W3 := ⟨_, rfl⟩
      have B3 : Hid (Below wr.heap.size wr W3) := by
        unfold Hid
        rw [← hW3]
        exact bel_one _ _
      have z0 : W3.cell? ⟨wr.heap.size, 0, none⟩ = some (.string (ed E j).nm) := by rw [← hW3, World.cell?_alloc_at _ _ _ _ rfl]; rfl
      have z1 : W3.cell? ⟨w.heap.size, 0, none⟩ = some (.string nm) := (B3.out.cell (p := ⟨w.heap.size, 0, none⟩) (by have := X.out.2.2; have := hS.out.1.size; show w.heap.size < _; omega)).trans ((hS.out.1.cell (p := ⟨w.heap.size, 0, none⟩) X.out.2.2).trans X.out.1)
      have RW3 : Hid (Below w.heap.size w W3) := RW.out.trans (B3.out.mono RW.out.size)
      by_cases he : (ed E j).nm = nm
      · have hR : Hid (edG l (fun i => (ed E i).nm) k nm L = 6) := by unfold Hid; rw [HG.out, if_pos (old_mem.2 ⟨j, hlt, he⟩)]
        rw [he] at z0 u0 hW3
        clear he
        go_wp2
        go_ret
        exact ⟨by rw [hR.out]; rfl, RW3.out⟩
      · have NX : Hid (Below W2.heap.size W2 W3 ∧ old (fun i => (ed E i).nm) nm (j + 1) = false) := ⟨hS.out.1.trans (B3.out.mono hS.out.1.size), by unfold old; rw [hS.out.2]; simpa using he⟩
        have he' := neqB he
        go_wp2
        go_roundw
        case rel => exact ⟨j + 1, by omega, by go_num, NX.out⟩
        case measure => simp [intOf]; omega
    · obtain rfl : j = k := by omega
      clear hlt
      have hG2 : Hid (edG l (fun i => (ed E i).nm) j nm L = if L.length ≠ l.length then 3 else fe (setE l L) L.length) := by unfold Hid; rw [HG.out, if_neg (by rw [hS.out.2]; simp)]
      obtain ⟨wA, hwA⟩ : ∃ x : World, x = wr := ⟨wr, rfl⟩
      subst hwA
      have y1 : wA.cell? ⟨w.heap.size, 1, none⟩ = some (.slice a' L.length c') := (hS.out.1.cell (p := ⟨w.heap.size, 1, none⟩) X.out.2.2).trans X.out.2.1
      have HA := Lib.hid (HCS.out.below BWr.out)
      have HFA := Lib.hid (HF.out.below BWr.out)
      obtain ⟨G, HGG⟩ : ∃ G, Hid (edG l (fun i => (ed E i).nm) j nm L = G) := ⟨_, rfl⟩
      have hG2 : Hid (G = if L.length ≠ l.length then 3 else fe (setE l L) L.length) := by unfold Hid; rw [← HGG.out]; exact hG2.out
      by_cases c1 : L.length = l.length
      · have c1' : (L.length : Int) = (l.length : Int) := by omega
        have hG3 : Hid (G = fe (setE l L) L.length) := by unfold Hid; rw [hG2.out, if_neg (by simpa using c1)]
        go_wp2
        go_loop [9, 10, 38] (fun _ _ i => ∃ q : Nat, q ≤ L.length ∧ i = .int .i64 q ∧ Hid (fe (setE l L) q = 0)) (fun _ _ i => L.length - (intOf i).toNat)
        case atStart => exact ⟨0, Nat.zero_le _, rfl, rfl⟩
        case round =>
          obtain ⟨q, hq, rfl, hE⟩ := hrel
          by_cases hlt : q < L.length
          · obtain ⟨b1, off1, a4, c4, rfl, u4, hst⟩ := HA.out.at_ hlt
            have hql : q < l.length := by omega
            obtain ⟨b2, off2, rfl, u0, ⟨a5, c5, u1, hcd⟩, u2⟩ := HFA.out.at_ hql
            have hlt' : (q : Int) < (L.length : Int) := by omega
            have hql' : (q : Int) < (l.length : Int) := by omega
            have HST := Lib.hid hst
            have h6 := hst.1
            have HCD := Lib.hid hcd
            clear hst hcd
            have hF : Hid (setE l L q ≠ 0 → G = setE l L q) := fun h => by rw [hG3.out]; exact fe_at hlt hE.out h
            have hN : Hid (fe (setE l L) (q + 1) = setE l L q) := fe_next hE.out
            by_cases d1 : (st L q).length = 0
            · have e : setE l L q = 9 := by unfold setE; rw [if_pos d1]
              have hR : Hid (G = 9) := by unfold Hid; rw [hF.out (by rw [e]; decide), e]
              have d1' : ((st L q).length : Int) = 0 := by omega
              clear e d1
              go_wp2
              go_ret
              exact ⟨by rw [HGG.out, hR.out]; rfl, RW.out⟩
            have d1' : (((st L q).length : Int) == 0) = false := by rw [beq_eq_false_iff_ne]; omega
            have hSE : Hid (setE l L q = incS (inC (fd l q).cs) (st L q)) := by unfold Hid setE; rw [if_neg d1]
            clear d1
            go_wp2
            go_loop [11, 12, 48] (fun _ _ i => ∃ r : Nat, r ≤ (st L q).length ∧ i = .int .i64 r ∧ Hid (fe (stepE (inC (fd l q).cs) (st L q)) r = 0)) (fun _ _ i => (st L q).length - (intOf i).toNat)
            case atStart => exact ⟨0, Nat.zero_le _, rfl, rfl⟩
            case round =>
              obtain ⟨r, hr, rfl, hI⟩ := hrel
              by_cases hrt : r < (st L q).length
              · obtain ⟨b, off, rfl, hc⟩ := HST.out.at_ (k := r) (by exact hrt)
                have hrt' : (r : Int) < ((st L q).length : Int) := by omega
                have HC : Hid (Calls Tryd.prog 27 #[.slice a5 (fd l q).cs.length c5, .int .i64 (fn (st L q) r)] wA fun e w' => e = .returned (.bool (inC (fd l q).cs (fn (st L q) r))) ∧ w' = wA) := contains_c _ _ _ _ _ HCD.out
                have hF2 : Hid (stepE (inC (fd l q).cs) (st L q) r ≠ 0 → G = stepE (inC (fd l q).cs) (st L q) r) := fun h => by
                  have e : setE l L q = stepE (inC (fd l q).cs) (st L q) r := by rw [hSE.out]; exact fe_at hrt hI.out h
                  rw [hF.out (by rw [e]; exact h), e]
                have hN2 : Hid (fe (stepE (inC (fd l q).cs) (st L q)) (r + 1) = stepE (inC (fd l q).cs) (st L q) r) := fe_next hI.out
                by_cases h1 : inC (fd l q).cs (fn (st L q) r) = false
                · have hSt : stepE (inC (fd l q).cs) (st L q) r = 1 := by unfold stepE; rw [if_pos h1]
                  have hR : Hid (G = 1) := by unfold Hid; rw [hF2.out (by rw [hSt]; decide), hSt]
                  rw [h1] at HC
                  clear h1 hSt hF2 hN2
                  go_wp2_with fail
                  refine HC.out.mono ?_
                  rintro e w' ⟨rfl, rfl⟩
                  go_wp2
                  go_ret
                  exact ⟨by rw [HGG.out, hR.out]; rfl, RW.out⟩
                · have h1' : inC (fd l q).cs (fn (st L q) r) = true := by simpa using h1
                  rw [h1'] at HC
                  by_cases h2 : r = 0
                  · have hSt : stepE (inC (fd l q).cs) (st L q) r = 0 := by unfold stepE; rw [if_neg h1, if_neg (by omega)]
                    have hZ : Hid (fe (stepE (inC (fd l q).cs) (st L q)) (r + 1) = 0) := by unfold Hid; rw [hN2.out, hSt]
                    clear h1 h1' hSt hF2 hN2
                    subst h2
                    rw [Nat.add_zero] at hc
                    go_wp2_with fail
                    refine HC.out.mono ?_
                    rintro e w' ⟨rfl, rfl⟩
                    go_wp2
                    go_round
                    case rel => exact ⟨1, by omega, by go_num, hZ.out⟩
                    case measure => simp [intOf]; omega
                  · obtain ⟨m, rfl⟩ : ∃ m, r = m + 1 := ⟨r - 1, by omega⟩
                    have hc0 : wA.cell? ⟨b, off + m, none⟩ = some (.int .i64 (fn (st L q) m)) := by
                      obtain ⟨b', off', e, hc'⟩ := HST.out.at_ (k := m) (by omega)
                      injection e with e; injection e with e1 e2; subst e1; subst e2; exact hc'
                    have hpos : (0 : Int) < ((m + 1 : Nat) : Int) := by omega
                    have hm1 : ((m + 1 : Nat) : Int) - 1 = (m : Int) := by omega
                    have hm2 : (m : Int) < ((st L q).length : Int) := by omega
                    by_cases h3 : fn (st L q) (m + 1) ≤ fn (st L q) m
                    · have hSt : stepE (inC (fd l q).cs) (st L q) (m + 1) = 7 := by unfold stepE; rw [if_neg h1, if_pos ⟨by omega, h3⟩]
                      have hR : Hid (G = 7) := by unfold Hid; rw [hF2.out (by rw [hSt]; decide), hSt]
                      clear h1 h1' hSt hF2 hN2 h2
                      go_wp2_with fail
                      refine HC.out.mono ?_
                      rintro e w' ⟨rfl, rfl⟩
                      go_wp2
                      go_ret
                      exact ⟨by rw [HGG.out, hR.out]; rfl, RW.out⟩
                    · have hSt : stepE (inC (fd l q).cs) (st L q) (m + 1) = 0 := by unfold stepE; rw [if_neg h1, if_neg (fun h => h3 h.2)]
                      have hZ : Hid (fe (stepE (inC (fd l q).cs) (st L q)) (m + 1 + 1) = 0) := by unfold Hid; rw [hN2.out, hSt]
                      clear h1 h1' hSt hF2 hN2 h2
                      go_wp2_with fail
                      refine HC.out.mono ?_
                      rintro e w' ⟨rfl, rfl⟩
                      go_wp2
                      go_round
                      case rel => exact ⟨m + 1 + 1, by omega, by go_num, hZ.out⟩
                      case measure => simp [intOf]; omega
              · have hZ : Hid (fe (setE l L) (q + 1) = 0) := by
                  have e : r = (st L q).length := by omega
                  unfold Hid
                  rw [hN.out, hSE.out]
                  unfold incS
                  rw [← e]; exact hI.out
                have hr' : ¬ (r : Int) < ((st L q).length : Int) := by omega
                clear hrt
                go_wp2
                go_round
                case rel => exact ⟨_, _, _, _, _, .int .i64 ((q : Int) + 1), ⟨q + 1, by omega, by go_num, hZ.out⟩, rfl, rfl, rfl, rfl, rfl, rfl⟩
                case measure => simp [intOf]; omega
          · obtain rfl : q = L.length := by omega
            clear hlt
            have hR : Hid (G = 0) := by unfold Hid; rw [hG3.out]; exact hE.out
            go_wp2
            go_ret
            exact ⟨by rw [HGG.out, hR.out]; rfl, RW.out⟩
      · have hR : Hid (G = 3) := by unfold Hid; rw [hG2.out, if_pos c1]
        have c1' : ((L.length : Int) == (l.length : Int)) = false := by rw [beq_eq_false_iff_ne]; omega
        clear c1
        go_wp2
        go_ret
        exact ⟨by rw [HGG.out, hR.out]; rfl, RW.out⟩
end Go.Proofs.YtpoaikbedcfgaaaDoor
