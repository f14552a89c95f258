/-
  EditPlansMatchSpec: an edit of a plan, the reference.
  EditPlansMatchSpec: CheckPlan of the reference.
  Package edit: the reference's records.
  Package edit: the reference's Fails and Passes.
-/
import Derived.Test.YtadfmplafehjlaaDoorEP09
import Derived.StillTailTactics
import Derived.Test.YtadfmplafehjlaaDoorEP08
namespace Go.Proofs.YtadfmplafehjlaaDoor
open Go.RowKit Go.WideMaps Go.Maps

def edG (l : List Fd) (ns : Nat → ByteArray) (k : Nat) (nm : ByteArray) (L : List (List Int)) : Int := if nmE ns nm k ≠ 0 then nmE ns nm k else if L.length ≠ l.length then 3 else fe (setE l L) L.length
theorem edE_isG (l : List Fd) (E : List Ed) (k : Nat) : edE l E k = edG l (fun i => (ed E i).nm) k (ed E k).nm (ed E k).ss := rfl
set_option maxHeartbeats 4000000 in
theorem rcheckEdit_c (a : Option Addr) (ce : Nat) (E : List Ed) (af : Option Addr) (cf : Nat) (l : List Fd) (k : Nat) (nm : ByteArray) (L : List (List Int)) (a' : Option Addr) (c' : Nat) (w0 w : World) (hl : RdE w0 a E) (hf : RdF w0 af l) (hk : k ≤ E.length) (hcs : RdL w0 a' L) (hb : Below w0.heap.size w0 w) (hE : Env w0) :
    Calls Tryd.prog 56 #[.agg #[.string nm, .slice a' L.length c'], .slice a k ce, .slice af l.length cf] w (IntP (edG l (fun i => (ed E i).nm) k nm L) w) := by
  have h7 := hf.1
  have HF := Lib.hid hf
  clear hf
  have h9 := hl.1
  have h8 := hcs.1
  obtain ⟨W1, hW1⟩ : ∃ W1, w.alloc (.cells #[.string nm, .slice a' L.length c'] 43) = W1 := ⟨_, rfl⟩
  have B1 : Hid (Below w.heap.size w W1 ∧ W1.heap.size = w.heap.size + 1 ∧ W1.cell? ⟨w.heap.size, 0, none⟩ = some (.string nm) ∧ W1.cell? ⟨w.heap.size, 1, none⟩ = some (.slice a' L.length c')) := by
    unfold Hid
    rw [← hW1]
    exact ⟨bel_one _ _, by simp, by rw [World.cell?_alloc_at _ _ _ _ rfl]; rfl, by rw [World.cell?_alloc_at _ _ _ _ rfl]; rfl⟩
  have BW1 : Hid (Below w0.heap.size w0 W1) := hb.trans (B1.out.1.mono hb.size)
  have HB := Lib.hid hb
  have HNm := Lib.hid (rIsName_c nm W1 (hE.below BW1.out))
  have HL := Lib.hid hl
  have HCS := Lib.hid hcs
  have v0 := B1.out.2.2.1
  clear hl hcs hE hb
  by_cases h1 : nameS nm = false
  · have e : Hid (edG l (fun i => (ed E i).nm) k nm L = 5) := by unfold Hid edG nmE; simp [h1]
    rw [h1] at HNm
    clear h1
    go_enter Tryd.func56, Tryd.ntmps56
    go_wp2_with fail
    refine HNm.out.mono ?_
    rintro e W2 ⟨rfl, b2⟩
    have R := Lib.hid (B1.out.1.trans (b2.mono (by have := B1.out.2.1; omega)))
    clear b2 v0 hW1
    go_wp2
    go_ret
    exact ⟨by rw [e.out]; rfl, R.out⟩
  have h1' : nameS nm = true := by simpa using h1
  have HG : Hid (edG l (fun i => (ed E i).nm) k nm L = if old (fun i => (ed E i).nm) nm k = true then 6 else if L.length ≠ l.length then 3 else fe (setE l L) L.length) := by
    unfold Hid edG nmE
    rw [if_neg h1]
    by_cases ho : old (fun i => (ed E i).nm) nm k = true
    · simp [ho]
    · simp [ho]
  rw [h1'] at HNm
  clear h1 h1'
  go_enter Tryd.func56, Tryd.ntmps56
  go_wp2_with fail
  refine HNm.out.mono ?_
  rintro e W2 ⟨rfl, b2⟩
  have R : Hid (Below w.heap.size w W2) := B1.out.1.trans (b2.mono (by have := B1.out.2.1; omega))
  have X : Hid (W2.cell? ⟨w.heap.size, 0, none⟩ = some (.string nm) ∧ W2.cell? ⟨w.heap.size, 1, none⟩ = some (.slice a' L.length c') ∧ w.heap.size < W2.heap.size) :=
    ⟨(b2.cell (p := ⟨w.heap.size, 0, none⟩) (by have := B1.out.2.1; show w.heap.size < _; omega)).trans B1.out.2.2.1, (b2.cell (p := ⟨w.heap.size, 1, none⟩) (by have := B1.out.2.1; show w.heap.size < _; omega)).trans B1.out.2.2.2, by have := b2.size; have := B1.out.2.1; omega⟩
  clear b2 v0 hW1
  go_wp2
  go_loopw [19] (fun i wr => ∃ j : Nat, j ≤ k ∧ i = .int .i64 j ∧ Hid (Below W2.heap.size W2 wr ∧ old (fun i => (ed E i).nm) nm j = false)) (fun i _ => k - (intOf i).toNat)
  case atStart => exact ⟨0, Nat.zero_le _, rfl, Below.refl _ _, rfl⟩
  case round =>
    obtain ⟨j, hj, rfl, hS⟩ := hrel
    have BWr : Hid (Below w0.heap.size w0 wr) := (HB.out.trans (R.out.mono HB.out.size)).trans (hS.out.1.mono (Nat.le_trans HB.out.size R.out.size))
    have RW : Hid (Below w.heap.size w wr) := R.out.trans (hS.out.1.mono R.out.size)
    by_cases hlt : j < k
    · obtain ⟨b, off, rfl, u0, a3, c3, u1, _⟩ := (HL.out.below BWr.out).at_ (k := j) (by omega)
      have hlt' : (j : Int) < (k : Int) := by omega
      obtain ⟨W3, hW3⟩ : ∃ W3, wr.alloc (.cells #[.string (ed E j).nm, .slice a3 (ed E j).ss.length c3] 43) = W3 := ⟨_, rfl⟩
      have B3 : Hid (Below wr.heap.size wr W3) := by
        unfold Hid
        rw [← hW3]
        exact bel_one _ _
      have z0 : W3.cell? ⟨wr.heap.size, 0, none⟩ = some (.string (ed E j).nm) := by rw [← hW3, World.cell?_alloc_at _ _ _ _ rfl]; rfl
      have z1 : W3.cell? ⟨w.heap.size, 0, none⟩ = some (.string nm) := (B3.out.cell (p := ⟨w.heap.size, 0, none⟩) (by have := X.out.2.2; have := hS.out.1.size; show w.heap.size < _; omega)).trans ((hS.out.1.cell (p := ⟨w.heap.size, 0, none⟩) X.out.2.2).trans X.out.1)
      have RW3 : Hid (Below w.heap.size w W3) := RW.out.trans (B3.out.mono RW.out.size)
      by_cases he : (ed E j).nm = nm
      · have hR : Hid (edG l (fun i => (ed E i).nm) k nm L = 6) := by unfold Hid; rw [HG.out, if_pos (old_mem.2 ⟨j, hlt, he⟩)]
        rw [he] at z0 u0 hW3
        clear he
        go_wp2
        go_ret
        exact ⟨by rw [hR.out]; rfl, RW3.out⟩
      · have NX : Hid (Below W2.heap.size W2 W3 ∧ old (fun i => (ed E i).nm) nm (j + 1) = false) := ⟨hS.out.1.trans (B3.out.mono hS.out.1.size), by unfold old; rw [hS.out.2]; simpa using he⟩
        have he' := neqB he
        go_wp2
        go_roundw
        case rel => exact ⟨j + 1, by omega, by go_num, NX.out⟩
        case measure => simp [intOf]; omega
    · obtain rfl : j = k := by omega
      clear hlt
      have hG2 : Hid (edG l (fun i => (ed E i).nm) j nm L = if L.length ≠ l.length then 3 else fe (setE l L) L.length) := by unfold Hid; rw [HG.out, if_neg (by rw [hS.out.2]; simp)]
      obtain ⟨wA, hwA⟩ : ∃ x : World, x = wr := ⟨wr, rfl⟩
      subst hwA
      have y1 : wA.cell? ⟨w.heap.size, 1, none⟩ = some (.slice a' L.length c') := (hS.out.1.cell (p := ⟨w.heap.size, 1, none⟩) X.out.2.2).trans X.out.2.1
      have HA := Lib.hid (HCS.out.below BWr.out)
      have HFA := Lib.hid (HF.out.below BWr.out)
      obtain ⟨G, HGG⟩ : ∃ G, Hid (edG l (fun i => (ed E i).nm) j nm L = G) := ⟨_, rfl⟩
      have hG2 : Hid (G = if L.length ≠ l.length then 3 else fe (setE l L) L.length) := by unfold Hid; rw [← HGG.out]; exact hG2.out
      by_cases c1 : L.length = l.length
      · have c1' : (L.length : Int) = (l.length : Int) := by omega
        have hG3 : Hid (G = fe (setE l L) L.length) := by unfold Hid; rw [hG2.out, if_neg (by simpa using c1)]
        go_wp2
        go_loop [9, 10, 38] (fun _ _ i => ∃ q : Nat, q ≤ L.length ∧ i = .int .i64 q ∧ Hid (fe (setE l L) q = 0)) (fun _ _ i => L.length - (intOf i).toNat)
        case atStart => exact ⟨0, Nat.zero_le _, rfl, rfl⟩
        case round =>
          obtain ⟨q, hq, rfl, hE⟩ := hrel
          by_cases hlt : q < L.length
          · obtain ⟨b1, off1, a4, c4, rfl, u4, hst⟩ := HA.out.at_ hlt
            have hql : q < l.length := by omega
            obtain ⟨b2, off2, rfl, u0, ⟨a5, c5, u1, hcd⟩, u2⟩ := HFA.out.at_ hql
            have hlt' : (q : Int) < (L.length : Int) := by omega
            have hql' : (q : Int) < (l.length : Int) := by omega
            have HST := Lib.hid hst
            have h6 := hst.1
            have HCD := Lib.hid hcd
            clear hst hcd
            have hF : Hid (setE l L q ≠ 0 → G = setE l L q) := fun h => by rw [hG3.out]; exact fe_at hlt hE.out h
            have hN : Hid (fe (setE l L) (q + 1) = setE l L q) := fe_next hE.out
            by_cases d1 : (st L q).length = 0
            · have e : setE l L q = 9 := by unfold setE; rw [if_pos d1]
              have hR : Hid (G = 9) := by unfold Hid; rw [hF.out (by rw [e]; decide), e]
              have d1' : ((st L q).length : Int) = 0 := by omega
              clear e d1
              go_wp2
              go_ret
              exact ⟨by rw [HGG.out, hR.out]; rfl, RW.out⟩
            have d1' : (((st L q).length : Int) == 0) = false := by rw [beq_eq_false_iff_ne]; omega
            have hSE : Hid (setE l L q = incS (inC (fd l q).cs) (st L q)) := by unfold Hid setE; rw [if_neg d1]
            clear d1
            go_wp2
            go_loop [11, 12, 48] (fun _ _ i => ∃ r : Nat, r ≤ (st L q).length ∧ i = .int .i64 r ∧ Hid (fe (stepE (inC (fd l q).cs) (st L q)) r = 0)) (fun _ _ i => (st L q).length - (intOf i).toNat)
            case atStart => exact ⟨0, Nat.zero_le _, rfl, rfl⟩
            case round =>
              obtain ⟨r, hr, rfl, hI⟩ := hrel
              by_cases hrt : r < (st L q).length
              · obtain ⟨b, off, rfl, hc⟩ := HST.out.at_ (k := r) (by exact hrt)
                have hrt' : (r : Int) < ((st L q).length : Int) := by omega
                have HC : Hid (Calls Tryd.prog 16 #[.slice a5 (fd l q).cs.length c5, .int .i64 (fn (st L q) r)] wA fun e w' => e = .returned (.bool (inC (fd l q).cs (fn (st L q) r))) ∧ w' = wA) := contains_c _ _ _ _ _ HCD.out
                have hF2 : Hid (stepE (inC (fd l q).cs) (st L q) r ≠ 0 → G = stepE (inC (fd l q).cs) (st L q) r) := fun h => by
                  have e : setE l L q = stepE (inC (fd l q).cs) (st L q) r := by rw [hSE.out]; exact fe_at hrt hI.out h
                  rw [hF.out (by rw [e]; exact h), e]
                have hN2 : Hid (fe (stepE (inC (fd l q).cs) (st L q)) (r + 1) = stepE (inC (fd l q).cs) (st L q) r) := fe_next hI.out
                by_cases h1 : inC (fd l q).cs (fn (st L q) r) = false
                · have hSt : stepE (inC (fd l q).cs) (st L q) r = 1 := by unfold stepE; rw [if_pos h1]
                  have hR : Hid (G = 1) := by unfold Hid; rw [hF2.out (by rw [hSt]; decide), hSt]
                  rw [h1] at HC
                  clear h1 hSt hF2 hN2
                  go_wp2_with fail
                  refine HC.out.mono ?_
                  rintro e w' ⟨rfl, rfl⟩
                  go_wp2
                  go_ret
                  exact ⟨by rw [HGG.out, hR.out]; rfl, RW.out⟩
                · have h1' : inC (fd l q).cs (fn (st L q) r) = true := by simpa using h1
                  rw [h1'] at HC
                  by_cases h2 : r = 0
                  · have hSt : stepE (inC (fd l q).cs) (st L q) r = 0 := by unfold stepE; rw [if_neg h1, if_neg (by omega)]
                    have hZ : Hid (fe (stepE (inC (fd l q).cs) (st L q)) (r + 1) = 0) := by unfold Hid; rw [hN2.out, hSt]
                    clear h1 h1' hSt hF2 hN2
                    subst h2
                    rw [Nat.add_zero] at hc
                    go_wp2_with fail
                    refine HC.out.mono ?_
                    rintro e w' ⟨rfl, rfl⟩
                    go_wp2
                    go_round
                    case rel => exact ⟨1, by omega, by go_num, hZ.out⟩
                    case measure => simp [intOf]; omega
                  · obtain ⟨m, rfl⟩ : ∃ m, r = m + 1 := ⟨r - 1, by omega⟩
                    have hc0 : wA.cell? ⟨b, off + m, none⟩ = some (.int .i64 (fn (st L q) m)) := by
                      obtain ⟨b', off', e, hc'⟩ := HST.out.at_ (k := m) (by omega)
                      injection e with e; injection e with e1 e2; subst e1; subst e2; exact hc'
                    have hpos : (0 : Int) < ((m + 1 : Nat) : Int) := by omega
                    have hm1 : ((m + 1 : Nat) : Int) - 1 = (m : Int) := by omega
                    have hm2 : (m : Int) < ((st L q).length : Int) := by omega
                    by_cases h3 : fn (st L q) (m + 1) ≤ fn (st L q) m
                    · have hSt : stepE (inC (fd l q).cs) (st L q) (m + 1) = 7 := by unfold stepE; rw [if_neg h1, if_pos ⟨by omega, h3⟩]
                      have hR : Hid (G = 7) := by unfold Hid; rw [hF2.out (by rw [hSt]; decide), hSt]
                      clear h1 h1' hSt hF2 hN2 h2
                      go_wp2_with fail
                      refine HC.out.mono ?_
                      rintro e w' ⟨rfl, rfl⟩
                      go_wp2
                      go_ret
                      exact ⟨by rw [HGG.out, hR.out]; rfl, RW.out⟩
                    · have hSt : stepE (inC (fd l q).cs) (st L q) (m + 1) = 0 := by unfold stepE; rw [if_neg h1, if_neg (fun h => h3 h.2)]
                      have hZ : Hid (fe (stepE (inC (fd l q).cs) (st L q)) (m + 1 + 1) = 0) := by unfold Hid; rw [hN2.out, hSt]
                      clear h1 h1' hSt hF2 hN2 h2
                      go_wp2_with fail
                      refine HC.out.mono ?_
                      rintro e w' ⟨rfl, rfl⟩
                      go_wp2
                      go_round
                      case rel => exact ⟨m + 1 + 1, by omega, by go_num, hZ.out⟩
                      case measure => simp [intOf]; omega
              · have hZ : Hid (fe (setE l L) (q + 1) = 0) := by
                  have e : r = (st L q).length := by omega
                  unfold Hid
                  rw [hN.out, hSE.out]
                  unfold incS
                  rw [← e]; exact hI.out
                have hr' : ¬ (r : Int) < ((st L q).length : Int) := by omega
                clear hrt
                go_wp2
                go_round
                case rel => exact ⟨_, _, _, _, _, .int .i64 ((q : Int) + 1), ⟨q + 1, by omega, by go_num, hZ.out⟩, rfl, rfl, rfl, rfl, rfl, rfl⟩
                case measure => simp [intOf]; omega
          · obtain rfl : q = L.length := by omega
            clear hlt
            have hR : Hid (G = 0) := by unfold Hid; rw [hG3.out]; exact hE.out
            go_wp2
            go_ret
            exact ⟨by rw [HGG.out, hR.out]; rfl, RW.out⟩
      · have hR : Hid (G = 3) := by unfold Hid; rw [hG2.out, if_pos c1]
        have c1' : ((L.length : Int) == (l.length : Int)) = false := by rw [beq_eq_false_iff_ne]; omega
        clear c1
        go_wp2
        go_ret
        exact ⟨by rw [HGG.out, hR.out]; rfl, RW.out⟩
end Go.Proofs.YtadfmplafehjlaaDoor
namespace Go.Proofs.YtadfmplafehjlaaDoor
open Go.RowKit Go.WideMaps Go.Maps

/-- A region whose first operations only read, and whose others follow one another; the world under one name. -/
theorem wp_tail {P : Program} {id : Nat} {Q : Exit → Act → World → Prop} {a : Act} {w : World} {l : List Oper} (n : Nat) (hm : P.follows .mixedOrders = true) (hB : Region.lexTailB .any l.toArray n = true)
    (h : ∀ W, W = w.drew → wpStill P l.toArray W (fun a' => wpList P l.toArray Q (l.drop n) a' W) (l.take n) a) : (Code.region id l.toArray true).wp P Q a w :=
  wp_region_still_tail n hm hB (h _ rfl)
theorem fdE_zero {l : List Fd} {k : Nat} (h : fdE l k = 0) : 0 < (fd l k).cs.length ∧ (fd l k).cs.length ≤ 20 := by
  unfold fdE at h
  split at h
  · exact absurd h ‹_›
  split at h
  · exact absurd h ‹_›
  · exact codes_le (by simpa using ‹¬ codesS _ ≠ 0›)
/-- The reference's product, held at 20001. -/
def mixR (l : List Fd) : Nat → Nat
  | 0 => 1
  | k + 1 => min (mixR l k * (fd l k).cs.length) 20001
theorem mixR_is {l : List Fd} : ∀ {k : Nat}, (∀ i, i < k → 0 < (fd l i).cs.length) → mixR l k = min (mix l k) 20001
  | 0, _ => by unfold mixR mix; decide
  | k + 1, h => by
    have h1 := mixR_is (k := k) fun i hi => h i (by omega)
    have h2 := h k (by omega)
    show min (mixR l k * _) 20001 = min (mix l k * _) 20001
    rw [h1]
    by_cases e : mix l k ≤ 20001
    · rw [Nat.min_eq_left e]
    · have e1 : min (mix l k) 20001 = 20001 := Nat.min_eq_right (by omega)
      rw [e1]
      have a1 : 20001 * 1 ≤ 20001 * (fd l k).cs.length := Nat.mul_le_mul_left _ h2
      have a2 : 20001 * 1 ≤ mix l k * (fd l k).cs.length := Nat.mul_le_mul (by omega) h2
      omega
theorem mixR_le (l : List Fd) (k : Nat) : mixR l k ≤ 20001 := by
  cases k with
  | zero => unfold mixR; decide
  | succ k => exact Nat.min_le_right _ _
set_option maxRecDepth 100000 in
set_option maxHeartbeats 4000000 in
theorem rCheckPlan_c (a : Option Addr) (c : Nat) (l : List Fd) (a2 : Option Addr) (c2 : Nat) (E : List Ed) (w : World) (hl : RdF w a l) (hE : RdE w a2 E) (hEnv : Env w) (hc1 : l.length ≤ c) (hc2 : E.length ≤ c2) :
    Calls Tryd.prog 29 #[.agg #[.slice a l.length c, .slice a2 E.length c2]] w (IntP (planS l E) w) := by
  have h9 := hl.1
  have h9' := hE.1
  obtain ⟨W1, hW1⟩ : ∃ W1, w.alloc (.cells #[.slice a l.length c, .slice a2 E.length c2] 25) = W1 := ⟨_, rfl⟩
  have B1 : Hid (Below w.heap.size w W1 ∧ W1.heap.size = w.heap.size + 1 ∧ W1.cell? ⟨w.heap.size, 0, none⟩ = some (.slice a l.length c) ∧ W1.cell? ⟨w.heap.size, 1, none⟩ = some (.slice a2 E.length c2)) := by
    unfold Hid
    rw [← hW1]
    exact ⟨bel_one _ _, by simp, by rw [World.cell?_alloc_at _ _ _ _ rfl]; rfl, by rw [World.cell?_alloc_at _ _ _ _ rfl]; rfl⟩
  have HL := Lib.hid hl
  have HE := Lib.hid hE
  have HV := Lib.hid hEnv
  have v0 := B1.out.2.2.1
  clear hl hE hEnv
  by_cases h1 : l.length = 0
  · have e : Hid (planS l E = 9) := by
      have : fdsS l = 9 := by unfold fdsS; rw [if_pos h1]
      unfold Hid planS; rw [this]; rfl
    have h1' : ((l.length : Int) == 0) = true := by rw [beq_iff_eq]; omega
    clear h1
    go_enter Tryd.func29, Tryd.ntmps29
    go_wp2
    go_ret
    exact ⟨by rw [e.out]; rfl, B1.out.1⟩
  have h1' : ((l.length : Int) == 0) = false := by rw [beq_eq_false_iff_ne]; omega
  by_cases h2 : 12 < l.length
  · have e : Hid (planS l E = 2) := by
      have : fdsS l = 2 := by unfold fdsS; rw [if_neg h1, if_pos h2]
      unfold Hid planS; rw [this]; rfl
    have h2' : (12 : Int) < (l.length : Int) := by omega
    clear h1 h2
    go_enter Tryd.func29, Tryd.ntmps29
    go_wp2
    go_ret
    exact ⟨by rw [e.out]; rfl, B1.out.1⟩
  have h2' : ¬ (12 : Int) < (l.length : Int) := by omega
  have hfd : Hid (fdsS l = fe (fdE l) l.length) := by unfold Hid fdsS; rw [if_neg h1, if_neg h2]
  have hle : Hid (l.length ≤ 12) := by unfold Hid; omega
  clear h1 h2
  have X : Hid (W1.cell? ⟨w.heap.size, 0, none⟩ = some (.slice a l.length c) ∧ W1.cell? ⟨w.heap.size, 1, none⟩ = some (.slice a2 E.length c2) ∧ w.heap.size < W1.heap.size) := ⟨B1.out.2.2.1, B1.out.2.2.2, by have := B1.out.2.1; omega⟩
  go_enter Tryd.func29, Tryd.ntmps29
  go_wp2
  clear v0 hW1
  go_loopw [3, 23] (fun m i wr => ∃ k : Nat, k ≤ l.length ∧ i = .int .i64 k ∧ m = .int .i64 (mixR l k) ∧ Hid (Below W1.heap.size W1 wr ∧ fe (fdE l) k = 0)) (fun _ i _ => l.length - (intOf i).toNat)
  case atStart => exact ⟨0, Nat.zero_le _, rfl, rfl, Below.refl _ _, rfl⟩
  case round =>
    obtain ⟨k, hk, rfl, rfl, hS⟩ := hrel
    have BWr : Hid (Below w.heap.size w wr) := B1.out.1.trans (hS.out.1.mono B1.out.1.size)
    have y0 : wr.cell? ⟨w.heap.size, 0, none⟩ = some (.slice a l.length c) := (hS.out.1.cell (p := ⟨w.heap.size, 0, none⟩) X.out.2.2).trans X.out.1
    by_cases hlt : k < l.length
    · obtain ⟨b, off, rfl, hAt⟩ := HL.out.at_ hlt
      have hbl : Hid (b < w.heap.size) := by
        obtain ⟨b', off', e, hb, _⟩ := HL.out.2 (by omega)
        injection e with e; injection e with e1 e2; subst e1; exact hb
      obtain ⟨u0, ⟨a', c', u1, hcs'⟩, u2⟩ := hAt.below BWr.out hbl.out
      have HCS : Hid (Rd w a' (fd l k).cs) := by
        obtain ⟨_, ⟨a3, c3, v1, v2⟩, _⟩ := hAt
        have := BWr.out.cell (p := ⟨b, off + k * 3 + 1, none⟩) hbl.out
        rw [this, v1] at u1
        injection u1 with u1; injection u1 with u1 _ _; subst u1
        exact v2
      have h8 := hcs'.1
      clear hcs' hAt
      have hlt' : (k : Int) < (l.length : Int) := by omega
      have hkc : (k : Int) ≤ (c : Int) := by omega
      have hF : Hid (fdE l k ≠ 0 → planS l E = fdE l k) := fun h => by
        have e : fdsS l = fdE l k := by rw [hfd.out]; exact fe_at hlt hS.out.2 h
        unfold planS; rw [e, if_pos h]
      have hN : Hid (fe (fdE l) (k + 1) = fdE l k) := fe_next hS.out.2
      obtain ⟨W3, hW3⟩ : ∃ W3, wr.alloc (.cells #[.string (fd l k).nm, .slice a' (fd l k).cs.length c', .int .i64 (fd l k).wt] 39) = W3 := ⟨_, rfl⟩
      have B3 : Hid (Below wr.heap.size wr W3 ∧ W3.heap.size = wr.heap.size + 1 ∧ W3.cell? ⟨wr.heap.size, 0, none⟩ = some (.string (fd l k).nm) ∧ W3.cell? ⟨wr.heap.size, 1, none⟩ = some (.slice a' (fd l k).cs.length c') ∧ W3.cell? ⟨wr.heap.size, 2, none⟩ = some (.int .i64 (fd l k).wt)) := by
        unfold Hid
        rw [← hW3]
        exact ⟨bel_one _ _, by simp, by rw [World.cell?_alloc_at _ _ _ _ rfl]; rfl, by rw [World.cell?_alloc_at _ _ _ _ rfl]; rfl, by rw [World.cell?_alloc_at _ _ _ _ rfl]; rfl⟩
      have BW3 : Hid (Below w.heap.size w W3) := BWr.out.trans (B3.out.1.mono BWr.out.size)
      have V3 : Hid (W3.cell? ⟨w.heap.size, 0, none⟩ = some (.slice (some ⟨b, off, none⟩) l.length c)) := (B3.out.1.cell (p := ⟨w.heap.size, 0, none⟩) (by have := X.out.2.2; have := hS.out.1.size; show w.heap.size < _; omega)).trans y0
      go_wp2_with fail
      refine wp_tail 5 (by kernel_rfl) (by kernel_rfl) ?_
      intro W4 hW4
      have D4 : Hid (Below W3.heap.size W3 W4) := by unfold Hid; rw [hW4]; exact (Below.refl _ _).drew
      have BW4 : Hid (Below w.heap.size w W4) := BW3.out.trans (D4.out.mono BW3.out.size)
      have lt3 : Hid (wr.heap.size < W3.heap.size) := by have := B3.out.2.1; unfold Hid; omega
      have lt0 : Hid (w.heap.size < W3.heap.size) := by have := X.out.2.2; have := hS.out.1.size; have := lt3.out; unfold Hid; omega
      have v0 := (D4.out.cell (p := ⟨wr.heap.size, 0, none⟩) lt3.out).trans B3.out.2.2.1
      have v1 := (D4.out.cell (p := ⟨wr.heap.size, 1, none⟩) lt3.out).trans B3.out.2.2.2.1
      have v2 := (D4.out.cell (p := ⟨wr.heap.size, 2, none⟩) lt3.out).trans B3.out.2.2.2.2
      have v3 := (D4.out.cell (p := ⟨w.heap.size, 0, none⟩) lt0.out).trans V3.out
      have V1 := Lib.hid v1
      have HK : Hid (Calls Tryd.prog 55 #[.agg #[.string (fd l k).nm, .slice a' (fd l k).cs.length c', .int .i64 (fd l k).wt], .slice (some ⟨b, off, none⟩) k c] W4 (IntP (fdE l k) W4)) := by
        rw [fdE_is]
        exact rcheckField_c (some ⟨b, off, none⟩) c l k _ _ _ a' c' w W4 HL.out (by omega) HCS.out BW4.out HV.out
      have H9 := Lib.hid (And.intro h9 (And.intro h9' h8))
      clear hW4 hW3 y0 u0 u1 u2 h9 h9' h8
      simp only [List.take_succ_cons, List.take_zero, List.drop_succ_cons, List.drop_zero]
      repeat still_step
      refine wpStill_nil ?_
      clear v0 v1 v2 v3
      have h8 := H9.out.2.2
      have h9 := H9.out.1
      have h9' := H9.out.2.1
      go_wp2_with fail
      refine HK.out.mono ?_
      rintro e W5 ⟨rfl, b5⟩
      have BW5 : Hid (Below w.heap.size w W5) := BW4.out.trans (b5.mono BW4.out.size)
      have S5 : Hid (Below W1.heap.size W1 W5) := (hS.out.1.trans (B3.out.1.mono hS.out.1.size)).trans ((D4.out.mono (by have := hS.out.1.size; have := lt3.out; omega)).trans (b5.mono (by have := hS.out.1.size; have := lt3.out; have := D4.out.size; omega)))
      have x1 : W5.cell? ⟨wr.heap.size, 1, none⟩ = some (.slice a' (fd l k).cs.length c') := (b5.cell (p := ⟨wr.heap.size, 1, none⟩) (Nat.lt_of_lt_of_le lt3.out D4.out.size)).trans V1.out
      clear b5
      by_cases hc : fdE l k = 0
      · have hz := fdE_zero hc
        have hmr := mixR_le l k
        have NX : Hid (Below W1.heap.size W1 W5 ∧ fe (fdE l) (k + 1) = 0) := ⟨S5.out, by rw [hN.out, hc]⟩
        have HMX : Hid (mixR l (k + 1) = min (mixR l k * (fd l k).cs.length) 20001) := rfl
        rw [hc]
        have hmu : mixR l k * (fd l k).cs.length ≤ 20001 * 20 := Nat.mul_le_mul hmr hz.2
        obtain ⟨M, hM⟩ : ∃ M, mixR l k * (fd l k).cs.length = M := ⟨_, rfl⟩
        have HM := Lib.hid hM
        have hmul : (mixR l k : Int) * ((fd l k).cs.length : Int) = (M : Int) := by rw [← hM]; simp
        rw [hM] at hmu
        clear hM hc
        go_wp2
        go_roundw
        case rel => exact ⟨k + 1, by omega, by go_num, by rw [HMX.out, HM.out]; exact congrArg (Value.int .i64) (by omega), NX.out⟩
        case measure => simp [intOf]; omega
      · have hR := Lib.hid (hF.out hc)
        have hc' : (fdE l k == 0) = false := by rw [beq_eq_false_iff_ne]; exact hc
        clear hc
        generalize fdE l k = ch at *
        go_wp2
        go_ret
        exact ⟨by rw [hR.out]; rfl, BW5.out⟩
    · obtain rfl : k = l.length := by omega
      clear hlt
      obtain ⟨wA, hwA⟩ : ∃ x : World, x = wr := ⟨wr, rfl⟩
      subst hwA
      have hf0 : fdsS l = 0 := by rw [hfd.out]; exact hS.out.2
      have hpos := (fds_codes hf0).2.2
      have hmx := mixR_is (l := l) (k := l.length) fun i hi => (hpos i hi).1
      have HP : Hid (planS l E = if 20000 < mix l l.length then 2 else if 60 < E.length then 2 else fe (edE l E) E.length) := by unfold Hid planS; rw [if_neg (by simpa using hf0)]
      clear hpos hf0
      have y1 : wA.cell? ⟨w.heap.size, 1, none⟩ = some (.slice a2 E.length c2) := (hS.out.1.cell (p := ⟨w.heap.size, 1, none⟩) X.out.2.2).trans X.out.2.1
      have hsz : Hid (w.heap.size < wA.heap.size) := Nat.lt_of_lt_of_le X.out.2.2 hS.out.1.size
      by_cases hm : 20000 < mix l l.length
      · have hR : Hid (planS l E = 2) := by unfold Hid; rw [HP.out, if_pos hm]
        have hm' : (20000 : Int) < (mixR l l.length : Int) := by omega
        clear hm hmx
        go_wp2
        go_ret
        exact ⟨by rw [hR.out]; rfl, BWr.out⟩
      have hm' : ¬ (20000 : Int) < (mixR l l.length : Int) := by omega
      by_cases h60 : 60 < E.length
      · have hR : Hid (planS l E = 2) := by unfold Hid; rw [HP.out, if_neg hm, if_pos h60]
        have h60' : (60 : Int) < (E.length : Int) := by omega
        clear hm h60 hmx
        go_wp2
        go_ret
        exact ⟨by rw [hR.out]; rfl, BWr.out⟩
      have hP2 : Hid (planS l E = fe (edE l E) E.length) := by unfold Hid; rw [HP.out, if_neg hm, if_neg h60]
      have h60' : ¬ (60 : Int) < (E.length : Int) := by omega
      have Y := Lib.hid (And.intro y0 y1)
      clear hm h60 hmx
      go_wp2
      clear y0 y1
      go_loopw [55] (fun i wq => ∃ m : Nat, m ≤ E.length ∧ i = .int .i64 m ∧ Hid (Below wA.heap.size wA wq ∧ fe (edE l E) m = 0)) (fun i _ => E.length - (intOf i).toNat)
      case atStart => exact ⟨0, Nat.zero_le _, rfl, Below.refl _ _, rfl⟩
      case round =>
        obtain ⟨m, hm, rfl, hQ⟩ := hrel
        have BWq : Hid (Below w.heap.size w wr) := BWr.out.trans (hQ.out.1.mono BWr.out.size)
        by_cases hlt : m < E.length
        · obtain ⟨b, off, rfl, hAt⟩ := HE.out.at_ hlt
          have hbl : Hid (b < w.heap.size) := by
            obtain ⟨b', off', e, hb, _⟩ := HE.out.2 (by omega)
            injection e with e; injection e with e1 e2; subst e1; exact hb
          obtain ⟨u0, a', c', u1, hLL⟩ := hAt.below BWq.out hbl.out
          have HLL := Lib.hid (RdL.anew hAt BWq.out hbl.out u1)
          clear hLL hAt
          have hlt' : (m : Int) < (E.length : Int) := by omega
          have hkc : (m : Int) ≤ (c2 : Int) := by omega
          have hF : Hid (edE l E m ≠ 0 → planS l E = edE l E m) := fun h => by rw [hP2.out]; exact fe_at hlt hQ.out.2 h
          have hN : Hid (fe (edE l E) (m + 1) = edE l E m) := fe_next hQ.out.2
          obtain ⟨W3, hW3⟩ : ∃ W3, wr.alloc (.cells #[.string (ed E m).nm, .slice a' (ed E m).ss.length c'] 43) = W3 := ⟨_, rfl⟩
          have B3 : Hid (Below wr.heap.size wr W3 ∧ W3.heap.size = wr.heap.size + 1 ∧ W3.cell? ⟨wr.heap.size, 0, none⟩ = some (.string (ed E m).nm) ∧ W3.cell? ⟨wr.heap.size, 1, none⟩ = some (.slice a' (ed E m).ss.length c')) := by
            unfold Hid
            rw [← hW3]
            exact ⟨bel_one _ _, by simp, by rw [World.cell?_alloc_at _ _ _ _ rfl]; rfl, by rw [World.cell?_alloc_at _ _ _ _ rfl]; rfl⟩
          have BW3 : Hid (Below w.heap.size w W3) := BWq.out.trans (B3.out.1.mono BWq.out.size)
          have lt3 : Hid (wr.heap.size < W3.heap.size) := by have := B3.out.2.1; unfold Hid; omega
          have ltr : Hid (w.heap.size < wr.heap.size) := by have := hsz.out; have := hQ.out.1.size; unfold Hid; omega
          have lt0 : Hid (w.heap.size < W3.heap.size) := by have := ltr.out; have := lt3.out; unfold Hid; omega
          have V3 : Hid (W3.cell? ⟨w.heap.size, 0, none⟩ = some (.slice a l.length c) ∧ W3.cell? ⟨w.heap.size, 1, none⟩ = some (.slice (some ⟨b, off, none⟩) E.length c2)) :=
            ⟨(B3.out.1.cell (p := ⟨w.heap.size, 0, none⟩) ltr.out).trans ((hQ.out.1.cell (p := ⟨w.heap.size, 0, none⟩) hsz.out).trans Y.out.1), (B3.out.1.cell (p := ⟨w.heap.size, 1, none⟩) ltr.out).trans ((hQ.out.1.cell (p := ⟨w.heap.size, 1, none⟩) hsz.out).trans Y.out.2)⟩
          go_wp2_with fail
          refine wp_tail 7 (by kernel_rfl) (by kernel_rfl) ?_
          intro W4 hW4
          have D4 : Hid (Below W3.heap.size W3 W4) := by unfold Hid; rw [hW4]; exact (Below.refl _ _).drew
          have BW4 : Hid (Below w.heap.size w W4) := BW3.out.trans (D4.out.mono BW3.out.size)
          have v0 := (D4.out.cell (p := ⟨wr.heap.size, 0, none⟩) lt3.out).trans B3.out.2.2.1
          have v1 := (D4.out.cell (p := ⟨wr.heap.size, 1, none⟩) lt3.out).trans B3.out.2.2.2
          have v2 := (D4.out.cell (p := ⟨w.heap.size, 0, none⟩) lt0.out).trans V3.out.1
          have v3 := (D4.out.cell (p := ⟨w.heap.size, 1, none⟩) lt0.out).trans V3.out.2
          have HK : Hid (Calls Tryd.prog 56 #[.agg #[.string (ed E m).nm, .slice a' (ed E m).ss.length c'], .slice (some ⟨b, off, none⟩) m c2, .slice a l.length c] W4 (IntP (edE l E m) W4)) := by
            rw [edE_isG]
            exact rcheckEdit_c (some ⟨b, off, none⟩) c2 E a c l m _ _ a' c' w W4 HE.out HL.out (by omega) HLL.out BW4.out HV.out
          clear hW4 hW3 u0 u1
          simp only [List.take_succ_cons, List.take_zero, List.drop_succ_cons, List.drop_zero]
          repeat still_step
          refine wpStill_nil ?_
          clear v0 v1 v2 v3
          go_wp2_with fail
          refine HK.out.mono ?_
          rintro e W5 ⟨rfl, b5⟩
          have BW5 : Hid (Below w.heap.size w W5) := BW4.out.trans (b5.mono BW4.out.size)
          have S5 : Hid (Below wA.heap.size wA W5) := (hQ.out.1.trans (B3.out.1.mono hQ.out.1.size)).trans ((D4.out.mono (by have := hQ.out.1.size; have := lt3.out; omega)).trans (b5.mono (by have := hQ.out.1.size; have := lt3.out; have := D4.out.size; omega)))
          clear b5
          by_cases hc : edE l E m = 0
          · have NX : Hid (Below wA.heap.size wA W5 ∧ fe (edE l E) (m + 1) = 0) := ⟨S5.out, by rw [hN.out, hc]⟩
            rw [hc]
            clear hc
            go_wp2
            go_roundw
            case rel => exact ⟨m + 1, by omega, by go_num, NX.out⟩
            case measure => simp [intOf]; omega
          · have hR := Lib.hid (hF.out hc)
            have hc' : (edE l E m == 0) = false := by rw [beq_eq_false_iff_ne]; exact hc
            clear hc
            generalize edE l E m = ch at *
            go_wp2
            go_ret
            exact ⟨by rw [hR.out]; rfl, BW5.out⟩
        · obtain rfl : m = E.length := by omega
          clear hlt
          have hR : Hid (planS l E = 0) := by unfold Hid; rw [hP2.out]; exact hQ.out.2
          go_wp2
          go_ret
          exact ⟨by rw [hR.out]; rfl, BWq.out⟩
end Go.Proofs.YtadfmplafehjlaaDoor
namespace Go.Proofs.YtadfmplafehjlaaDoor
open Go.RowKit Go.WideMaps Go.Maps

theorem lst_succ (p : Nat → Bool) (n : Nat) : lst p (n + 1) = lst p n ++ (if p n = true then [n] else []) := by
  unfold lst
  rw [List.range_succ, List.filter_append]
  congr 1
  cases e : p n <;> simp [e]
theorem rwithin_c (n lo hi : Int) (w : World) : Calls Tryd.prog 35 #[.int .i64 n, .int .i64 lo, .int .i64 hi] w fun e w' => e = .returned (.bool (decide (lo ≤ n) && decide (n ≤ hi))) ∧ w = w' := by
  obtain ⟨q, hq⟩ : ∃ q, (decide (lo ≤ n) && decide (n ≤ hi)) = q := ⟨_, rfl⟩
  rw [hq]
  have HQ := Lib.hid hq
  clear hq
  by_cases h0 : lo ≤ n
  · by_cases h1 : n ≤ hi
    · have e : Hid (q = true) := by unfold Hid; rw [← HQ.out, decide_eq_true h0, decide_eq_true h1]; rfl
      go_enter Tryd.func35, Tryd.ntmps35
      go_wp2
      go_ret
      exact ⟨by rw [e.out]; rfl, rfl⟩
    · have e : Hid (q = false) := by unfold Hid; rw [← HQ.out, decide_eq_true h0, decide_eq_false h1]; rfl
      go_enter Tryd.func35, Tryd.ntmps35
      go_wp2
      go_ret
      exact ⟨by rw [e.out]; rfl, rfl⟩
  · have e : Hid (q = false) := by unfold Hid; rw [← HQ.out, decide_eq_false h0]; rfl
    go_enter Tryd.func35, Tryd.ntmps35
    go_wp2
    go_ret
    exact ⟨by rw [e.out]; rfl, rfl⟩
def IvP (v : Value) (w : World) (e : Ending) (w' : World) : Prop := e = .returned v ∧ Below w.heap.size w w'
set_option maxRecDepth 100000 in
set_option maxHeartbeats 4000000 in
theorem rcheckRec_c (af : Option Addr) (cf : Nat) (n : Nat) (a2 : Option Addr) (m c2 : Nat) (a : Option Addr) (c : Nat) (r : List Int) (w : World) (hn : n ≤ 9223372036854775807) (hr : Rd w a r) :
    Calls Tryd.prog 30 #[.agg #[.slice af n cf, .slice a2 m c2], .slice a r.length c] w (IvP (.int .i64 (recE n r)) w) := by
  obtain ⟨W1, hW1⟩ : ∃ W, w.alloc (.cells #[.slice af n cf, .slice a2 m c2] 25) = W := ⟨_, rfl⟩
  have b1 : Below w.heap.size w W1 := by rw [← hW1]; exact bel_one _ _
  have B1 := Lib.hid b1
  have x0 : W1.cell? ⟨w.heap.size, 0, none⟩ = some (.slice af n cf) := by rw [← hW1, World.cell?_alloc_new]; rfl
  have HR := Lib.hid (hr.below b1)
  obtain ⟨k, hk⟩ : ∃ k, r.length = k := ⟨_, rfl⟩
  have HK := Lib.hid hk
  obtain ⟨f, hf⟩ : ∃ f, recE n r = f := ⟨_, rfl⟩
  have HF := Lib.hid hf
  have k64 : k ≤ 9223372036854775807 := by rw [← hk]; exact hr.1
  rw [hf, hk]
  clear hr b1 hf hk
  by_cases h1 : k = n
  · subst h1
    have HF2 : Hid ((if al (okN r) k = true then 0 else 1) = f) := by
      have := HF.out
      unfold recE at this
      rw [if_neg (by rw [HK.out]; simp), HK.out] at this
      exact this
    clear HF
    go_enter Tryd.func30, Tryd.ntmps30
    go_wp2_with fail
    clear hW1 x0
    go_loopw [6, 15] (fun _ iv wr => ∃ j : Nat, iv = .int .i64 j ∧ Hid (j ≤ k ∧ al (okN r) j = true ∧ W1 = wr)) (fun _ iv _ => k - (intOf iv).toNat)
    case atStart => exact ⟨0, rfl, Nat.zero_le _, rfl, rfl⟩
    case round =>
      obtain ⟨j, rfl, hS⟩ := hrel
      have RB : Hid (Below w.heap.size w wr) := by unfold Hid; rw [← hS.out.2.2]; exact B1.out
      by_cases hlt : j < k
      · have hlt' : (j : Int) < (k : Int) := by omega
        have hjr : j < r.length := by rw [HK.out]; exact hlt
        obtain ⟨b, off, rfl, _, hc⟩ := HR.out.2 (by omega)
        have c0 := hc j hjr
        rw [hS.out.2.2] at c0
        obtain ⟨x, hx⟩ : ∃ x, fn r j = x := ⟨_, rfl⟩
        rw [hx] at c0
        obtain ⟨q, hq⟩ : ∃ q, (decide (0 ≤ x) && decide (x ≤ 999)) = q := ⟨_, rfl⟩
        have HX : Hid (okN r j = q) := by unfold Hid okN; rw [hx]; exact hq
        have C := rwithin_c x 0 999 wr
        rw [hq] at C
        have C := Lib.hid C
        clear hx hq hc
        cases q with
        | true =>
          have NX : Hid (j + 1 ≤ k ∧ al (okN r) (j + 1) = true ∧ W1 = wr) := by
            refine ⟨hlt, ?_, hS.out.2.2⟩
            show (al _ j && _) = true
            rw [hS.out.2.1, Bool.true_and, HX.out]
          go_wp2_with fail
          refine C.out.mono ?_
          rintro e w4 ⟨rfl, rfl⟩
          go_wp2
          go_roundw
          case rel => exact ⟨j + 1, by go_num, NX.out⟩
          case measure => simp [intOf]; omega
        | false =>
          have PP : Hid (f = 1) := by
            unfold Hid
            rw [← HF2.out, if_neg]
            intro e
            have := al_iff.1 e j hlt
            rw [HX.out] at this; cases this
          go_wp2_with fail
          refine C.out.mono ?_
          rintro e w4 ⟨rfl, rfl⟩
          go_wp2
          go_ret
          exact ⟨by rw [PP.out]; rfl, RB.out⟩
      · have hlt' : ¬ (j : Int) < (k : Int) := by omega
        have PP : Hid (f = 0) := by
          have e : j = k := by have := hS.out.1; omega
          unfold Hid
          rw [← HF2.out, if_pos (by rw [← e]; exact hS.out.2.1)]
        clear hlt
        go_wp2
        go_ret
        exact ⟨by rw [PP.out]; rfl, RB.out⟩
  · have e : f = 3 := by
      rw [← HF.out]; unfold recE; rw [if_pos (by rw [HK.out]; exact h1)]
    subst e
    have e1 : ((k : Int) != (n : Int)) = true := by simp; omega
    go_enter Tryd.func30, Tryd.ntmps30
    go_wp2_with fail
    go_ret
    exact ⟨rfl, B1.out⟩
def atAll (L : List (List Int)) (r : List Int) (j : Nat) : Bool := inC (st L j) (fn r j)
set_option maxRecDepth 100000 in
set_option maxHeartbeats 4000000 in
theorem rfails_c (nm : ByteArray) (sa : Option Addr) (sc : Nat) (L : List (List Int)) (a : Option Addr) (c : Nat) (r : List Int) (w : World) (hL : RdL w sa L) (hr : Rd w a r) (hlen : L.length ≤ r.length) :
    Calls Tryd.prog 57 #[.agg #[.string nm, .slice sa L.length sc], .slice a r.length c] w (IvP (.bool (al (atAll L r) L.length)) w) := by
  obtain ⟨W1, hW1⟩ : ∃ W, w.alloc (.cells #[.string nm, .slice sa L.length sc] 43) = W := ⟨_, rfl⟩
  have b1 : Below w.heap.size w W1 := by rw [← hW1]; exact bel_one _ _
  have B1 := Lib.hid b1
  have x1 : W1.cell? ⟨w.heap.size, 1, none⟩ = some (.slice sa L.length sc) := by rw [← hW1, World.cell?_alloc_new]; rfl
  have HR := Lib.hid (hr.below b1)
  have HL := Lib.hid (hL.below b1)
  obtain ⟨n, hn⟩ : ∃ k, r.length = k := ⟨_, rfl⟩
  obtain ⟨k, hk⟩ : ∃ k, L.length = k := ⟨_, rfl⟩
  have HK := Lib.hid hk
  have HN := Lib.hid hn
  have k64 : k ≤ 9223372036854775807 := by rw [← hk]; exact hL.1
  have hkn : k ≤ n := by omega
  rw [hk] at x1 hW1
  rw [hk, hn]
  obtain ⟨R, hR⟩ : ∃ R, al (atAll L r) k = R := ⟨_, rfl⟩
  have HRR := Lib.hid hR
  rw [hR]
  clear hr hL b1 hk hn hlen hR
  go_enter Tryd.func57, Tryd.ntmps57
  go_wp2_with fail
  clear hW1 x1
  go_loopw [5, 6, 10] (fun _ _ iv wr => ∃ j : Nat, iv = .int .i64 j ∧ Hid (j ≤ k ∧ al (atAll L r) j = true ∧ W1 = wr)) (fun _ _ iv _ => k - (intOf iv).toNat)
  case atStart => exact ⟨0, rfl, Nat.zero_le _, rfl, rfl⟩
  case round =>
    obtain ⟨j, rfl, hS⟩ := hrel
    have RB : Hid (Below w.heap.size w wr) := by unfold Hid; rw [← hS.out.2.2]; exact B1.out
    by_cases hlt : j < k
    · have hlt' : (j : Int) < (k : Int) := by omega
      have hltn : (j : Int) < (n : Int) := by omega
      have hj0 : (0 : Int) ≤ (j : Int) := by omega
      obtain ⟨b, off, rfl, _, hc⟩ := HR.out.2 (by rw [HN.out]; omega)
      have c0 := hc j (by rw [HN.out]; omega)
      obtain ⟨b2, off2, a', c', rfl, d0, hrd⟩ := HL.out.at_ (k := j) (by rw [HK.out]; exact hlt)
      rw [hS.out.2.2] at c0 d0 hrd
      obtain ⟨x, hx⟩ : ∃ x, fn r j = x := ⟨_, rfl⟩
      rw [hx] at c0
      obtain ⟨q, hq⟩ : ∃ q, inC (st L j) x = q := ⟨_, rfl⟩
      have HX : Hid (atAll L r j = q) := by unfold Hid atAll; rw [hx]; exact hq
      have C := contains_c a' c' (st L j) x wr hrd
      rw [hq] at C
      obtain ⟨y, hy⟩ : ∃ y, (st L j).length = y := ⟨_, rfl⟩
      rw [hy] at C d0
      have C := Lib.hid C
      clear hx hq hc hrd hy
      cases q with
      | true =>
        have NX : Hid (j + 1 ≤ k ∧ al (atAll L r) (j + 1) = true ∧ W1 = wr) := by
          refine ⟨hlt, ?_, hS.out.2.2⟩
          show (al _ j && _) = true
          rw [hS.out.2.1, Bool.true_and, HX.out]
        go_wp2_with fail
        refine C.out.mono ?_
        rintro e w4 ⟨rfl, rfl⟩
        go_wp2
        go_roundw
        case rel => exact ⟨j + 1, by go_num, NX.out⟩
        case measure => simp [intOf]; omega
      | false =>
        have PP : Hid (R = false) := by
          unfold Hid
          cases q : R with
          | false => rfl
          | true =>
            have := al_iff.1 (HRR.out.trans q) j hlt
            rw [HX.out] at this; cases this
        go_wp2_with fail
        refine C.out.mono ?_
        rintro e w4 ⟨rfl, rfl⟩
        go_wp2
        go_ret
        exact ⟨by rw [PP.out]; rfl, RB.out⟩
    · have hlt' : ¬ (j : Int) < (k : Int) := by omega
      have PP : Hid (R = true) := by
        have e : j = k := by have := hS.out.1; omega
        unfold Hid
        rw [← HRR.out, ← e]; exact hS.out.2.1
      clear hlt
      go_wp2
      go_ret
      exact ⟨by rw [PP.out]; rfl, RB.out⟩
end Go.Proofs.YtadfmplafehjlaaDoor
namespace Go.Proofs.YtadfmplafehjlaaDoor
open Go.RowKit Go.WideMaps Go.Maps

set_option maxRecDepth 100000 in
set_option maxHeartbeats 4000000 in
theorem rfailed_c (af : Option Addr) (n cf : Nat) (a2 : Option Addr) (c2 : Nat) (E : List Ed) (a : Option Addr) (c : Nat) (r : List Int) (w : World) (hE : RdE w a2 E) (hr : Rd w a r) (h60 : E.length ≤ 60) (hsl : ∀ n, n < E.length → (ed E n).ss.length = r.length) :
    Calls Tryd.prog 31 #[.agg #[.slice af n cf, .slice a2 E.length c2], .slice a r.length c] w (NuP (toI (flL E r)) w) := by
  obtain ⟨i0, hi, hz0, hz1, hz2⟩ := info_parts infoIn
  obtain ⟨W1, hW1⟩ : ∃ W, w.alloc (.cells #[.slice af n cf, .slice a2 E.length c2] 25) = W := ⟨_, rfl⟩
  have b1 : Below w.heap.size w W1 := by rw [← hW1]; exact bel_one _ _
  have B1 := Lib.hid b1
  have x1 : W1.cell? ⟨w.heap.size, 1, none⟩ = some (.slice a2 E.length c2) := by rw [← hW1, World.cell?_alloc_new]; rfl
  have HR := Lib.hid hr
  have HE := Lib.hid hE
  have HSL := Lib.hid hsl
  obtain ⟨m, hm⟩ : ∃ k, E.length = k := ⟨_, rfl⟩
  obtain ⟨k0, hk⟩ : ∃ k, r.length = k := ⟨_, rfl⟩
  have HM := Lib.hid hm
  have HK := Lib.hid hk
  have m64 : m ≤ 60 := by rw [← hm]; exact h60
  rw [hm] at x1 hW1
  rw [hm, hk]
  clear hr hE b1 hm hk hsl h60
  go_enter Tryd.func31, Tryd.ntmps31
  go_wp2_with fail
  clear hW1 x1
  go_loopw [5, 6, 7, 11] (fun ov _ _ iv wr => ∃ j : Nat, iv = .int .i64 j ∧ Hid (j ≤ m ∧ wr.ownsRow w.heap.size 3 1 ov (toI (lst (flB E r) j)).length ((toI (lst (flB E r) j)).map (Value.int .i64)) ∧ Below w.heap.size w wr)) (fun _ _ _ iv _ => m - (intOf iv).toNat)
  case atStart => exact ⟨0, rfl, Nat.zero_le _, World.ownsRow_nil _ _ _ _, B1.out⟩
  case round =>
    obtain ⟨j, rfl, hS⟩ := hrel
    obtain ⟨hj, hown, hbel⟩ := hS.out
    have HB := Lib.hid hbel
    have HO := Lib.hid hown
    by_cases hlt : j < m
    · have hlt' : (j : Int) < (m : Int) := by omega
      obtain ⟨eb, eo, rfl, u0, sa, sc, u1, hrd⟩ := (HE.out.below hbel).at_ (k := j) (by rw [HM.out]; exact hlt)
      obtain ⟨nm, hnm⟩ : ∃ m, (ed E j).nm = m := ⟨_, rfl⟩
      obtain ⟨L, hL⟩ : ∃ m, (ed E j).ss.length = m := ⟨_, rfl⟩
      have hLk : L = k0 := by rw [← hL, HSL.out j (by rw [HM.out]; exact hlt), HK.out]
      obtain ⟨w3, hw3⟩ : ∃ W, wr.alloc (.cells #[.string nm, .slice sa L sc] 43) = W := ⟨_, rfl⟩
      have b3 : Below wr.heap.size wr w3 := by rw [← hw3]; exact bel_one _ _
      have d0 : w3.cell? ⟨wr.heap.size, 0, none⟩ = some (.string nm) := by rw [← hw3, World.cell?_alloc_new]; rfl
      have d1 : w3.cell? ⟨wr.heap.size, 1, none⟩ = some (.slice sa L sc) := by rw [← hw3, World.cell?_alloc_new]; rfl
      have BW3 : Hid (Below w.heap.size w w3) := hbel.trans (b3.mono hbel.size)
      have C := rfails_c nm sa sc (ed E j).ss a c r w3 (hrd.below b3) (HR.out.below BW3.out) (by rw [hL, hLk, HK.out]; exact Nat.le_refl _)
      have OW3 := Lib.hid (keep_own hown b3)
      obtain ⟨q, hq⟩ : ∃ q, flB E r j = q := ⟨_, rfl⟩
      have HQ := Lib.hid hq
      have hq2 : al (atAll (ed E j).ss r) (ed E j).ss.length = q := hq
      rw [hq2, hL, HK.out] at C
      rw [hnm] at u0
      rw [hL] at u1
      have C := Lib.hid C
      unfold IvP at C
      have HL : Hid (lst (flB E r) (j + 1) = lst (flB E r) j ++ (if q = true then [j] else [])) := by
        unfold Hid; rw [lst_succ, hq]
      have hlen : (toI (lst (flB E r) j)).length ≤ 64 := by rw [toI_len]; have := lst_len (flB E r) j; omega
      have HLn := Lib.hid hlen
      clear hS hown hbel hq hq2 hL hnm b3 hrd hLk hlen
      cases q with
      | true =>
        go_wp2_with fail
        refine C.out.mono ?_
        rintro e w4 ⟨rfl, b4⟩
        have BW4 : Hid (Below w.heap.size w w4) := BW3.out.trans (b4.mono BW3.out.size)
        have OW4 := Lib.hid (keep_own OW3.out b4)
        have hd1 : (toI (lst (flB E r) j)).length + 1 ≤ maxLen := by have := HLn.out; unfold maxLen; omega
        have hd2 : ((toI (lst (flB E r) j)).length + 1) * 8 ≤ 140737488355328 := by have := HLn.out; omega
        have hd3 : w.heap.size ≤ (w4.alloc (.cells #[.int .i64 j] 3)).heap.size := by have := BW4.out.size; simp; omega
        clear b4 d0 d1 u0 u1 hw3
        go_wp2_with (at_builtin; refine wpList_append_own _ rfl _ _ 26 rfl w.heap.size 3 i0 (.int .i64 0) 1 8 Tryd.underlying26 hi hz0 hz1 hz2 rfl (by decide) _ _ _ rfl (OW4.out.alloc _) ⟨w4.heap.size, 0, none⟩ 1 1 [.int .i64 j] rfl rfl (cell_one_new _ _ _) (by simp [Value.oneCell']) hd1 hd2 hd3 ?_)
        intro v7 w8 hown7 hgrow7 _
        have NX : Hid (j + 1 ≤ m ∧ w8.ownsRow w.heap.size 3 1 v7 (toI (lst (flB E r) (j + 1))).length ((toI (lst (flB E r) (j + 1))).map (Value.int .i64)) ∧ Below w.heap.size w w8) := by
          refine ⟨hlt, ?_, (BW4.out.alloc BW4.out.size _).grown hgrow7 hd3 (fun u e => (OW4.out.lt u e).1)⟩
          have e : toI (lst (flB E r) (j + 1)) = toI (lst (flB E r) j) ++ [(j : Int)] := by rw [HL.out]; simp [toI]
          rw [e, List.length_append, List.map_append]; exact hown7
        clear hown7 hgrow7 hd1 hd2 hd3
        go_wp2
        go_roundw
        case rel => exact ⟨j + 1, by go_num, NX.out⟩
        case measure => simp [intOf]; omega
      | false =>
        go_wp2_with fail
        refine C.out.mono ?_
        rintro e w4 ⟨rfl, b4⟩
        have NX : Hid (j + 1 ≤ m ∧ w4.ownsRow w.heap.size 3 1 u5 (toI (lst (flB E r) (j + 1))).length ((toI (lst (flB E r) (j + 1))).map (Value.int .i64)) ∧ Below w.heap.size w w4) := by
          refine ⟨hlt, ?_, BW3.out.trans (b4.mono BW3.out.size)⟩
          rw [HL.out, if_neg (by simp), List.append_nil]
          exact keep_own OW3.out b4
        clear b4 d0 d1 u0 u1 hw3
        go_wp2
        go_roundw
        case rel => exact ⟨j + 1, by go_num, NX.out⟩
        case measure => simp [intOf]; omega
    · have hlt' : ¬ (j : Int) < (m : Int) := by omega
      have e : j = E.length := by rw [HM.out]; omega
      have PP : Hid (NuP (toI (flL E r)) w (.returned u5) wr) := by
        refine ⟨_, rfl, ?_, hbel⟩
        rw [e] at hown; exact hown
      clear hlt hown hbel hS
      go_wp2
      go_ret
      exact PP.out
theorem al_nil {p : Nat → Bool} {n : Nat} : (lst p n).length = 0 ↔ al (fun j => !p j) n = true := by
  rw [List.length_eq_zero_iff]
  unfold lst
  rw [List.filter_eq_nil_iff, al_iff]
  simp
set_option maxRecDepth 100000 in
set_option maxHeartbeats 4000000 in
theorem rpasses_c (af : Option Addr) (cf : Nat) (l : List Fd) (a2 : Option Addr) (c2 : Nat) (E : List Ed) (a : Option Addr) (c : Nat) (r : List Int) (w : World) (hl : RdF w af l) (hE : RdE w a2 E) (hr : Rd w a r) (hok : Ok l E) (hlen : r.length = l.length) :
    Calls Tryd.prog 33 #[.agg #[.slice af l.length cf, .slice a2 E.length c2], .slice a r.length c] w (IvP (.bool (paB l E r)) w) := by
  obtain ⟨W1, hW1⟩ : ∃ W, w.alloc (.cells #[.slice af l.length cf, .slice a2 E.length c2] 25) = W := ⟨_, rfl⟩
  have b1 : Below w.heap.size w W1 := by rw [← hW1]; exact bel_one _ _
  have B1 := Lib.hid b1
  have x0 : W1.cell? ⟨w.heap.size, 0, none⟩ = some (.slice af l.length cf) := by rw [← hW1, World.cell?_alloc_new]; rfl
  have x1 : W1.cell? ⟨w.heap.size, 1, none⟩ = some (.slice a2 E.length c2) := by rw [← hW1, World.cell?_alloc_new]; rfl
  have HR := Lib.hid hr
  have HF := Lib.hid hl
  have C9 : Hid (∀ V, Below w.heap.size w V → Calls Tryd.prog 31 #[.agg #[.slice af l.length cf, .slice a2 E.length c2], .slice a r.length c] V (NuP (toI (flL E r)) V)) := fun V b =>
    rfailed_c af l.length cf a2 c2 E a c r V (hE.below b) (hr.below b) hok.m60 fun n hn => by rw [hok.sl n hn, hlen]
  obtain ⟨m, hm⟩ : ∃ k, E.length = k := ⟨_, rfl⟩
  obtain ⟨n, hn⟩ : ∃ k, l.length = k := ⟨_, rfl⟩
  have HN := Lib.hid hn
  have n12 : n ≤ 12 := by rw [← hn]; exact hok.n12
  have HRL := Lib.hid hlen
  obtain ⟨R, hR⟩ : ∃ R, paB l E r = R := ⟨_, rfl⟩
  have HPA := Lib.hid hR
  have HFL : Hid (decide ((toI (flL E r)).length = 0) = al (fun j => !flB E r j) E.length) := by
    unfold Hid
    rw [Bool.eq_iff_iff, decide_eq_true_iff, toI_len]
    exact al_nil
  rw [hm, hlen, hn] at C9
  rw [hn] at x0 hW1
  rw [hm] at x1 hW1
  rw [hm, hlen, hn, hR]
  have X := Lib.hid (⟨x0, x1⟩ : W1.cell? ⟨w.heap.size, 0, none⟩ = some (.slice af n cf) ∧ W1.cell? ⟨w.heap.size, 1, none⟩ = some (.slice a2 m c2))
  clear hr hE hl b1 hm hn hlen hR x1
  go_enter Tryd.func33, Tryd.ntmps33
  go_wp2_with fail
  clear hW1 x0
  go_loopw [5, 6, 10] (fun _ _ iv wr => ∃ j : Nat, iv = .int .i64 j ∧ Hid (j ≤ n ∧ al (fun j => inC (fd l j).cs (fn r j)) j = true ∧ Below W1.heap.size W1 wr)) (fun _ _ iv _ => n - (intOf iv).toNat)
  case atStart => exact ⟨0, rfl, Nat.zero_le _, rfl, Below.refl _ _⟩
  case round =>
    obtain ⟨j, rfl, hS⟩ := hrel
    have BW : Hid (Below w.heap.size w wr) := B1.out.trans (hS.out.2.2.mono B1.out.size)
    by_cases hlt : j < n
    · have hlt' : (j : Int) < (n : Int) := by omega
      have hj0 : (0 : Int) ≤ (j : Int) := by omega
      have hjl : j < l.length := by rw [HN.out]; exact hlt
      obtain ⟨b, off, rfl, _, hc⟩ := (HR.out.below BW.out).2 (by rw [HRL.out]; omega)
      obtain ⟨fb, fo, rfl, u0, ⟨ga, gc, u1, hrd⟩, u2⟩ := (HF.out.below BW.out).at_ hjl
      have c0 := hc j (by rw [HRL.out]; exact hjl)
      obtain ⟨x, hx⟩ : ∃ x, fn r j = x := ⟨_, rfl⟩
      rw [hx] at c0
      obtain ⟨q, hq⟩ : ∃ q, inC (fd l j).cs x = q := ⟨_, rfl⟩
      have HX : Hid (inC (fd l j).cs (fn r j) = q) := by unfold Hid; rw [hx]; exact hq
      obtain ⟨y, hy⟩ : ∃ y, (fd l j).cs.length = y := ⟨_, rfl⟩
      obtain ⟨nm, hnm⟩ : ∃ y, (fd l j).nm = y := ⟨_, rfl⟩
      obtain ⟨wt, hwt⟩ : ∃ y, (fd l j).wt = y := ⟨_, rfl⟩
      obtain ⟨w3, hw3⟩ : ∃ W, wr.alloc (.cells #[.string nm, .slice ga y gc, .int .i64 wt] 39) = W := ⟨_, rfl⟩
      have b3 : Below wr.heap.size wr w3 := by rw [← hw3]; exact bel_one _ _
      have B3 := Lib.hid (hS.out.2.2.trans (b3.mono hS.out.2.2.size))
      obtain ⟨z, hzz⟩ : ∃ z, wr.heap.size = z := ⟨_, rfl⟩
      have d1 : w3.cell? ⟨z, 1, none⟩ = some (.slice ga y gc) := by rw [← hw3, ← hzz, World.cell?_alloc_new]; rfl
      have d2 : w3.cell? ⟨b, off + j, none⟩ = some (.int .i64 x) := (b3.cell (p := ⟨b, off + j, none⟩) (cellLt c0)).trans c0
      have HS1 : Hid (S2e ⟨z, 1, none⟩ ⟨b, off + j, none⟩ (.slice ga y gc) (.int .i64 x) w3) := ⟨d1, d2⟩
      have C : Hid (∀ V, Below w3.heap.size w3 V → Calls Tryd.prog 16 #[.slice ga y gc, .int .i64 x] V fun e w' => e = .returned (.bool q) ∧ w' = V) := fun V hV => by
        have := contains_c ga gc (fd l j).cs x V (hrd.below (b3.trans (hV.mono b3.size)))
        rw [hq, hy] at this
        exact this
      rw [hnm] at u0
      rw [hy] at u1
      rw [hwt] at u2
      clear hx hq hc hrd hy hnm hwt
      cases q with
      | true =>
        have NX : Hid (∀ V, Below w3.heap.size w3 V → j + 1 ≤ n ∧ al (fun j => inC (fd l j).cs (fn r j)) (j + 1) = true ∧ Below W1.heap.size W1 V) := fun V hV => by
          refine ⟨hlt, ?_, B3.out.trans (hV.mono B3.out.size)⟩
          show (al _ j && inC (fd l j).cs (fn r j)) = true
          rw [hS.out.2.1, Bool.true_and, HX.out]
        go_wp2_with fail
        refine wp_region_noPanic ?_
        refine wp_region_held_drew (S := (S2e ⟨z, 1, none⟩ ⟨b, off + j, none⟩ (.slice ga y gc) (.int .i64 x))) (by kernel_rfl) (by exact HS1.out) (fun hS => ?_)
        obtain ⟨WD, hWD⟩ : ∃ W, w3.drew = W := ⟨_, rfl⟩
        have D0 : Hid (Below w3.heap.size w3 WD) := by unfold Hid; rw [← hWD]; exact (Below.refl _ _).drew
        rw [hWD] at hS ⊢
        clear hWD
        refine wpAnyH_take (i := 0) (v := ?v0a0) rfl (by kernel_rfl) (by kernel_rfl) (by kernel_rfl) (fun _ _ _ h => h) (Or.inl ⟨by rfl, ?hy0a0⟩) (by assumption) ?rest0a0
        case hy0a0 =>
          intro w hSw
          dsimp only [S2e] at hSw
          go_simp
          try with_reducible rfl
        simp only [Act.put, List.getElem_toArray, List.getElem_cons_succ, List.getElem_cons_zero, List.setIfInBounds_toArray, List.set_cons_zero, List.set_cons_succ]
        refine wpAnyH_take (i := 1) (v := ?v1a1) rfl (by kernel_rfl) (by kernel_rfl) (by kernel_rfl) (fun _ _ _ h => h) (Or.inl ⟨by rfl, ?hy1a1⟩) (by assumption) ?rest1a1
        case hy1a1 =>
          intro w hSw
          dsimp only [S2e] at hSw
          go_simp
          try with_reducible rfl
        simp only [Act.put, List.getElem_toArray, List.getElem_cons_succ, List.getElem_cons_zero, List.setIfInBounds_toArray, List.set_cons_zero, List.set_cons_succ]
        refine wpAnyH_take (i := 2) (v := ?v2a2) rfl (by kernel_rfl) (by kernel_rfl) (by kernel_rfl) (fun _ _ _ h => h) (Or.inl ⟨by rfl, ?hy2a2⟩) (by assumption) ?rest2a2
        case hy2a2 =>
          intro w hSw
          dsimp only [S2e] at hSw
          go_simp
          try with_reducible rfl
        simp only [Act.put, List.getElem_toArray, List.getElem_cons_succ, List.getElem_cons_zero, List.setIfInBounds_toArray, List.set_cons_zero, List.set_cons_succ]
        refine wpAnyH_take (i := 3) (v := ?v3a3) rfl (by kernel_rfl) (by kernel_rfl) (by kernel_rfl) (fun _ _ _ h => h) (Or.inl ⟨by rfl, ?hy3a3⟩) (by assumption) ?rest3a3
        case hy3a3 =>
          intro w hSw
          dsimp only [S2e] at hSw
          go_simp
          try with_reducible rfl
        simp only [Act.put, List.getElem_toArray, List.getElem_cons_succ, List.getElem_cons_zero, List.setIfInBounds_toArray, List.set_cons_zero, List.set_cons_succ]
        refine wpAnyH_take (i := 4) (v := ?v4a4) rfl (by kernel_rfl) (by kernel_rfl) (by kernel_rfl) (fun _ _ _ h => h) (Or.inl ⟨by rfl, ?hy4a4⟩) (by assumption) ?rest4a4
        case hy4a4 =>
          intro w hSw
          dsimp only [S2e] at hSw
          go_simp
          try with_reducible rfl
        simp only [Act.put, List.getElem_toArray, List.getElem_cons_succ, List.getElem_cons_zero, List.setIfInBounds_toArray, List.set_cons_zero, List.set_cons_succ]
        refine wpAnyH_take (i := 5) (v := ?v5a5) rfl (by kernel_rfl) (by kernel_rfl) (by kernel_rfl) (fun _ _ _ h => h) (Or.inl ⟨by rfl, ?hy5a5⟩) (by assumption) ?rest5a5
        case hy5a5 =>
          intro w hSw
          dsimp only [S2e] at hSw
          go_simp
          try with_reducible rfl
        simp only [Act.put, List.getElem_toArray, List.getElem_cons_succ, List.getElem_cons_zero, List.setIfInBounds_toArray, List.set_cons_zero, List.set_cons_succ]
        refine wpAnyH_ready (rs := [6]) (by kernel_rfl) (by simp) ?_
        refine AllReadyH.cons rfl (fun K hK => ?_) AllReadyH.nil
        go_simp
        refine (C.out WD D0.out).mono ?_
        rintro e1 w4 ⟨rfl, hw4⟩
        subst hw4
        try go_simp
        have hT := hS
        refine hK _ _ hT (fun _ => ?_)
        clear hK K hT
        try simp only [Act.put, List.setIfInBounds_toArray, List.set_cons_zero, List.set_cons_succ]
        refine wpAnyH_take (i := 7) (v := ?v7a7) rfl (by kernel_rfl) (by kernel_rfl) (by kernel_rfl) (fun _ _ _ h => h) (Or.inl ⟨by rfl, ?hy7a7⟩) (by assumption) ?rest7a7
        case hy7a7 =>
          intro w hSw
          dsimp only [S2e] at hSw
          go_simp
          try with_reducible rfl
        simp only [Act.put, List.getElem_toArray, List.getElem_cons_succ, List.getElem_cons_zero, List.setIfInBounds_toArray, List.set_cons_zero, List.set_cons_succ]
        refine wpAnyH_done (by kernel_rfl) ?_ _
        refine NoPanic.normal ?_
        have NX2 := Lib.hid (NX.out w4 D0.out)
        clear c0 u0 u1 u2 d1 d2 hS C hw3 NX
        go_wp2
        go_roundw
        case rel => exact ⟨j + 1, by go_num, NX2.out⟩
        case measure => simp [intOf]; omega
      | false =>
        have PP : Hid (R = false) := by
          unfold Hid
          rw [← HPA.out]
          unfold paB
          have : vdB l r = false := by
            cases q : vdB l r with
            | false => rfl
            | true => have := al_iff.1 q j hjl; rw [HX.out] at this; cases this
          rw [this]; rfl
        have NX : Hid (∀ V, Below w3.heap.size w3 V → Below w.heap.size w V) := fun V hV => BW.out.trans ((b3.trans (hV.mono b3.size)).mono BW.out.size)
        go_wp2_with fail
        refine wp_region_noPanic ?_
        refine wp_region_held_drew (S := (S2e ⟨z, 1, none⟩ ⟨b, off + j, none⟩ (.slice ga y gc) (.int .i64 x))) (by kernel_rfl) (by exact HS1.out) (fun hS => ?_)
        obtain ⟨WD, hWD⟩ : ∃ W, w3.drew = W := ⟨_, rfl⟩
        have D0 : Hid (Below w3.heap.size w3 WD) := by unfold Hid; rw [← hWD]; exact (Below.refl _ _).drew
        rw [hWD] at hS ⊢
        clear hWD
        refine wpAnyH_take (i := 0) (v := ?v0b0) rfl (by kernel_rfl) (by kernel_rfl) (by kernel_rfl) (fun _ _ _ h => h) (Or.inl ⟨by rfl, ?hy0b0⟩) (by assumption) ?rest0b0
        case hy0b0 =>
          intro w hSw
          dsimp only [S2e] at hSw
          go_simp
          try with_reducible rfl
        simp only [Act.put, List.getElem_toArray, List.getElem_cons_succ, List.getElem_cons_zero, List.setIfInBounds_toArray, List.set_cons_zero, List.set_cons_succ]
        refine wpAnyH_take (i := 1) (v := ?v1b1) rfl (by kernel_rfl) (by kernel_rfl) (by kernel_rfl) (fun _ _ _ h => h) (Or.inl ⟨by rfl, ?hy1b1⟩) (by assumption) ?rest1b1
        case hy1b1 =>
          intro w hSw
          dsimp only [S2e] at hSw
          go_simp
          try with_reducible rfl
        simp only [Act.put, List.getElem_toArray, List.getElem_cons_succ, List.getElem_cons_zero, List.setIfInBounds_toArray, List.set_cons_zero, List.set_cons_succ]
        refine wpAnyH_take (i := 2) (v := ?v2b2) rfl (by kernel_rfl) (by kernel_rfl) (by kernel_rfl) (fun _ _ _ h => h) (Or.inl ⟨by rfl, ?hy2b2⟩) (by assumption) ?rest2b2
        case hy2b2 =>
          intro w hSw
          dsimp only [S2e] at hSw
          go_simp
          try with_reducible rfl
        simp only [Act.put, List.getElem_toArray, List.getElem_cons_succ, List.getElem_cons_zero, List.setIfInBounds_toArray, List.set_cons_zero, List.set_cons_succ]
        refine wpAnyH_take (i := 3) (v := ?v3b3) rfl (by kernel_rfl) (by kernel_rfl) (by kernel_rfl) (fun _ _ _ h => h) (Or.inl ⟨by rfl, ?hy3b3⟩) (by assumption) ?rest3b3
        case hy3b3 =>
          intro w hSw
          dsimp only [S2e] at hSw
          go_simp
          try with_reducible rfl
        simp only [Act.put, List.getElem_toArray, List.getElem_cons_succ, List.getElem_cons_zero, List.setIfInBounds_toArray, List.set_cons_zero, List.set_cons_succ]
        refine wpAnyH_take (i := 4) (v := ?v4b4) rfl (by kernel_rfl) (by kernel_rfl) (by kernel_rfl) (fun _ _ _ h => h) (Or.inl ⟨by rfl, ?hy4b4⟩) (by assumption) ?rest4b4
        case hy4b4 =>
          intro w hSw
          dsimp only [S2e] at hSw
          go_simp
          try with_reducible rfl
        simp only [Act.put, List.getElem_toArray, List.getElem_cons_succ, List.getElem_cons_zero, List.setIfInBounds_toArray, List.set_cons_zero, List.set_cons_succ]
        refine wpAnyH_take (i := 5) (v := ?v5b5) rfl (by kernel_rfl) (by kernel_rfl) (by kernel_rfl) (fun _ _ _ h => h) (Or.inl ⟨by rfl, ?hy5b5⟩) (by assumption) ?rest5b5
        case hy5b5 =>
          intro w hSw
          dsimp only [S2e] at hSw
          go_simp
          try with_reducible rfl
        simp only [Act.put, List.getElem_toArray, List.getElem_cons_succ, List.getElem_cons_zero, List.setIfInBounds_toArray, List.set_cons_zero, List.set_cons_succ]
        refine wpAnyH_ready (rs := [6]) (by kernel_rfl) (by simp) ?_
        refine AllReadyH.cons rfl (fun K hK => ?_) AllReadyH.nil
        go_simp
        refine (C.out WD D0.out).mono ?_
        rintro e1 w4 ⟨rfl, hw4⟩
        subst hw4
        try go_simp
        have hT := hS
        refine hK _ _ hT (fun _ => ?_)
        clear hK K hT
        try simp only [Act.put, List.setIfInBounds_toArray, List.set_cons_zero, List.set_cons_succ]
        refine wpAnyH_take (i := 7) (v := ?v7b7) rfl (by kernel_rfl) (by kernel_rfl) (by kernel_rfl) (fun _ _ _ h => h) (Or.inl ⟨by rfl, ?hy7b7⟩) (by assumption) ?rest7b7
        case hy7b7 =>
          intro w hSw
          dsimp only [S2e] at hSw
          go_simp
          try with_reducible rfl
        simp only [Act.put, List.getElem_toArray, List.getElem_cons_succ, List.getElem_cons_zero, List.setIfInBounds_toArray, List.set_cons_zero, List.set_cons_succ]
        refine wpAnyH_done (by kernel_rfl) ?_ _
        refine NoPanic.normal ?_
        have NX2 := Lib.hid (NX.out w4 D0.out)
        clear c0 u0 u1 u2 d1 d2 hS C hw3 NX
        go_wp2
        go_ret
        exact ⟨by rw [PP.out]; rfl, NX2.out⟩
    · have hlt' : ¬ (j : Int) < (n : Int) := by omega
      have hv : vdB l r = true := by
        have e : j = l.length := by have := hS.out.1; rw [HN.out]; omega
        have := hS.out.2.1
        rw [e] at this; exact this
      have HV := Lib.hid hv
      have C := Lib.hid (C9.out wr BW.out)
      have y0 : wr.cell? ⟨w.heap.size, 0, none⟩ = some (.slice af n cf) := (hS.out.2.2.cell (p := ⟨w.heap.size, 0, none⟩) (cellLt X.out.1)).trans X.out.1
      have y1 : wr.cell? ⟨w.heap.size, 1, none⟩ = some (.slice a2 m c2) := (hS.out.2.2.cell (p := ⟨w.heap.size, 1, none⟩) (cellLt X.out.2)).trans X.out.2
      unfold NuP at C
      clear hlt hv hS
      go_wp2_with fail
      refine C.out.mono ?_
      rintro e1 w4 ⟨v, rfl, hv, b4⟩
      obtain ⟨va, vc, rfl⟩ := own_slE hv
      obtain ⟨z, hz⟩ : ∃ z, (toI (flL E r)).length = z := ⟨_, rfl⟩
      have PP : Hid (((z : Int) == 0) = R ∧ Below w.heap.size w w4) := by
        refine ⟨?_, BW.out.trans (b4.mono BW.out.size)⟩
        rw [← HPA.out]
        unfold paB
        rw [HV.out, Bool.true_and, ← HFL.out, hz, Bool.eq_iff_iff]
        simp
      rw [hz]
      clear hv b4 C C9 hz
      go_wp2
      go_ret
      exact ⟨by first | rfl | (rw [← PP.out.1]; rfl), PP.out.2⟩
end Go.Proofs.YtadfmplafehjlaaDoor
