/-
  EditPlansMatchSpec: an edit of a plan, package edit.
  EditPlansMatchSpec: CheckPlan of package edit.
-/
import Derived.Test.YtadfmplafehjlaaDoorEP05
namespace Go.Proofs.YtadfmplafehjlaaDoor
open Go.RowKit Go.WideMaps Go.Maps

theorem edit1_c (p q : Addr) (a : Option Addr) (c : Nat) (l : List Fd) (k : Nat) (x : Int) (w : World) (hp : w.cell? p = some (.slice a l.length c)) (hq : w.cell? q = some (.int .i64 k)) (hl : RdF w a l) (hk : k < l.length) :
    Calls Tryd.prog 108 #[.int .i64 x, .pointer (some p), .pointer (some q)] w fun e w' => e = .returned (.bool (inC (fd l k).cs x)) ∧ w' = w := by
  have h9 := hl.1
  obtain ⟨b, off, rfl, u0, ⟨a', c', u1, hcs⟩, u2⟩ := hl.at_ hk
  have hk' : (k : Int) < (l.length : Int) := by omega
  have HC := Lib.hid (contains_c a' c' (fd l k).cs x w hcs)
  clear hl hcs
  go_enter Tryd.func108, Tryd.ntmps108
  go_wp2_with fail
  refine HC.out.mono ?_
  rintro e w' ⟨rfl, rfl⟩
  go_wp2
  go_ret
  exact ⟨rfl, rfl⟩
def edS (l : List Fd) (ns : Nat → ByteArray) (k : Nat) (L : List (List Int)) : Int := if nmE ns (ns k) k ≠ 0 then nmE ns (ns k) k else if L.length ≠ l.length then 3 else fe (setE l L) L.length
def EditP (l : List Fd) (ns : Nat → ByteArray) (k b : Nat) (L : List (List Int)) (w : World) (e : Ending) (w' : World) : Prop :=
  e = .returned (.int .i64 (edS l ns k L)) ∧ (edS l ns k L = 0 → NmIs w' b ns (k + 1)) ∧ w.grownBy w' (some b)
set_option maxHeartbeats 2000000 in
theorem checkEdit_c (a : Option Addr) (c : Nat) (l : List Fd) (ns : Nat → ByteArray) (k b : Nat) (a2 : Option Addr) (c2 : Nat) (L : List (List Int)) (w0 w : World) (hl : RdF w0 a l) (hL : RdL w0 a2 L) (hb : Below w0.heap.size w0 w) (hbb : w0.heap.size ≤ b)
    (hN : NmIs w b ns k) (hk : k < maxLen) (hs : (ns k).size ≤ 9223372036854775807) :
    Calls Tryd.prog 81 #[.slice a l.length c, .agg #[.string (ns k), .slice a2 L.length c2], .map (some b)] w (EditP l ns k b L w) := by
  have h9 := hl.1
  have h9' := hL.1
  obtain ⟨W0, hW0⟩ : ∃ W0, w.alloc (.cells #[.slice a l.length c] 22) = W0 := ⟨_, rfl⟩
  obtain ⟨W1, hW1⟩ : ∃ W1, W0.alloc (.cells #[.string (ns k), .slice a2 L.length c2] 43) = W1 := ⟨_, rfl⟩
  have hs0 : W0.heap.size = w.heap.size + 1 := by rw [← hW0]; simp
  have B1 : Hid (Below w.heap.size w W1 ∧ W1.heap.size = w.heap.size + 2 ∧ W1.cell? ⟨w.heap.size, 0, none⟩ = some (.slice a l.length c) ∧ W1.cell? ⟨w.heap.size + 1, 0, none⟩ = some (.string (ns k)) ∧ W1.cell? ⟨w.heap.size + 1, 1, none⟩ = some (.slice a2 L.length c2)) := by
    have e0 : W0.cell? ⟨w.heap.size, 0, none⟩ = some (.slice a l.length c) := by rw [← hW0, World.cell?_alloc_at _ _ _ _ rfl]; rfl
    have hb1 : Below W0.heap.size W0 W1 := by rw [← hW1]; exact bel_one _ _
    have hb0 : Below w.heap.size w W0 := by rw [← hW0]; exact bel_one _ _
    refine ⟨hb0.trans (hb1.mono (by omega)), by rw [← hW1]; simp; omega, (hb1.cell (p := ⟨w.heap.size, 0, none⟩) (by show w.heap.size < _; omega)).trans e0, ?_, ?_⟩
    · rw [← hW1, ← hs0, World.cell?_alloc_at _ _ _ _ rfl]; rfl
    · rw [← hW1, ← hs0, World.cell?_alloc_at _ _ _ _ rfl]; rfl
  have hbw := hN.lt
  have HNm := Lib.hid (checkName_c ns k b W1 (hN.below B1.out.1 hbw) hk hs)
  have HL := Lib.hid hl
  have HLL := Lib.hid hL
  have HB : Hid (Below w0.heap.size w0 W1) := hb.trans (B1.out.1.mono hb.size)
  have v0 := B1.out.2.2.2.1
  clear hl hL hN hs
  go_enter Tryd.func81, Tryd.ntmps81
  go_wp2_with fail
  clear v0
  refine HNm.out.mono ?_
  rintro e W2 ⟨rfl, hnx, hg⟩
  have BW2 : Hid (Below w0.heap.size w0 W2) := HB.out.grown hg HB.out.size (fun j hj => by cases hj; exact hbb)
  have GW2 : Hid (w.grownBy W2 (some b)) := ((below_grow B1.out.1).but _).trans hg
  have x0 : W2.cell? ⟨w.heap.size, 0, none⟩ = some (.slice a l.length c) := (grown_cell (p := ⟨w.heap.size, 0, none⟩) hg (by have := B1.out.2.1; show w.heap.size < _; omega) (by show w.heap.size ≠ b; omega)).trans B1.out.2.2.1
  have x1 : W2.cell? ⟨w.heap.size + 1, 1, none⟩ = some (.slice a2 L.length c2) := (grown_cell (p := ⟨w.heap.size + 1, 1, none⟩) hg (by have := B1.out.2.1; show w.heap.size + 1 < _; omega) (by show w.heap.size + 1 ≠ b; omega)).trans B1.out.2.2.2.2
  have hsz : Hid (w.heap.size + 2 ≤ W2.heap.size) := by have := hg.size; have := B1.out.2.1; unfold Hid; omega
  clear hg hW0 hW1 hs0
  by_cases hc1 : nmE ns (ns k) k = 0
  · have hNM := Lib.hid (hnx hc1)
    rw [hc1]
    clear hnx
    by_cases hc2 : L.length = l.length
    · have hE : Hid (edS l ns k L = fe (setE l L) L.length) := by unfold Hid edS; rw [if_neg (by simpa using hc1), if_neg (by simpa using hc2)]
      have hc2' : (L.length : Int) = (l.length : Int) := by omega
      have X0 := Lib.hid x0
      clear hc1
      go_wp2
      go_loopw [27] (fun i wr => ∃ m : Nat, m ≤ L.length ∧ i = .int .i64 m ∧ Hid (Below W2.heap.size W2 wr ∧ fe (setE l L) m = 0)) (fun i _ => L.length - (intOf i).toNat)
      case atStart => exact ⟨0, Nat.zero_le _, rfl, Below.refl _ _, rfl⟩
      case round =>
        obtain ⟨m, hm, rfl, hS⟩ := hrel
        have G3 : Hid (w.grownBy wr (some b)) := GW2.out.trans ((below_grow hS.out.1).but _)
        by_cases hlt : m < L.length
        · obtain ⟨b2, off2, a', c', rfl, u1, hcs⟩ := ((HLL.out.below BW2.out).below hS.out.1).at_ hlt
          have hlt' : (m : Int) < (L.length : Int) := by omega
          have hml : m < l.length := by omega
          have hF : Hid (setE l L m ≠ 0 → edS l ns k L = setE l L m) := fun h => by rw [hE.out]; exact fe_at hlt hS.out.2 h
          have hN : Hid (fe (setE l L) (m + 1) = setE l L m) := fe_next hS.out.2
          obtain ⟨W3, hW3⟩ : ∃ W3, wr.alloc (.cells #[.int .i64 m] 3) = W3 := ⟨_, rfl⟩
          have B3 : Hid (Below wr.heap.size wr W3 ∧ W3.heap.size = wr.heap.size + 1 ∧ W3.cell? ⟨wr.heap.size, 0, none⟩ = some (.int .i64 m)) := by
            unfold Hid
            rw [← hW3]
            exact ⟨bel_one _ _, by simp, by rw [World.cell?_alloc_at _ _ _ _ rfl]; rfl⟩
          have G4 : Hid (w.grownBy W3 (some b)) := G3.out.trans ((below_grow B3.out.1).but _)
          have BWr : Hid (Below w0.heap.size w0 wr) := BW2.out.trans (hS.out.1.mono BW2.out.size)
          have BW3 : Hid (Below w0.heap.size w0 W3) := BWr.out.trans (B3.out.1.mono BWr.out.size)
          have S3 : Hid (Below W2.heap.size W2 W3) := hS.out.1.trans (B3.out.1.mono hS.out.1.size)
          have hcell : Hid (W3.cell? ⟨w.heap.size, 0, none⟩ = some (.slice a l.length c)) := (S3.out.cell (p := ⟨w.heap.size, 0, none⟩) (by have := hsz.out; show w.heap.size < _; omega)).trans X0.out
          have HI : Hid (Calls Tryd.prog 107 #[.slice a' (st L m).length c', .func (.func 108) #[] #[.pointer (some ⟨w.heap.size, 0, none⟩), .pointer (some ⟨wr.heap.size, 0, none⟩)]] W3 fun e w' => e = .returned (.int .i64 (incS (inC (fd l m).cs) (st L m))) ∧ w' = W3) :=
            inc2_c a' c' (st L m) ⟨w.heap.size, 0, none⟩ ⟨wr.heap.size, 0, none⟩ W3 (hcs.below B3.out.1) (inC (fd l m).cs) (fun x => edit1_c _ _ a c l m x W3 hcell.out B3.out.2.2 (HL.out.below BW3.out) hml)
          have h8 := hcs.1
          clear hcs
          by_cases h1 : (st L m).length = 0
          · have e : setE l L m = 9 := by unfold setE; rw [if_pos h1]
            have hR : Hid (edS l ns k L = 9) := by unfold Hid; rw [hF.out (by rw [e]; decide), e]
            have h1' : ((st L m).length : Int) = 0 := by omega
            clear e h1 x0 x1
            go_wp2
            go_ret
            exact ⟨by rw [hR.out]; rfl, by rw [hR.out]; simp, G4.out⟩
          have h1' : (((st L m).length : Int) == 0) = false := by rw [beq_eq_false_iff_ne]; omega
          have hSE : Hid (setE l L m = incS (inC (fd l m).cs) (st L m)) := by unfold Hid setE; rw [if_neg h1]
          generalize incS (inC (fd l m).cs) (st L m) = ch at *
          clear h1 x0 x1
          by_cases hc : ch = 0
          · subst hc
            have NX : Hid (Below W2.heap.size W2 W3 ∧ fe (setE l L) (m + 1) = 0) := ⟨S3.out, by rw [hN.out, hSE.out]⟩
            go_wp2_with fail
            refine HI.out.mono ?_
            rintro e W4 ⟨rfl, rfl⟩
            go_wp2
            go_roundw
            case rel => exact ⟨m + 1, by omega, by go_num, NX.out⟩
            case measure => simp [intOf]; omega
          · have hR : Hid (edS l ns k L = ch) := by unfold Hid; rw [hF.out (by rw [hSE.out]; exact hc), hSE.out]
            have hc' : (ch == 0) = false := by rw [beq_eq_false_iff_ne]; exact hc
            have hz := Lib.hid hc
            clear hc
            go_wp2_with fail
            refine HI.out.mono ?_
            rintro e W4 ⟨rfl, rfl⟩
            go_wp2
            go_ret
            exact ⟨by rw [hR.out]; rfl, by rw [hR.out]; exact fun h => absurd h hz.out, G4.out⟩
        · obtain rfl : m = L.length := by omega
          clear hlt
          have hR : Hid (edS l ns k L = 0) := by unfold Hid; rw [hE.out]; exact hS.out.2
          have NE : Hid (NmIs wr b ns (k + 1)) := hNM.out.below hS.out.1 (by have := hsz.out; omega)
          go_wp2
          go_ret
          exact ⟨by rw [hR.out]; rfl, fun _ => NE.out, G3.out⟩
    · have hE : Hid (edS l ns k L = 3) := by unfold Hid edS; rw [if_neg (by simpa using hc1), if_pos hc2]
      have hc2' : ((L.length : Int) == (l.length : Int)) = false := by rw [beq_eq_false_iff_ne]; omega
      clear hc1 hc2
      go_wp2
      go_ret
      exact ⟨by rw [hE.out]; rfl, by rw [hE.out]; simp, GW2.out⟩
  · have hE : Hid (edS l ns k L = nmE ns (ns k) k) := by unfold Hid edS; rw [if_pos hc1]
    have hc' : (nmE ns (ns k) k == 0) = false := by rw [beq_eq_false_iff_ne]; exact hc1
    have hz := Lib.hid hc1
    clear hnx hc1
    generalize nmE ns (ns k) k = ch at *
    go_wp2
    go_ret
    exact ⟨by rw [hE.out]; rfl, by rw [hE.out]; exact fun h => absurd h hz.out, GW2.out⟩
end Go.Proofs.YtadfmplafehjlaaDoor
namespace Go.Proofs.YtadfmplafehjlaaDoor
open Go.RowKit Go.WideMaps Go.Maps

theorem edE_is (l : List Fd) (E : List Ed) (m : Nat) : edE l E m = edS l (fun i => (ed E i).nm) m (ed E m).ss := rfl
theorem RdL.anew {w w' : World} {b o : Nat} {f : Ed} {a2 : Option Addr} {c2 : Nat} (h : EdAt w b o f) (hb : Below w.heap.size w w') (hl : b < w.heap.size) (hc : w'.cell? ⟨b, o + 1, none⟩ = some (.slice a2 f.ss.length c2)) : RdL w a2 f.ss := by
  obtain ⟨_, a', c', h1, h2⟩ := h
  rw [hb.cell (p := ⟨b, o + 1, none⟩) hl, h1] at hc
  injection hc with hc; injection hc with hc _ _; subst hc
  exact h2
theorem mix_wrap {l : List Fd} (h : l.length ≤ 12) (hc : ∀ i, i < l.length → (fd l i).cs.length ≤ 20) {k : Nat} (hk : k ≤ l.length) : (mix l k : Int) ≤ 4096000000000000 := by
  have h1 := mix_le (l := l) (k := k) fun i hi => hc i (by omega)
  have h2 : 20 ^ k ≤ 20 ^ 12 := Nat.pow_le_pow_right (by decide) (by omega)
  have h3 : (20 : Nat) ^ 12 = 4096000000000000 := by decide
  omega
set_option maxHeartbeats 4000000 in
theorem CheckPlan_c (a : Option Addr) (c : Nat) (l : List Fd) (a2 : Option Addr) (c2 : Nat) (E : List Ed) (w : World) (hl : RdF w a l) (hE : RdE w a2 E) (hst : ∀ u, u ∈ l → u.nm.size ≤ 9223372036854775807) (hst2 : ∀ u, u ∈ E → u.nm.size ≤ 9223372036854775807) :
    Calls Tryd.prog 61 #[.agg #[.slice a l.length c, .slice a2 E.length c2]] w (IntP (planS l E) w) := by
  have h9 := hl.1
  have h9' := hE.1
  obtain ⟨W1, hW1⟩ : ∃ W1, w.alloc (.cells #[.slice a l.length c, .slice a2 E.length c2] 25) = W1 := ⟨_, rfl⟩
  have B1 : Hid (Below w.heap.size w W1 ∧ W1.heap.size = w.heap.size + 1 ∧ W1.cell? ⟨w.heap.size, 0, none⟩ = some (.slice a l.length c) ∧ W1.cell? ⟨w.heap.size, 1, none⟩ = some (.slice a2 E.length c2)) := by
    unfold Hid
    rw [← hW1]
    exact ⟨bel_one _ _, by simp, by rw [World.cell?_alloc_at _ _ _ _ rfl]; rfl, by rw [World.cell?_alloc_at _ _ _ _ rfl]; rfl⟩
  have HC := Lib.hid (checkFields_c a c l W1 (hl.below B1.out.1) hst)
  have hmm := @run_makeMap Tryd.prog
  have HL := Lib.hid hl
  have HE := Lib.hid hE
  have HST := Lib.hid hst2
  have v0 := B1.out.2.2.1
  clear hl hE hst hst2
  by_cases h1 : fdsS l = 0
  · rw [h1] at HC
    have HF := Lib.hid (fds_codes h1)
    have HP : Hid (planS l E = if 20000 < mix l l.length then 2 else if 60 < E.length then 2 else fe (edE l E) E.length) := by unfold Hid planS; rw [if_neg (by simpa using h1)]
    clear h1
    go_enter Tryd.func61, Tryd.ntmps61
    go_wp2_with fail
    clear v0
    refine HC.out.mono ?_
    rintro e W2 ⟨rfl, b2⟩
    have BW2 : Hid (Below w.heap.size w W2) := B1.out.1.trans (b2.mono B1.out.1.size)
    have x0 : W2.cell? ⟨w.heap.size, 0, none⟩ = some (.slice a l.length c) := (b2.cell (p := ⟨w.heap.size, 0, none⟩) (by have := B1.out.2.1; show w.heap.size < _; omega)).trans B1.out.2.2.1
    have X1 : Hid (W2.cell? ⟨w.heap.size, 0, none⟩ = some (.slice a l.length c) ∧ W2.cell? ⟨w.heap.size, 1, none⟩ = some (.slice a2 E.length c2) ∧ w.heap.size + 1 ≤ W2.heap.size) := ⟨x0, (b2.cell (p := ⟨w.heap.size, 1, none⟩) (by have := B1.out.2.1; show w.heap.size < _; omega)).trans B1.out.2.2.2, by have := B1.out.2.1; have := b2.size; omega⟩
    clear b2 hW1
    go_wp2
    clear x0
    go_loopw [4, 20] (fun m i wr => ∃ k : Nat, k ≤ l.length ∧ i = .int .i64 k ∧ m = .int .i64 (mix l k) ∧ Hid (Below W2.heap.size W2 wr)) (fun _ i _ => l.length - (intOf i).toNat)
    case atStart => exact ⟨0, Nat.zero_le _, rfl, rfl, Below.refl _ _⟩
    case round =>
      obtain ⟨k, hk, rfl, rfl, hS⟩ := hrel
      have BWr : Hid (Below w.heap.size w wr) := BW2.out.trans (hS.out.mono BW2.out.size)
      by_cases hlt : k < l.length
      · obtain ⟨b, off, rfl, u0, ⟨a', c', u1, hcs⟩, u2⟩ := (HL.out.below BWr.out).at_ hlt
        have hlt' : (k : Int) < (l.length : Int) := by omega
        have hmx : Hid (mix l (k + 1) = mix l k * (fd l k).cs.length) := rfl
        have hb1 := mix_wrap HF.out.1 (fun i hi => (HF.out.2.2 i hi).2) (k := k + 1) (by omega)
        have hmul : (mix l k : Int) * ((fd l k).cs.length : Int) = (mix l (k + 1) : Int) := by rw [hmx.out]; simp
        have h8 := hcs.1
        clear hcs
        obtain ⟨M, hM⟩ : ∃ M, mix l (k + 1) = M := ⟨_, rfl⟩
        have HM := Lib.hid hM
        rw [hM] at hb1 hmul
        clear hM hmx
        have NX : Hid (Below W2.heap.size W2 (wr.alloc (.cells #[.string (fd l k).nm, .slice a' (fd l k).cs.length c', .int .i64 (fd l k).wt] 39))) := hS.out.trans ((bel_one _ _).mono hS.out.size)
        go_wp2
        go_roundw
        case rel => exact ⟨k + 1, by omega, by go_num, by rw [HM.out], NX.out⟩
        case measure => simp [intOf]; omega
      · obtain rfl : k = l.length := by omega
        clear hlt
        obtain ⟨wA, hwA⟩ : ∃ x : World, x = wr := ⟨wr, rfl⟩
        subst hwA
        have y0 : wA.cell? ⟨w.heap.size, 0, none⟩ = some (.slice a l.length c) := (hS.out.cell (p := ⟨w.heap.size, 0, none⟩) (by have := X1.out.2.2; show w.heap.size < _; omega)).trans X1.out.1
        have y1 : wA.cell? ⟨w.heap.size, 1, none⟩ = some (.slice a2 E.length c2) := (hS.out.cell (p := ⟨w.heap.size, 1, none⟩) (by have := X1.out.2.2; show w.heap.size < _; omega)).trans X1.out.2.1
        have hsz : Hid (w.heap.size + 1 ≤ wA.heap.size) := Nat.le_trans X1.out.2.2 hS.out.size
        by_cases hm : 20000 < mix l l.length
        · have hR : Hid (planS l E = 2) := by unfold Hid; rw [HP.out, if_pos hm]
          have hm' : (20000 : Int) < (mix l l.length : Int) := by omega
          clear hm
          go_wp2
          go_ret
          exact ⟨by rw [hR.out]; rfl, BWr.out⟩
        have hm' : ¬ (20000 : Int) < (mix l l.length : Int) := by omega
        by_cases h60 : 60 < E.length
        · have hR : Hid (planS l E = 2) := by unfold Hid; rw [HP.out, if_neg hm, if_pos h60]
          have h60' : (60 : Int) < (E.length : Int) := by omega
          clear hm h60
          go_wp2
          go_ret
          exact ⟨by rw [hR.out]; rfl, BWr.out⟩
        have hP2 : Hid (planS l E = fe (edE l E) E.length) := by unfold Hid; rw [HP.out, if_neg hm, if_neg h60]
        have hle : Hid (E.length ≤ 60) := by unfold Hid; omega
        have h60' : ¬ (60 : Int) < (E.length : Int) := by omega
        have Y := Lib.hid (And.intro y0 y1)
        obtain ⟨Wm, hWm⟩ : ∃ Wm, wA.alloc (.map #[] 0) = Wm := ⟨_, rfl⟩
        have HWm := Lib.hid hWm
        have hb : Below wA.heap.size wA Wm := by rw [← hWm]; exact bel_one _ _
        have z1 : Wm.cell? ⟨w.heap.size, 1, none⟩ = some (.slice a2 E.length c2) := (hb.cell (p := ⟨w.heap.size, 1, none⟩) (by have := hsz.out; show w.heap.size < _; omega)).trans y1
        clear hm h60 hb
        go_wp2
        clear y0 y1 z1
        go_loopw [42] (fun i wr => ∃ m : Nat, m ≤ E.length ∧ i = .int .i64 m ∧ Hid (NmIs wr wA.heap.size (fun i => (ed E i).nm) m ∧ Below w.heap.size w wr ∧ wA.heap.size + 1 ≤ wr.heap.size ∧ wr.cell? ⟨w.heap.size, 0, none⟩ = some (.slice a l.length c) ∧ fe (edE l E) m = 0)) (fun i _ => E.length - (intOf i).toNat)
        case atStart =>
          have hb := bel_one wA (.map #[] 0)
          have hW := HWm.out
          subst hW
          exact ⟨0, Nat.zero_le _, rfl, NmIs.made _ _, BWr.out.trans (hb.mono BWr.out.size), by simp, (hb.cell (p := ⟨w.heap.size, 0, none⟩) (by have := hsz.out; show w.heap.size < _; omega)).trans Y.out.1, rfl⟩
        case round =>
          obtain ⟨m, hm, rfl, hQ⟩ := hrel
          by_cases hlt : m < E.length
          · obtain ⟨b, off, rfl, hAt⟩ := HE.out.at_ hlt
            have hbl : Hid (b < w.heap.size) := by
              obtain ⟨b', off', e, hb, _⟩ := HE.out.2 (by omega)
              injection e with e; injection e with e1 e2; subst e1; exact hb
            obtain ⟨u0, a', c', u1, hLL⟩ := hAt.below hQ.out.2.1 hbl.out
            have HLL := Lib.hid (RdL.anew hAt hQ.out.2.1 hbl.out u1)
            clear hLL hAt
            have hlt' : (m : Int) < (E.length : Int) := by omega
            have hsn : Hid ((ed E m).nm.size ≤ 9223372036854775807) := HST.out _ (by unfold ed; rw [List.getD, List.getElem?_eq_getElem hlt]; simp)
            have hF : Hid (edE l E m ≠ 0 → planS l E = edE l E m) := fun h => by rw [hP2.out]; exact fe_at hlt hQ.out.2.2.2.2 h
            have hN : Hid (fe (edE l E) (m + 1) = edE l E m) := fe_next hQ.out.2.2.2.2
            obtain ⟨W3, hW3⟩ : ∃ W3, wr.alloc (.cells #[.string (ed E m).nm, .slice a' (ed E m).ss.length c'] 43) = W3 := ⟨_, rfl⟩
            have B3 : Hid (Below wr.heap.size wr W3 ∧ W3.heap.size = wr.heap.size + 1) := by
              unfold Hid
              rw [← hW3]
              exact ⟨bel_one _ _, by simp⟩
            have v0 : W3.cell? ⟨wr.heap.size, 0, none⟩ = some (.string (ed E m).nm) := by rw [← hW3, World.cell?_alloc_at _ _ _ _ rfl]; rfl
            have v1 : W3.cell? ⟨wr.heap.size, 1, none⟩ = some (.slice a' (ed E m).ss.length c') := by rw [← hW3, World.cell?_alloc_at _ _ _ _ rfl]; rfl
            have v2 : W3.cell? ⟨w.heap.size, 0, none⟩ = some (.slice a l.length c) := (B3.out.1.cell (p := ⟨w.heap.size, 0, none⟩) (by have := hsz.out; have := hQ.out.2.2.1; show w.heap.size < _; omega)).trans hQ.out.2.2.2.1
            have V2 := Lib.hid v2
            have BW3 : Hid (Below w.heap.size w W3) := hQ.out.2.1.trans (B3.out.1.mono hQ.out.2.1.size)
            have HK : Hid (Calls Tryd.prog 81 #[.slice a l.length c, .agg #[.string (ed E m).nm, .slice a' (ed E m).ss.length c'], .map (some wA.heap.size)] W3 (EditP l (fun i => (ed E i).nm) m wA.heap.size (ed E m).ss W3)) :=
              checkEdit_c a c l (fun i => (ed E i).nm) m wA.heap.size a' c' (ed E m).ss w W3 HL.out HLL.out BW3.out (by have := hsz.out; omega) (hQ.out.1.below B3.out.1 (by have := hQ.out.2.2.1; omega)) (by have := hle.out; unfold maxLen; omega) hsn.out
            go_wp2_with fail
            clear hW3 v0 v1 v2 u0 u1
            refine HK.out.mono ?_
            rintro e W4 ⟨rfl, hnx, hg⟩
            rw [← edE_is] at hnx
            rw [← edE_is]
            have BW4 : Hid (Below w.heap.size w W4) := BW3.out.grown hg BW3.out.size (fun j hj => by cases hj; have := hsz.out; omega)
            have hc4 : Hid (W4.cell? ⟨w.heap.size, 0, none⟩ = some (.slice a l.length c)) := (grown_cell (p := ⟨w.heap.size, 0, none⟩) hg (by have := hsz.out; have := hQ.out.2.2.1; have := B3.out.2; show w.heap.size < _; omega) (by have := hsz.out; show w.heap.size ≠ wA.heap.size; omega)).trans V2.out
            have hs4 : Hid (wA.heap.size + 1 ≤ W4.heap.size) := by have := hg.size; have := B3.out.2; have := hQ.out.2.2.1; unfold Hid; omega
            clear hg
            by_cases hc : edE l E m = 0
            · have NX : Hid (NmIs W4 wA.heap.size (fun i => (ed E i).nm) (m + 1) ∧ Below w.heap.size w W4 ∧ wA.heap.size + 1 ≤ W4.heap.size ∧ W4.cell? ⟨w.heap.size, 0, none⟩ = some (.slice a l.length c) ∧ fe (edE l E) (m + 1) = 0) :=
                ⟨hnx hc, BW4.out, hs4.out, hc4.out, by rw [hN.out, hc]⟩
              rw [hc]
              clear hnx hc
              go_wp2
              go_roundw
              case rel => exact ⟨m + 1, by omega, by go_num, NX.out⟩
              case measure => simp [intOf]; omega
            · have hR := Lib.hid (hF.out hc)
              have hc' : (edE l E m == 0) = false := by rw [beq_eq_false_iff_ne]; exact hc
              clear hnx hc
              generalize edE l E m = ch at *
              go_wp2
              go_ret
              exact ⟨by rw [hR.out]; rfl, BW4.out⟩
          · obtain rfl : m = E.length := by omega
            clear hlt
            have hR : Hid (planS l E = 0) := by unfold Hid; rw [hP2.out]; exact hQ.out.2.2.2.2
            go_wp2
            go_ret
            exact ⟨by rw [hR.out]; rfl, hQ.out.2.1⟩
  · have hR : Hid (planS l E = fdsS l) := by unfold Hid planS; rw [if_pos h1]
    have hc' : (fdsS l == 0) = false := by rw [beq_eq_false_iff_ne]; exact h1
    clear h1
    go_enter Tryd.func61, Tryd.ntmps61
    go_wp2_with fail
    refine HC.out.mono ?_
    rintro e W2 ⟨rfl, b2⟩
    go_wp2
    go_ret
    exact ⟨by rw [hR.out]; rfl, B1.out.1.trans (b2.mono B1.out.1.size)⟩
end Go.Proofs.YtadfmplafehjlaaDoor
