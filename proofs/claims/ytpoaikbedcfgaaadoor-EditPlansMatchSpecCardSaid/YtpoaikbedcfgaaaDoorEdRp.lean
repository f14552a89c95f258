/-
  EditPlansMatchSpec: CheckPlan of the reference.
-/
import Derived.Test.YtpoaikbedcfgaaaDoorEdRe
import Derived.StillTailTactics
namespace Go.Proofs.YtpoaikbedcfgaaaDoor
open Go.RowKit Go.WideMaps Go.Maps

/-- A region whose first operations only read, and whose others follow one another; the world under one name. -/
theorem wp_tail {P : Program} {id : Nat} {Q : Exit → Act → World → Prop} {a : Act} {w : World} {l : List Oper} (n : Nat) (hm : P.follows .mixedOrders = true) (hB : Region.lexTailB .any l.toArray n = true)
    (h : ∀ W, W = w.drew → wpStill P l.toArray W (fun a' => wpList P l.toArray Q (l.drop n) a' W) (l.take n) a) : (Code.region id l.toArray true).wp P Q a w :=
  wp_region_still_tail n hm hB (h _ rfl)
theorem fdE_zero {l : List Fd} {k : Nat} (h : fdE l k = 0) : 0 < (fd l k).cs.length ∧ (fd l k).cs.length ≤ 20 := by
  unfold fdE at h
  split at h
  · exact absurd h ‹_›
  split at h
  · exact absurd h ‹_›
  · exact codes_le (by simpa using ‹¬ codesS _ ≠ 0›)
/-- The reference's product, held at 20001. -/
def mixR (l : List Fd) : Nat → Nat
  | 0 => 1
  | k + 1 => min (mixR l k * (fd l k).cs.length) 20001
theorem mixR_is {l : List Fd} : ∀ {k : Nat}, (∀ i, i < k → 0 < (fd l i).cs.length) → mixR l k = min (mix l k) 20001
  | 0, _ => by unfold mixR mix; decide
  | k + 1, h => by
    have h1 := mixR_is (k := k) fun i hi => h i (by omega)
    have h2 := h k (by omega)
    show min (mixR l k * _) 20001 = min (mix l k * _) 20001
    rw [h1]
    by_cases e : mix l k ≤ 20001
    · rw [Nat.min_eq_left e]
    · have e1 : min (mix l k) 20001 = 20001 := Nat.min_eq_right (by omega)
      rw [e1]
      have a1 : 20001 * 1 ≤ 20001 * (fd l k).cs.length := Nat.mul_le_mul_left _ h2
      have a2 : 20001 * 1 ≤ mix l k * (fd l k).cs.length := Nat.mul_le_mul (by omega) h2
      omega
theorem mixR_le (l : List Fd) (k : Nat) : mixR l k ≤ 20001 := by
  cases k with
  | zero => unfold mixR; decide
  | succ k => exact Nat.min_le_right _ _
set_option maxRecDepth 100000 in
set_option maxHeartbeats 4000000 in
theorem rCheckPlan_c (a : Option Addr) (c : Nat) (l : List Fd) (a2 : Option Addr) (c2 : Nat) (E : List Ed) (w : World) (hl : RdF w a l) (hE : RdE w a2 E) (hEnv : Env w) (hc1 : l.length ≤ c) (hc2 : E.length ≤ c2) :
    Calls Tryd.prog 7 #[.agg #[.slice a l.length c, .slice a2 E.length c2]] w (IntP (planS l E) w) := by
  have h9 := hl.1
  have h9' := hE.1
  obtain ⟨W1, hW1⟩ : ∃ W1, w.alloc (.cells #[.slice a l.length c, .slice a2 E.length c2] 25) = W1 := ⟨_, rfl⟩
  have B1 : Hid (Below w.heap.size w W1 ∧ W1.heap.size = w.heap.size + 1 ∧ W1.cell? ⟨w.heap.size, 0, none⟩ = some (.slice a l.length c) ∧ W1.cell? ⟨w.heap.size, 1, none⟩ = some (.slice a2 E.length c2)) := by
    unfold Hid
    rw [← hW1]
    exact ⟨bel_one _ _, by simp, by rw [World.cell?_alloc_at _ _ _ _ rfl]; rfl, by rw [World.cell?_alloc_at _ _ _ _ rfl]; rfl⟩
  have HL := Lib.hid hl
  have HE := Lib.hid hE
  have HV := Lib.hid hEnv
  have v0 := B1.out.2.2.1
  clear hl hE hEnv
  by_cases h1 : l.length = 0
  · have e : Hid (planS l E = 9) := by
      have : fdsS l = 9 := by unfold fdsS; rw [if_pos h1]
      unfold Hid planS; rw [this]; rfl
    have h1' : ((l.length : Int) == 0) = true := by rw [beq_iff_eq]; omega
    clear h1
    go_enter Tryd.func7, Tryd.ntmps7
    go_wp2
    go_ret
    exact ⟨by rw [e.out]; rfl, B1.out.1⟩
  have h1' : ((l.length : Int) == 0) = false := by rw [beq_eq_false_iff_ne]; omega
  by_cases h2 : 12 < l.length
  · have e : Hid (planS l E = 2) := by
      have : fdsS l = 2 := by unfold fdsS; rw [if_neg h1, if_pos h2]
      unfold Hid planS; rw [this]; rfl
    have h2' : (12 : Int) < (l.length : Int) := by omega
    clear h1 h2
    go_enter Tryd.func7, Tryd.ntmps7
    go_wp2
    go_ret
    exact ⟨by rw [e.out]; rfl, B1.out.1⟩
  have h2' : ¬ (12 : Int) < (l.length : Int) := by omega
  have hfd : Hid (fdsS l = fe (fdE l) l.length) := by unfold Hid fdsS; rw [if_neg h1, if_neg h2]
  have hle : Hid (l.length ≤ 12) := by unfold Hid; omega
  clear h1 h2
  have X : Hid (W1.cell? ⟨w.heap.size, 0, none⟩ = some (.slice a l.length c) ∧ W1.cell? ⟨w.heap.size, 1, none⟩ = some (.slice a2 E.length c2) ∧ w.heap.size < W1.heap.size) := ⟨B1.out.2.2.1, B1.out.2.2.2, by have := B1.out.2.1; omega⟩
  go_enter Tryd.func7, Tryd.ntmps7
  go_wp2
  clear v0 hW1
  go_loopw [3, 23] (fun m i wr => ∃ k : Nat, k ≤ l.length ∧ i = .int .i64 k ∧ m = .int .i64 (mixR l k) ∧ Hid (Below W1.heap.size W1 wr ∧ fe (fdE l) k = 0)) (fun _ i _ => l.length - (intOf i).toNat)
  case atStart => exact ⟨0, Nat.zero_le _, rfl, rfl, Below.refl _ _, rfl⟩
  case round =>
    obtain ⟨k, hk, rfl, rfl, hS⟩ := hrel
    have BWr : Hid (Below w.heap.size w wr) := B1.out.1.trans (hS.out.1.mono B1.out.1.size)
    have y0 : wr.cell? ⟨w.heap.size, 0, none⟩ = some (.slice a l.length c) := (hS.out.1.cell (p := ⟨w.heap.size, 0, none⟩) X.out.2.2).trans X.out.1
    by_cases hlt : k < l.length
    · obtain ⟨b, off, rfl, hAt⟩ := HL.out.at_ hlt
      have hbl : Hid (b < w.heap.size) := by
        obtain ⟨b', off', e, hb, _⟩ := HL.out.2 (by omega)
        injection e with e; injection e with e1 e2; subst e1; exact hb
      obtain ⟨u0, ⟨a', c', u1, hcs'⟩, u2⟩ := hAt.below BWr.out hbl.out
      have HCS : Hid (Rd w a' (fd l k).cs) := by
        obtain ⟨_, ⟨a3, c3, v1, v2⟩, _⟩ := hAt
        have := BWr.out.cell (p := ⟨b, off + k * 3 + 1, none⟩) hbl.out
        rw [this, v1] at u1
        injection u1 with u1; injection u1 with u1 _ _; subst u1
        exact v2
      have h8 := hcs'.1
      clear hcs' hAt
      have hlt' : (k : Int) < (l.length : Int) := by omega
      have hkc : (k : Int) ≤ (c : Int) := by omega
      have hF : Hid (fdE l k ≠ 0 → planS l E = fdE l k) := fun h => by
        have e : fdsS l = fdE l k := by rw [hfd.out]; exact fe_at hlt hS.out.2 h
        unfold planS; rw [e, if_pos h]
      have hN : Hid (fe (fdE l) (k + 1) = fdE l k) := fe_next hS.out.2
      obtain ⟨W3, hW3⟩ : ∃ W3, wr.alloc (.cells #[.string (fd l k).nm, .slice a' (fd l k).cs.length c', .int .i64 (fd l k).wt] 37) = W3 := ⟨_, rfl⟩
      have B3 : Hid (Below wr.heap.size wr W3 ∧ W3.heap.size = wr.heap.size + 1 ∧ W3.cell? ⟨wr.heap.size, 0, none⟩ = some (.string (fd l k).nm) ∧ W3.cell? ⟨wr.heap.size, 1, none⟩ = some (.slice a' (fd l k).cs.length c') ∧ W3.cell? ⟨wr.heap.size, 2, none⟩ = some (.int .i64 (fd l k).wt)) := by
        unfold Hid
        rw [← hW3]
        exact ⟨bel_one _ _, by simp, by rw [World.cell?_alloc_at _ _ _ _ rfl]; rfl, by rw [World.cell?_alloc_at _ _ _ _ rfl]; rfl, by rw [World.cell?_alloc_at _ _ _ _ rfl]; rfl⟩
      have BW3 : Hid (Below w.heap.size w W3) := BWr.out.trans (B3.out.1.mono BWr.out.size)
      have V3 : Hid (W3.cell? ⟨w.heap.size, 0, none⟩ = some (.slice (some ⟨b, off, none⟩) l.length c)) := (B3.out.1.cell (p := ⟨w.heap.size, 0, none⟩) (by have := X.out.2.2; have := hS.out.1.size; show w.heap.size < _; omega)).trans y0
      go_wp2_with fail
      refine wp_tail 5 (by kernel_rfl) (by kernel_rfl) ?_
      intro W4 hW4
      have D4 : Hid (Below W3.heap.size W3 W4) := by unfold Hid; rw [hW4]; exact (Below.refl _ _).drew
      have BW4 : Hid (Below w.heap.size w W4) := BW3.out.trans (D4.out.mono BW3.out.size)
      have lt3 : Hid (wr.heap.size < W3.heap.size) := by have := B3.out.2.1; unfold Hid; omega
      have lt0 : Hid (w.heap.size < W3.heap.size) := by have := X.out.2.2; have := hS.out.1.size; have := lt3.out; unfold Hid; omega
      have v0 := (D4.out.cell (p := ⟨wr.heap.size, 0, none⟩) lt3.out).trans B3.out.2.2.1
      have v1 := (D4.out.cell (p := ⟨wr.heap.size, 1, none⟩) lt3.out).trans B3.out.2.2.2.1
      have v2 := (D4.out.cell (p := ⟨wr.heap.size, 2, none⟩) lt3.out).trans B3.out.2.2.2.2
      have v3 := (D4.out.cell (p := ⟨w.heap.size, 0, none⟩) lt0.out).trans V3.out
      have V1 := Lib.hid v1
      have HK : Hid (Calls Tryd.prog 18 #[.agg #[.string (fd l k).nm, .slice a' (fd l k).cs.length c', .int .i64 (fd l k).wt], .slice (some ⟨b, off, none⟩) k c] W4 (IntP (fdE l k) W4)) := by
        rw [fdE_is]
        exact rcheckField_c (some ⟨b, off, none⟩) c l k _ _ _ a' c' w W4 HL.out (by omega) HCS.out BW4.out HV.out
      have H9 := Lib.hid (And.intro h9 (And.intro h9' h8))
      clear hW4 hW3 y0 u0 u1 u2 h9 h9' h8
      simp only [List.take_succ_cons, List.take_zero, List.drop_succ_cons, List.drop_zero]
      repeat still_step
      refine wpStill_nil ?_
      clear v0 v1 v2 v3
      have h8 := H9.out.2.2
      have h9 := H9.out.1
      have h9' := H9.out.2.1
      go_wp2_with fail
      refine HK.out.mono ?_
      rintro e W5 ⟨rfl, b5⟩
      have BW5 : Hid (Below w.heap.size w W5) := BW4.out.trans (b5.mono BW4.out.size)
      have S5 : Hid (Below W1.heap.size W1 W5) := (hS.out.1.trans (B3.out.1.mono hS.out.1.size)).trans ((D4.out.mono (by have := hS.out.1.size; have := lt3.out; omega)).trans (b5.mono (by have := hS.out.1.size; have := lt3.out; have := D4.out.size; omega)))
      have x1 : W5.cell? ⟨wr.heap.size, 1, none⟩ = some (.slice a' (fd l k).cs.length c') := (b5.cell (p := ⟨wr.heap.size, 1, none⟩) (Nat.lt_of_lt_of_le lt3.out D4.out.size)).trans V1.out
      clear b5
      by_cases hc : fdE l k = 0
      · have hz := fdE_zero hc
        have hmr := mixR_le l k
        have NX : Hid (Below W1.heap.size W1 W5 ∧ fe (fdE l) (k + 1) = 0) := ⟨S5.out, by rw [hN.out, hc]⟩
        have HMX : Hid (mixR l (k + 1) = min (mixR l k * (fd l k).cs.length) 20001) := rfl
        rw [hc]
        have hmu : mixR l k * (fd l k).cs.length ≤ 20001 * 20 := Nat.mul_le_mul hmr hz.2
        obtain ⟨M, hM⟩ : ∃ M, mixR l k * (fd l k).cs.length = M := ⟨_, rfl⟩
        have HM := Lib.hid hM
        have hmul : (mixR l k : Int) * ((fd l k).cs.length : Int) = (M : Int) := by rw [← hM]; simp
        rw [hM] at hmu
        clear hM hc
        go_wp2
        go_roundw
        case rel => exact ⟨k + 1, by omega, by go_num, by rw [HMX.out, HM.out]; exact congrArg (Value.int .i64) (by omega), NX.out⟩
        case measure => simp [intOf]; omega
      · have hR := Lib.hid (hF.out hc)
        have hc' : (fdE l k == 0) = false := by rw [beq_eq_false_iff_ne]; exact hc
        clear hc
        generalize fdE l k = ch at *
        go_wp2
        go_ret
        exact ⟨by rw [hR.out]; rfl, BW5.out⟩
    · obtain rfl : k = l.length := by omega
      clear hlt
      obtain ⟨wA, hwA⟩ : ∃ x : World, x = wr := ⟨wr, rfl⟩
      subst hwA
      have hf0 : fdsS l = 0 := by rw [hfd.out]; exact hS.out.2
      have hpos := (fds_codes hf0).2.2
      have hmx := mixR_is (l := l) (k := l.length) fun i hi => (hpos i hi).1
      have HP : Hid (planS l E = if 20000 < mix l l.length then 2 else if 60 < E.length then 2 else fe (edE l E) E.length) := by unfold Hid planS; rw [if_neg (by simpa using hf0)]
      clear hpos hf0
      have y1 : wA.cell? ⟨w.heap.size, 1, none⟩ = some (.slice a2 E.length c2) := (hS.out.1.cell (p := ⟨w.heap.size, 1, none⟩) X.out.2.2).trans X.out.2.1
      have hsz : Hid (w.heap.size < wA.heap.size) := Nat.lt_of_lt_of_le X.out.2.2 hS.out.1.size
      by_cases hm : 20000 < mix l l.length
      · have hR : Hid (planS l E = 2) := by unfold Hid; rw [HP.out, if_pos hm]
        have hm' : (20000 : Int) < (mixR l l.length : Int) := by omega
        clear hm hmx
        go_wp2
        go_ret
        exact ⟨by rw [hR.out]; rfl, BWr.out⟩
      have hm' : ¬ (20000 : Int) < (mixR l l.length : Int) := by omega
      by_cases h60 : 60 < E.length
      · have hR : Hid (planS l E = 2) := by unfold Hid; rw [HP.out, if_neg hm, if_pos h60]
        have h60' : (60 : Int) < (E.length : Int) := by omega
        clear hm h60 hmx
        go_wp2
        go_ret
        exact ⟨by rw [hR.out]; rfl, BWr.out⟩
      have hP2 : Hid (planS l E = fe (edE l E) E.length) := by unfold Hid; rw [HP.out, if_neg hm, if_neg h60]
      have h60' : ¬ (60 : Int) < (E.length : Int) := by omega
      have Y := Lib.hid (And.intro y0 y1)
      clear hm h60 hmx
      go_wp2
      clear y0 y1
      go_loopw [55] (fun i wq => ∃ m : Nat, m ≤ E.length ∧ i = .int .i64 m ∧ Hid (Below wA.heap.size wA wq ∧ fe (edE l E) m = 0)) (fun i _ => E.length - (intOf i).toNat)
      case atStart => exact ⟨0, Nat.zero_le _, rfl, Below.refl _ _, rfl⟩
      case round =>
        obtain ⟨m, hm, rfl, hQ⟩ := hrel
        have BWq : Hid (Below w.heap.size w wr) := BWr.out.trans (hQ.out.1.mono BWr.out.size)
        by_cases hlt : m < E.length
        · obtain ⟨b, off, rfl, hAt⟩ := HE.out.at_ hlt
          have hbl : Hid (b < w.heap.size) := by
            obtain ⟨b', off', e, hb, _⟩ := HE.out.2 (by omega)
            injection e with e; injection e with e1 e2; subst e1; exact hb
          obtain ⟨u0, a', c', u1, hLL⟩ := hAt.below BWq.out hbl.out
          have HLL := Lib.hid (RdL.anew hAt BWq.out hbl.out u1)
          clear hLL hAt
          have hlt' : (m : Int) < (E.length : Int) := by omega
          have hkc : (m : Int) ≤ (c2 : Int) := by omega
          have hF : Hid (edE l E m ≠ 0 → planS l E = edE l E m) := fun h => by rw [hP2.out]; exact fe_at hlt hQ.out.2 h
          have hN : Hid (fe (edE l E) (m + 1) = edE l E m) := fe_next hQ.out.2
          obtain ⟨W3, hW3⟩ : ∃ W3, wr.alloc (.cells #[.string (ed E m).nm, .slice a' (ed E m).ss.length c'] 46) = W3 := ⟨_, rfl⟩
          have B3 : Hid (Below wr.heap.size wr W3 ∧ W3.heap.size = wr.heap.size + 1 ∧ W3.cell? ⟨wr.heap.size, 0, none⟩ = some (.string (ed E m).nm) ∧ W3.cell? ⟨wr.heap.size, 1, none⟩ = some (.slice a' (ed E m).ss.length c')) := by
            unfold Hid
            rw [← hW3]
            exact ⟨bel_one _ _, by simp, by rw [World.cell?_alloc_at _ _ _ _ rfl]; rfl, by rw [World.cell?_alloc_at _ _ _ _ rfl]; rfl⟩
          have BW3 : Hid (Below w.heap.size w W3) := BWq.out.trans (B3.out.1.mono BWq.out.size)
          have lt3 : Hid (wr.heap.size < W3.heap.size) := by have := B3.out.2.1; unfold Hid; omega
          have ltr : Hid (w.heap.size < wr.heap.size) := by have := hsz.out; have := hQ.out.1.size; unfold Hid; omega
          have lt0 : Hid (w.heap.size < W3.heap.size) := by have := ltr.out; have := lt3.out; unfold Hid; omega
          have V3 : Hid (W3.cell? ⟨w.heap.size, 0, none⟩ = some (.slice a l.length c) ∧ W3.cell? ⟨w.heap.size, 1, none⟩ = some (.slice (some ⟨b, off, none⟩) E.length c2)) :=
            ⟨(B3.out.1.cell (p := ⟨w.heap.size, 0, none⟩) ltr.out).trans ((hQ.out.1.cell (p := ⟨w.heap.size, 0, none⟩) hsz.out).trans Y.out.1), (B3.out.1.cell (p := ⟨w.heap.size, 1, none⟩) ltr.out).trans ((hQ.out.1.cell (p := ⟨w.heap.size, 1, none⟩) hsz.out).trans Y.out.2)⟩
          go_wp2_with fail
          refine wp_tail 7 (by kernel_rfl) (by kernel_rfl) ?_
          intro W4 hW4
          have D4 : Hid (Below W3.heap.size W3 W4) := by unfold Hid; rw [hW4]; exact (Below.refl _ _).drew
          have BW4 : Hid (Below w.heap.size w W4) := BW3.out.trans (D4.out.mono BW3.out.size)
          have v0 := (D4.out.cell (p := ⟨wr.heap.size, 0, none⟩) lt3.out).trans B3.out.2.2.1
          have v1 := (D4.out.cell (p := ⟨wr.heap.size, 1, none⟩) lt3.out).trans B3.out.2.2.2
          have v2 := (D4.out.cell (p := ⟨w.heap.size, 0, none⟩) lt0.out).trans V3.out.1
          have v3 := (D4.out.cell (p := ⟨w.heap.size, 1, none⟩) lt0.out).trans V3.out.2
          have HK : Hid (Calls Tryd.prog 19 #[.agg #[.string (ed E m).nm, .slice a' (ed E m).ss.length c'], .slice (some ⟨b, off, none⟩) m c2, .slice a l.length c] W4 (IntP (edE l E m) W4)) := by
            rw [edE_isG]
            exact rcheckEdit_c (some ⟨b, off, none⟩) c2 E a c l m _ _ a' c' w W4 HE.out HL.out (by omega) HLL.out BW4.out HV.out
          clear hW4 hW3 u0 u1
          simp only [List.take_succ_cons, List.take_zero, List.drop_succ_cons, List.drop_zero]
          repeat still_step
          refine wpStill_nil ?_
          clear v0 v1 v2 v3
          go_wp2_with fail
          refine HK.out.mono ?_
          rintro e W5 ⟨rfl, b5⟩
          have BW5 : Hid (Below w.heap.size w W5) := BW4.out.trans (b5.mono BW4.out.size)
          have S5 : Hid (Below wA.heap.size wA W5) := (hQ.out.1.trans (B3.out.1.mono hQ.out.1.size)).trans ((D4.out.mono (by have := hQ.out.1.size; have := lt3.out; omega)).trans (b5.mono (by have := hQ.out.1.size; have := lt3.out; have := D4.out.size; omega)))
          clear b5
          by_cases hc : edE l E m = 0
          · have NX : Hid (Below wA.heap.size wA W5 ∧ fe (edE l E) (m + 1) = 0) := ⟨S5.out, by rw [hN.out, hc]⟩
            rw [hc]
            clear hc
            go_wp2
            go_roundw
            case rel => exact ⟨m + 1, by omega, by go_num, NX.out⟩
            case measure => simp [intOf]; omega
          · have hR := Lib.hid (hF.out hc)
            have hc' : (edE l E m == 0) = false := by rw [beq_eq_false_iff_ne]; exact hc
            clear hc
            generalize edE l E m = ch at *
            go_wp2
            go_ret
            exact ⟨by rw [hR.out]; rfl, BW5.out⟩
        · obtain rfl : m = E.length := by omega
          clear hlt
          have hR : Hid (planS l E = 0) := by unfold Hid; rw [hP2.out]; exact hQ.out.2
          go_wp2
          go_ret
          exact ⟨by rw [hR.out]; rfl, BWq.out⟩
end Go.Proofs.YtpoaikbedcfgaaaDoor
